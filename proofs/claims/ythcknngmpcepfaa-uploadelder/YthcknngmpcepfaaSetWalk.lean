/- The contracts of package setup: each call returns what the plain functions give, whatever its arguments; of what was there nothing has turned. -/
import Derived.Test.YthcknngmpcepfaaBagEnt
import Derived.Test.YthcknngmpcepfaaBagOps
import Derived.Test.YthcknngmpcepfaaSetMath
namespace Go.Proofs.Ythcknngmpcepfaa.SetWalk
open Go.Proofs.Ythcknngmpcepfaa Go.RowKit Go.Proofs.Ythcknngmpcepfaa.Bytes Go.Proofs.Ythcknngmpcepfaa.NorWalk Go.Proofs.Ythcknngmpcepfaa.Ent Go.Proofs.Ythcknngmpcepfaa.EntLow Go.Proofs.Ythcknngmpcepfaa.Sup
open Go.Proofs.Ythcknngmpcepfaa.EntRow (text_ne size_alloc1)
open Go.Proofs.Ythcknngmpcepfaa.EntWalk (lowT size_lowT list_lowT numS ext_le)
open Go.Proofs.Ythcknngmpcepfaa.EntWalk (lowT_any)
open Go.Proofs.Ythcknngmpcepfaa.EntWalk (num_low)
open Go.Proofs.Ythcknngmpcepfaa.OpsRow (boxM boxB boxD thenD)
attribute [local go_sem ↓] Go.wp_at_zero Go.wp_at_succ

theorem num_any (n : Int) (w : World) : Calls Try.prog 13 #[.int .i64 n] w fun e w' => e = .returned (.int .i64 n) ∧ w' = w := by
  go_enter Try.func13, Try.ntmps13
  go_wp2
  go_ret
  exact ⟨rfl, rfl⟩
theorem mayCode_any (n : Int) (w : World) : Calls Try.prog 68 #[.int .i64 n] w fun e w' => e = .returned (.bool (codeB n)) ∧ w' = w := by
  go_enter Try.func68, Try.ntmps68
  go_wp2
  all_goals
    go_ret
    exact ⟨ret_bool (by unfold codeB; rw [Bool.eq_iff_iff]; simp; try omega), rfl⟩
theorem kind_ways (c : Int) : (c = 2 ∧ kind c = 161) ∨ (c = 3 ∧ kind c = 161) ∨ (c = 5 ∧ kind c = 161) ∨ (¬ c = 2 ∧ ¬ c = 3 ∧ ¬ c = 5 ∧ kind c = 33) := by
  unfold kind
  split <;> omega
theorem may_ways (c v n : Int) : (codeB c = false ∧ supB c v n = false) ∨ (codeB c = true ∧ ¬ 0 ≤ v ∧ supB c v n = false) ∨ (codeB c = true ∧ 0 ≤ v ∧ ¬ v ≤ 65535 ∧ supB c v n = false) ∨ (codeB c = true ∧ 0 ≤ v ∧ v ≤ 65535 ∧ ¬ 0 ≤ n ∧ supB c v n = false) ∨ (codeB c = true ∧ 0 ≤ v ∧ v ≤ 65535 ∧ 0 ≤ n ∧ ¬ n ≤ 32 ∧ supB c v n = false) ∨ (codeB c = true ∧ 0 ≤ v ∧ v ≤ 65535 ∧ 0 ≤ n ∧ n ≤ 32 ∧ supB c v n = true) := by
  unfold codeB supB
  simp only [decide_eq_true_eq, decide_eq_false_iff_not]
  omega
set_option maxRecDepth 100000 in
set_option maxHeartbeats 1000000 in
theorem smay_any (c v n : Int) (w : World) : Calls Try.prog 49 #[.agg #[.int .i64 c, .int .i64 v, .int .i64 n]] w fun e w' => e = .returned (.bool (supB c v n)) ∧ Below w.heap.size w w' := by
  have hX := boxM w (.int .i64 c) (.int .i64 v) (.int .i64 n) 85
  rcases may_ways c v n with ⟨h1, h⟩ | ⟨h1, h2, h⟩ | ⟨h1, h2, h3, h⟩ | ⟨h1, h2, h3, h4, h⟩ | ⟨h1, h2, h3, h4, h5, h⟩ | ⟨h1, h2, h3, h4, h5, h⟩
  all_goals
    rw [h]
    clear h
    go_enter Try.func49, Try.ntmps49
    go_wp2_with (go_at_call 68; refine (mayCode_any _ _).mono ?_; rintro e w' ⟨rfl, rfl⟩)
    go_ret
    first | exact ⟨rfl, (Below.refl _ _).alloc (Nat.le_refl _) _⟩ | exact ⟨ret_bool (decide_eq_false (by omega)), (Below.refl _ _).alloc (Nat.le_refl _) _⟩ | exact ⟨ret_bool (decide_eq_true (by omega)), (Below.refl _ _).alloc (Nat.le_refl _) _⟩
theorem laid {c v n : Int} (h : supB c v n = true) : lowT (kind c) 1 ++ lowT c 1 ++ lowT v 2 ++ lowT 0 2 ++ lowT n 2 = supS c v n := by
  apply ba_ext
  rw [list_supS h, list_append, list_append, list_append, list_append, list_lowT, list_lowT, list_lowT, list_lowT, list_lowT]
  rfl
theorem num_parts (s : ByteArray) : numS (s.extract 1 2) = (fc s.data.toList : Int) ∧ numS (s.extract 2 4) = (fv s.data.toList : Int) ∧ numS (s.extract 6 8) = (fn s.data.toList : Int) := by
  unfold numS fc fv fn
  rw [list_extract, list_extract, list_extract]
  exact ⟨rfl, rfl, rfl⟩
/-- A text of eight bytes: no request's numbers; numbers of one, but other bytes; one. -/
theorem got_ways {s : ByteArray} (h1 : s.size = 8) : (supB (numS (s.extract 1 2)) (numS (s.extract 2 4)) (numS (s.extract 6 8)) = false ∧ gotB s = false) ∨ (supB (numS (s.extract 1 2)) (numS (s.extract 2 4)) (numS (s.extract 6 8)) = true ∧ ¬ supS (numS (s.extract 1 2)) (numS (s.extract 2 4)) (numS (s.extract 6 8)) = s ∧ gotB s = false) ∨ (supB (numS (s.extract 1 2)) (numS (s.extract 2 4)) (numS (s.extract 6 8)) = true ∧ supS (numS (s.extract 1 2)) (numS (s.extract 2 4)) (numS (s.extract 6 8)) = s ∧ gotB s = true) := by
  obtain ⟨e1, e2, e3⟩ := num_parts s
  rw [e1, e2, e3]
  cases h2 : supB (fc s.data.toList) (fv s.data.toList) (fn s.data.toList) with
  | false =>
    refine .inl ⟨rfl, ?_⟩
    unfold gotB
    exact decide_eq_false (fun h => by rw [h2] at h; exact absurd h.2.1 (by decide))
  | true =>
    by_cases h3 : supS (fc s.data.toList) (fv s.data.toList) (fn s.data.toList) = s
    · exact .inr (.inr ⟨rfl, h3, gotB_parts.2 ⟨h1, h2, (list_supS h2).symm.trans (congrArg (fun x => x.data.toList) h3)⟩⟩)
    · refine .inr (.inl ⟨rfl, h3, ?_⟩)
      unfold gotB
      refine decide_eq_false (fun h => h3 (ba_ext ?_))
      rw [list_supS h2]
      exact h.2.2
theorem build_set (c v n : Int) (w : World) : (Instr.build 85 #[(0, .int .i64 c), (1, .int .i64 v), (2, .int .i64 n)]).run Try.prog w = .ok (.agg #[.int .i64 c, .int .i64 v, .int .i64 n]) w := run_build w 85 _ _ (by kernel_rfl)
theorem build_no (w : World) : (Instr.build 85 #[]).run Try.prog w = .ok (.agg #[.int .i64 0, .int .i64 0, .int .i64 0]) w := run_build w 85 _ _ (by kernel_rfl)
theorem build_c (v : Int) (w : World) : (Instr.build 85 #[(0, .int .i64 v)]).run Try.prog w = .ok (.agg #[.int .i64 v, .int .i64 0, .int .i64 0]) w := run_build w 85 _ _ (by kernel_rfl)
theorem build_v (v : Int) (w : World) : (Instr.build 85 #[(1, .int .i64 v)]).run Try.prog w = .ok (.agg #[.int .i64 0, .int .i64 v, .int .i64 0]) w := run_build w 85 _ _ (by kernel_rfl)
theorem build_n (v : Int) (w : World) : (Instr.build 85 #[(2, .int .i64 v)]).run Try.prog w = .ok (.agg #[.int .i64 0, .int .i64 0, .int .i64 v]) w := run_build w 85 _ _ (by kernel_rfl)
/-- A struct of three cells in a block of its own that may be written. -/
theorem resM (w : World) (x y z : Value) (e : TypeId) : w.heap.size < (w.alloc (.cells #[x, y, z] e)).heap.size ∧ (w.alloc (.cells #[x, y, z] e)).cell? ⟨w.heap.size, 0, none⟩ = some x ∧ (w.alloc (.cells #[x, y, z] e)).cell? ⟨w.heap.size, 1, none⟩ = some y ∧ (w.alloc (.cells #[x, y, z] e)).cell? ⟨w.heap.size, 2, none⟩ = some z ∧ ∀ i, (w.alloc (.cells #[x, y, z] e)).frozen? ⟨w.heap.size, i, none⟩ = false := by
  obtain ⟨h1, h2, h3, h4⟩ := boxM w x y z e
  exact ⟨h1, h2, h3, h4, fun i => World.frozen?_alloc_at _ e _ i rfl⟩
theorem resB {w w' : World} {B : Nat} {x y z : Value} (h : B < w.heap.size ∧ w.cell? ⟨B, 0, none⟩ = some x ∧ w.cell? ⟨B, 1, none⟩ = some y ∧ w.cell? ⟨B, 2, none⟩ = some z ∧ ∀ i, w.frozen? ⟨B, i, none⟩ = false) (hb : Below w.heap.size w w') :
    B < w'.heap.size ∧ w'.cell? ⟨B, 0, none⟩ = some x ∧ w'.cell? ⟨B, 1, none⟩ = some y ∧ w'.cell? ⟨B, 2, none⟩ = some z ∧ ∀ i, w'.frozen? ⟨B, i, none⟩ = false := by
  obtain ⟨h0, h1, h2, h3, h4⟩ := h
  obtain ⟨g0, g1, g2, g3⟩ := boxB ⟨h0, h1, h2, h3⟩ hb
  exact ⟨g0, g1, g2, g3, fun i => by rw [hb.frozen (p := ⟨B, i, none⟩) h0]; exact h4 i⟩
/-- A struct's three cells, stored. -/
theorem set3 {B0 : Nat} {w w' : World} {B : Nat} {x y z : Value} (h : Below B0 w w') (hB : B0 ≤ B) : Below B0 w (((w'.setCell ⟨B, 0, none⟩ x).setCell ⟨B, 1, none⟩ y).setCell ⟨B, 2, none⟩ z) := ((h.setCell (p := ⟨B, 0, none⟩) hB _).setCell (p := ⟨B, 1, none⟩) hB _).setCell (p := ⟨B, 2, none⟩) hB _
theorem ret_set {a b c e a' b' c' e' : Int} (h : a = a' ∧ b = b' ∧ c = c' ∧ e = e') : Ending.returned (.tuple #[.agg #[.int .i64 a, .int .i64 b, .int .i64 c], .int .i64 e]) = .returned (.tuple #[.agg #[.int .i64 a', .int .i64 b', .int .i64 c'], .int .i64 e']) := by
  obtain ⟨rfl, rfl, rfl, rfl⟩ := h
  rfl
theorem zero_set {s : ByteArray} (h : gotB s = false) : (0 : Int) = gc s ∧ (0 : Int) = gv s ∧ (0 : Int) = gn s ∧ (1300 : Int) = errU (gotB s) := by
  obtain ⟨g1, g2, g3⟩ := got_no h
  exact ⟨g1.symm, g2.symm, g3.symm, (errU_f h).symm⟩
theorem some_set {s : ByteArray} (h : gotB s = true) : numS (s.extract 1 2) = gc s ∧ numS (s.extract 2 4) = gv s ∧ numS (s.extract 6 8) = gn s ∧ (0 : Int) = errU (gotB s) := by
  obtain ⟨g1, g2, g3⟩ := got_ok h
  obtain ⟨f1, f2, f3⟩ := num_parts s
  exact ⟨f1.trans g1.symm, f2.trans g2.symm, f3.trans g3.symm, (errU_t h).symm⟩
end Go.Proofs.Ythcknngmpcepfaa.SetWalk
