/- The contracts of package answer: each call returns what the plain functions give, whatever its arguments; of what was there nothing has turned. -/
import Derived.Test.YthpoefaipmcceaaEntWalk
import Derived.Test.YthpoefaipmcceaaOpsRow
import Derived.Test.YthpoefaipmcceaaAnsMath
namespace Go.Proofs.Ythpoefaipmcceaa.AnsWalk
open Go.Proofs.Ythpoefaipmcceaa Go.RowKit Go.Proofs.Ythpoefaipmcceaa.Bytes Go.Proofs.Ythpoefaipmcceaa.NorWalk Go.Proofs.Ythpoefaipmcceaa.Ent Go.Proofs.Ythpoefaipmcceaa.EntLow Go.Proofs.Ythpoefaipmcceaa.Ans
open Go.Proofs.Ythpoefaipmcceaa.EntRow (text_ne size_alloc1)
open Go.Proofs.Ythpoefaipmcceaa.EntWalk (lowT size_lowT list_lowT numS ext_le)
open Go.Proofs.Ythpoefaipmcceaa.EntWalk (lowT_any)
open Go.Proofs.Ythpoefaipmcceaa.EntWalk (num_low)
open Go.Proofs.Ythpoefaipmcceaa.OpsRow (boxM boxB boxD thenD)
attribute [local go_sem ↓] Go.wp_at_zero Go.wp_at_succ

theorem num_any (n : Int) (w : World) : Calls Try.prog 12 #[.int .i64 n] w fun e w' => e = .returned (.int .i64 n) ∧ w' = w := by
  go_enter Try.func12, Try.ntmps12
  go_wp2
  go_ret
  exact ⟨rfl, rfl⟩
theorem mayStatus_any (n : Int) (w : World) : Calls Try.prog 53 #[.int .i64 n] w fun e w' => e = .returned (.bool (stB n)) ∧ w' = w := by
  go_enter Try.func53, Try.ntmps53
  go_wp2
  all_goals
    go_ret
    exact ⟨ret_bool (by unfold stB; rw [Bool.eq_iff_iff]; simp; try omega), rfl⟩
theorem mayState_any (n : Int) (w : World) : Calls Try.prog 54 #[.int .i64 n] w fun e w' => e = .returned (.bool (saB n)) ∧ w' = w := by
  go_enter Try.func54, Try.ntmps54
  go_wp2
  all_goals
    go_ret
    exact ⟨ret_bool (by unfold saB; rw [Bool.eq_iff_iff]; simp; try omega), rfl⟩
theorem may_ways (c v n : Int) : (stB c = false ∧ ansB c v n = false) ∨ (stB c = true ∧ ¬ 0 ≤ v ∧ ansB c v n = false) ∨ (stB c = true ∧ 0 ≤ v ∧ ¬ v ≤ 255 ∧ ansB c v n = false) ∨ (stB c = true ∧ 0 ≤ v ∧ v ≤ 255 ∧ saB n = false ∧ ansB c v n = false) ∨ (stB c = true ∧ 0 ≤ v ∧ v ≤ 255 ∧ saB n = true ∧ ansB c v n = true) := by
  unfold stB saB ansB
  simp only [decide_eq_true_eq, decide_eq_false_iff_not]
  omega
set_option maxRecDepth 100000 in
set_option maxHeartbeats 1000000 in
theorem amay_any (c v n : Int) (w : World) : Calls Try.prog 37 #[.agg #[.int .i64 c, .int .i64 v, .int .i64 n]] w fun e w' => e = .returned (.bool (ansB c v n)) ∧ Below w.heap.size w w' := by
  have hX := boxM w (.int .i64 c) (.int .i64 v) (.int .i64 n) 73
  rcases may_ways c v n with ⟨h1, h⟩ | ⟨h1, h2, h⟩ | ⟨h1, h2, h3, h⟩ | ⟨h1, h2, h3, h4, h⟩ | ⟨h1, h2, h3, h4, h⟩
  all_goals
    rw [h]
    clear h
    go_enter Try.func37, Try.ntmps37
    go_wp2_with (first | (go_at_call 53; refine (mayStatus_any _ _).mono ?_; rintro e w' ⟨rfl, rfl⟩) | (go_at_call 54; refine (mayState_any _ _).mono ?_; rintro e w' ⟨rfl, rfl⟩))
    go_ret
    first | exact ⟨rfl, (Below.refl _ _).alloc (Nat.le_refl _) _⟩ | exact ⟨ret_bool (decide_eq_false (by omega)), (Below.refl _ _).alloc (Nat.le_refl _) _⟩ | exact ⟨ret_bool (decide_eq_true (by omega)), (Below.refl _ _).alloc (Nat.le_refl _) _⟩
theorem laid {c v n : Int} (h : ansB c v n = true) : lowT c 1 ++ lowT v 3 ++ lowT n 1 ++ lowT 0 1 = ansS c v n := by
  apply ba_ext
  rw [list_ansS h, list_append, list_append, list_append, list_lowT, list_lowT, list_lowT, list_lowT]
  rfl
theorem num_parts (s : ByteArray) : numS (s.extract 0 1) = (rSt s.data.toList : Int) ∧ numS (s.extract 1 4) = (rTi s.data.toList : Int) ∧ numS (s.extract 4 5) = (rSa s.data.toList : Int) := by
  unfold numS rSt rTi rSa
  rw [list_extract, list_extract, list_extract]
  exact ⟨rfl, rfl, rfl⟩
/-- A text of six bytes: no answer's numbers; numbers of one, but other bytes; one. -/
theorem ans_ways {s : ByteArray} (h1 : s.size = 6) : (ansB (numS (s.extract 0 1)) (numS (s.extract 1 4)) (numS (s.extract 4 5)) = false ∧ isAns s = false) ∨ (ansB (numS (s.extract 0 1)) (numS (s.extract 1 4)) (numS (s.extract 4 5)) = true ∧ ¬ ansS (numS (s.extract 0 1)) (numS (s.extract 1 4)) (numS (s.extract 4 5)) = s ∧ isAns s = false) ∨ (ansB (numS (s.extract 0 1)) (numS (s.extract 1 4)) (numS (s.extract 4 5)) = true ∧ ansS (numS (s.extract 0 1)) (numS (s.extract 1 4)) (numS (s.extract 4 5)) = s ∧ isAns s = true) := by
  obtain ⟨e1, e2, e3⟩ := num_parts s
  rw [e1, e2, e3]
  cases h2 : ansB (rSt s.data.toList) (rTi s.data.toList) (rSa s.data.toList) with
  | false =>
    refine .inl ⟨rfl, ?_⟩
    unfold isAns
    exact decide_eq_false (fun h => by rw [h2] at h; exact absurd h.2.1 (by decide))
  | true =>
    by_cases h3 : ansS (rSt s.data.toList) (rTi s.data.toList) (rSa s.data.toList) = s
    · exact .inr (.inr ⟨rfl, h3, isAns_parts.2 ⟨h1, h2, (list_ansS h2).symm.trans (congrArg (fun x => x.data.toList) h3)⟩⟩)
    · refine .inr (.inl ⟨rfl, h3, ?_⟩)
      unfold isAns
      refine decide_eq_false (fun h => h3 (ba_ext ?_))
      rw [list_ansS h2]
      exact h.2.2
theorem build_ans (c v n : Int) (w : World) : (Instr.build 73 #[(0, .int .i64 c), (1, .int .i64 v), (2, .int .i64 n)]).run Try.prog w = .ok (.agg #[.int .i64 c, .int .i64 v, .int .i64 n]) w := run_build w 73 _ _ (by kernel_rfl)
theorem build_no (w : World) : (Instr.build 73 #[]).run Try.prog w = .ok (.agg #[.int .i64 0, .int .i64 0, .int .i64 0]) w := run_build w 73 _ _ (by kernel_rfl)
theorem build_c (v : Int) (w : World) : (Instr.build 73 #[(0, .int .i64 v)]).run Try.prog w = .ok (.agg #[.int .i64 v, .int .i64 0, .int .i64 0]) w := run_build w 73 _ _ (by kernel_rfl)
theorem build_v (v : Int) (w : World) : (Instr.build 73 #[(1, .int .i64 v)]).run Try.prog w = .ok (.agg #[.int .i64 0, .int .i64 v, .int .i64 0]) w := run_build w 73 _ _ (by kernel_rfl)
theorem build_n (v : Int) (w : World) : (Instr.build 73 #[(2, .int .i64 v)]).run Try.prog w = .ok (.agg #[.int .i64 0, .int .i64 0, .int .i64 v]) w := run_build w 73 _ _ (by kernel_rfl)
/-- A struct of three cells in a block of its own that may be written. -/
theorem resM (w : World) (x y z : Value) (e : TypeId) : w.heap.size < (w.alloc (.cells #[x, y, z] e)).heap.size ∧ (w.alloc (.cells #[x, y, z] e)).cell? ⟨w.heap.size, 0, none⟩ = some x ∧ (w.alloc (.cells #[x, y, z] e)).cell? ⟨w.heap.size, 1, none⟩ = some y ∧ (w.alloc (.cells #[x, y, z] e)).cell? ⟨w.heap.size, 2, none⟩ = some z ∧ ∀ i, (w.alloc (.cells #[x, y, z] e)).frozen? ⟨w.heap.size, i, none⟩ = false := by
  obtain ⟨h1, h2, h3, h4⟩ := boxM w x y z e
  exact ⟨h1, h2, h3, h4, fun i => World.frozen?_alloc_at _ e _ i rfl⟩
theorem resB {w w' : World} {B : Nat} {x y z : Value} (h : B < w.heap.size ∧ w.cell? ⟨B, 0, none⟩ = some x ∧ w.cell? ⟨B, 1, none⟩ = some y ∧ w.cell? ⟨B, 2, none⟩ = some z ∧ ∀ i, w.frozen? ⟨B, i, none⟩ = false) (hb : Below w.heap.size w w') :
    B < w'.heap.size ∧ w'.cell? ⟨B, 0, none⟩ = some x ∧ w'.cell? ⟨B, 1, none⟩ = some y ∧ w'.cell? ⟨B, 2, none⟩ = some z ∧ ∀ i, w'.frozen? ⟨B, i, none⟩ = false := by
  obtain ⟨h0, h1, h2, h3, h4⟩ := h
  obtain ⟨g0, g1, g2, g3⟩ := boxB ⟨h0, h1, h2, h3⟩ hb
  exact ⟨g0, g1, g2, g3, fun i => by rw [hb.frozen (p := ⟨B, i, none⟩) h0]; exact h4 i⟩
/-- A struct's three cells, stored. -/
theorem set3 {B0 : Nat} {w w' : World} {B : Nat} {x y z : Value} (h : Below B0 w w') (hB : B0 ≤ B) : Below B0 w (((w'.setCell ⟨B, 0, none⟩ x).setCell ⟨B, 1, none⟩ y).setCell ⟨B, 2, none⟩ z) := ((h.setCell (p := ⟨B, 0, none⟩) hB _).setCell (p := ⟨B, 1, none⟩) hB _).setCell (p := ⟨B, 2, none⟩) hB _
theorem ret_ans {a b c e a' b' c' e' : Int} (h : a = a' ∧ b = b' ∧ c = c' ∧ e = e') : Ending.returned (.tuple #[.agg #[.int .i64 a, .int .i64 b, .int .i64 c], .int .i64 e]) = .returned (.tuple #[.agg #[.int .i64 a', .int .i64 b', .int .i64 c'], .int .i64 e']) := by
  obtain ⟨rfl, rfl, rfl, rfl⟩ := h
  rfl
theorem zero_ans {s : ByteArray} (h : isAns s = false) : (0 : Int) = aSt s ∧ (0 : Int) = aTi s ∧ (0 : Int) = aSa s ∧ (1400 : Int) = errW (isAns s) := by
  obtain ⟨g1, g2, g3⟩ := ans_none h
  exact ⟨g1.symm, g2.symm, g3.symm, (errW_f h).symm⟩
theorem some_ans {s : ByteArray} (h : isAns s = true) : numS (s.extract 0 1) = aSt s ∧ numS (s.extract 1 4) = aTi s ∧ numS (s.extract 4 5) = aSa s ∧ (0 : Int) = errW (isAns s) := by
  obtain ⟨g1, g2, g3⟩ := ans_ok h
  obtain ⟨f1, f2, f3⟩ := num_parts s
  exact ⟨f1.trans g1.symm, f2.trans g2.symm, f3.trans g3.symm, (errW_t h).symm⟩
end Go.Proofs.Ythpoefaipmcceaa.AnsWalk
