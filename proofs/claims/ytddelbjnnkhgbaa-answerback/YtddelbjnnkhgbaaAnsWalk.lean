/- The contracts of package answer: each call returns what the plain functions give, whatever its arguments; of what was there nothing has turned. -/
import Derived.Test.YtddelbjnnkhgbaaEntWalk
import Derived.Test.YtddelbjnnkhgbaaOpsRow
import Derived.Test.YtddelbjnnkhgbaaAnsMath
namespace Go.Proofs.Ytddelbjnnkhgbaa.AnsWalk
open Go.Proofs.Ytddelbjnnkhgbaa Go.RowKit Go.Proofs.Ytddelbjnnkhgbaa.Bytes Go.Proofs.Ytddelbjnnkhgbaa.NorWalk Go.Proofs.Ytddelbjnnkhgbaa.Ent Go.Proofs.Ytddelbjnnkhgbaa.EntLow Go.Proofs.Ytddelbjnnkhgbaa.Ans
open Go.Proofs.Ytddelbjnnkhgbaa.EntRow (text_ne size_alloc1)
open Go.Proofs.Ytddelbjnnkhgbaa.EntWalk (lowT lowT_any size_lowT list_lowT numS num_low ext_le)
open Go.Proofs.Ytddelbjnnkhgbaa.OpsRow (boxM boxB boxD thenD)
attribute [local go_sem ↓] Go.wp_at_zero Go.wp_at_succ

theorem num_any (n : Int) (w : World) : Calls Try.prog 11 #[.int .i64 n] w fun e w' => e = .returned (.int .i64 n) ∧ w' = w := by
  go_enter Try.func11, Try.ntmps11
  go_wp2
  go_ret
  exact ⟨rfl, rfl⟩
theorem mayStatus_any (n : Int) (w : World) : Calls Try.prog 19 #[.int .i64 n] w fun e w' => e = .returned (.bool (stB n)) ∧ w' = w := by
  go_enter Try.func19, Try.ntmps19
  go_wp2
  all_goals
    go_ret
    exact ⟨ret_bool (by unfold stB; rw [Bool.eq_iff_iff]; simp; try omega), rfl⟩
theorem mayState_any (n : Int) (w : World) : Calls Try.prog 20 #[.int .i64 n] w fun e w' => e = .returned (.bool (saB n)) ∧ w' = w := by
  go_enter Try.func20, Try.ntmps20
  go_wp2
  all_goals
    go_ret
    exact ⟨ret_bool (by unfold saB; rw [Bool.eq_iff_iff]; simp; try omega), rfl⟩
theorem may_ways (c v n : Int) : (stB c = false ∧ ansB c v n = false) ∨ (stB c = true ∧ ¬ 0 ≤ v ∧ ansB c v n = false) ∨ (stB c = true ∧ 0 ≤ v ∧ ¬ v ≤ 255 ∧ ansB c v n = false) ∨ (stB c = true ∧ 0 ≤ v ∧ v ≤ 255 ∧ saB n = false ∧ ansB c v n = false) ∨ (stB c = true ∧ 0 ≤ v ∧ v ≤ 255 ∧ saB n = true ∧ ansB c v n = true) := by
  unfold stB saB ansB
  simp only [decide_eq_true_eq, decide_eq_false_iff_not]
  omega
set_option maxRecDepth 100000 in
set_option maxHeartbeats 1000000 in
theorem amay_any (c v n : Int) (w : World) : Calls Try.prog 12 #[.agg #[.int .i64 c, .int .i64 v, .int .i64 n]] w fun e w' => e = .returned (.bool (ansB c v n)) ∧ Below w.heap.size w w' := by
  have hX := boxM w (.int .i64 c) (.int .i64 v) (.int .i64 n) 23
  rcases may_ways c v n with ⟨h1, h⟩ | ⟨h1, h2, h⟩ | ⟨h1, h2, h3, h⟩ | ⟨h1, h2, h3, h4, h⟩ | ⟨h1, h2, h3, h4, h⟩
  all_goals
    rw [h]
    clear h
    go_enter Try.func12, Try.ntmps12
    go_wp2_with (first | (go_at_call 19; refine (mayStatus_any _ _).mono ?_; rintro e w' ⟨rfl, rfl⟩) | (go_at_call 20; refine (mayState_any _ _).mono ?_; rintro e w' ⟨rfl, rfl⟩))
    go_ret
    first | exact ⟨rfl, (Below.refl _ _).alloc (Nat.le_refl _) _⟩ | exact ⟨ret_bool (decide_eq_false (by omega)), (Below.refl _ _).alloc (Nat.le_refl _) _⟩ | exact ⟨ret_bool (decide_eq_true (by omega)), (Below.refl _ _).alloc (Nat.le_refl _) _⟩
set_option maxRecDepth 100000 in
set_option maxHeartbeats 1000000 in
theorem aput_no (c v n : Int) (w : World) (h : ansB c v n = false) : Calls Try.prog 7 #[.agg #[.int .i64 c, .int .i64 v, .int .i64 n]] w fun e w' => e = .returned (.tuple #[.string ⟨#[]⟩, .int .i64 1400]) ∧ Below w.heap.size w w' := by
  have hB := (Below.refl w.heap.size w).alloc (Nat.le_refl _) (.cells #[.int .i64 c, .int .i64 v, .int .i64 n] 23)
  have hX := boxM w (.int .i64 c) (.int .i64 v) (.int .i64 n) 23
  go_enter Try.func7, Try.ntmps7
  go_wp2_with (go_at_call 12; refine (amay_any _ _ _ _).mono ?_; rintro e w' ⟨rfl, hb⟩; replace hB := hB.trans (hb.mono hB.size); replace hX := boxB hX hb; clear hb)
  go_ret2
  exact ⟨rfl, hB⟩
theorem laid {c v n : Int} (h : ansB c v n = true) : lowT c 1 ++ lowT v 3 ++ lowT n 1 ++ lowT 0 1 = ansS c v n := by
  apply ba_ext
  rw [list_ansS h, list_append, list_append, list_append, list_lowT, list_lowT, list_lowT, list_lowT]
  rfl
set_option maxRecDepth 100000 in
set_option maxHeartbeats 4000000 in
theorem aput_yes (c v n : Int) (w : World) (h : ansB c v n = true) : Calls Try.prog 7 #[.agg #[.int .i64 c, .int .i64 v, .int .i64 n]] w fun e w' => e = .returned (.tuple #[.string (ansS c v n), .int .i64 0]) ∧ Below w.heap.size w w' := by
  have hB := (Below.refl w.heap.size w).alloc (Nat.le_refl _) (.cells #[.int .i64 c, .int .i64 v, .int .i64 n] 23)
  have hX := boxM w (.int .i64 c) (.int .i64 v) (.int .i64 n) 23
  obtain ⟨p1, _, p2, _, p3, _⟩ := ansB_parts.1 h
  have p4 : (0 : Int) ≤ 0 := by omega
  have HP := hide (laid h)
  have a1 : (lowT c 1).size ≤ 1 := size_lowT c 1
  have b1 : (lowT v 3).size ≤ 3 := size_lowT v 3
  have c1 : (lowT n 1).size ≤ 1 := size_lowT n 1
  have d1 : (lowT 0 1).size ≤ 1 := size_lowT 0 1
  have n1 : ¬ 9223372036854775807 < (lowT c 1).size + (lowT v 3).size := by omega
  have n2 : ¬ 9223372036854775807 < (lowT c 1).size + (lowT v 3).size + (lowT n 1).size := by omega
  have n3 : ¬ 9223372036854775807 < (lowT c 1).size + (lowT v 3).size + (lowT n 1).size + (lowT 0 1).size := by omega
  go_enter Try.func7, Try.ntmps7
  go_wp2_with (go_at_call 12; refine (amay_any _ _ _ _).mono ?_; rintro e w' ⟨rfl, hb⟩; replace hB := hB.trans (hb.mono hB.size); replace hX := boxB hX hb; clear hb)
  go_region_held3 (fun W => W.cell? ⟨w.heap.size, 0, none⟩ = some (.int .i64 c) ∧ W.cell? ⟨w.heap.size, 1, none⟩ = some (.int .i64 v) ∧ W.cell? ⟨w.heap.size, 2, none⟩ = some (.int .i64 n)) (go_keep) (first | (go_at_call 15; refine (lowT_any _ _ _ (by assumption) (by decide) (by decide)).mono ?_; rintro e w' ⟨rfl, hb⟩; replace hB := thenD hb hB rfl rfl rfl rfl; replace hX := boxD hb hX; clear hb))
  go_wp2
  go_ret2
  exact ⟨ret_text HP.out rfl, hB⟩
theorem aput_any (c v n : Int) (w : World) : Calls Try.prog 7 #[.agg #[.int .i64 c, .int .i64 v, .int .i64 n]] w fun e w' => e = .returned (.tuple #[.string (ansS c v n), .int .i64 (errW (ansB c v n))]) ∧ Below w.heap.size w w' := by
  cases h : ansB c v n with
  | false => rw [ansS_no h]; exact aput_no c v n w h
  | true => exact aput_yes c v n w h

theorem num_parts (s : ByteArray) : numS (s.extract 0 1) = (rSt s.data.toList : Int) ∧ numS (s.extract 1 4) = (rTi s.data.toList : Int) ∧ numS (s.extract 4 5) = (rSa s.data.toList : Int) := by
  unfold numS rSt rTi rSa
  rw [list_extract, list_extract, list_extract]
  exact ⟨rfl, rfl, rfl⟩
/-- A text of six bytes: no answer's numbers; numbers of one, but other bytes; one. -/
theorem ans_ways {s : ByteArray} (h1 : s.size = 6) : (ansB (numS (s.extract 0 1)) (numS (s.extract 1 4)) (numS (s.extract 4 5)) = false ∧ isAns s = false) ∨ (ansB (numS (s.extract 0 1)) (numS (s.extract 1 4)) (numS (s.extract 4 5)) = true ∧ ¬ ansS (numS (s.extract 0 1)) (numS (s.extract 1 4)) (numS (s.extract 4 5)) = s ∧ isAns s = false) ∨ (ansB (numS (s.extract 0 1)) (numS (s.extract 1 4)) (numS (s.extract 4 5)) = true ∧ ansS (numS (s.extract 0 1)) (numS (s.extract 1 4)) (numS (s.extract 4 5)) = s ∧ isAns s = true) := by
  obtain ⟨e1, e2, e3⟩ := num_parts s
  rw [e1, e2, e3]
  cases h2 : ansB (rSt s.data.toList) (rTi s.data.toList) (rSa s.data.toList) with
  | false =>
    refine .inl ⟨rfl, ?_⟩
    unfold isAns
    exact decide_eq_false (fun h => by rw [h2] at h; exact absurd h.2.1 (by decide))
  | true =>
    by_cases h3 : ansS (rSt s.data.toList) (rTi s.data.toList) (rSa s.data.toList) = s
    · exact .inr (.inr ⟨rfl, h3, isAns_parts.2 ⟨h1, h2, (list_ansS h2).symm.trans (congrArg (fun x => x.data.toList) h3)⟩⟩)
    · refine .inr (.inl ⟨rfl, h3, ?_⟩)
      unfold isAns
      refine decide_eq_false (fun h => h3 (ba_ext ?_))
      rw [list_ansS h2]
      exact h.2.2
theorem build_ans (c v n : Int) (w : World) : (Instr.build 23 #[(0, .int .i64 c), (1, .int .i64 v), (2, .int .i64 n)]).run Try.prog w = .ok (.agg #[.int .i64 c, .int .i64 v, .int .i64 n]) w := run_build w 23 _ _ (by kernel_rfl)
theorem build_no (w : World) : (Instr.build 23 #[]).run Try.prog w = .ok (.agg #[.int .i64 0, .int .i64 0, .int .i64 0]) w := run_build w 23 _ _ (by kernel_rfl)
theorem build_c (v : Int) (w : World) : (Instr.build 23 #[(0, .int .i64 v)]).run Try.prog w = .ok (.agg #[.int .i64 v, .int .i64 0, .int .i64 0]) w := run_build w 23 _ _ (by kernel_rfl)
theorem build_v (v : Int) (w : World) : (Instr.build 23 #[(1, .int .i64 v)]).run Try.prog w = .ok (.agg #[.int .i64 0, .int .i64 v, .int .i64 0]) w := run_build w 23 _ _ (by kernel_rfl)
theorem build_n (v : Int) (w : World) : (Instr.build 23 #[(2, .int .i64 v)]).run Try.prog w = .ok (.agg #[.int .i64 0, .int .i64 0, .int .i64 v]) w := run_build w 23 _ _ (by kernel_rfl)
/-- A struct of three cells in a block of its own that may be written. -/
theorem resM (w : World) (x y z : Value) (e : TypeId) : w.heap.size < (w.alloc (.cells #[x, y, z] e)).heap.size ∧ (w.alloc (.cells #[x, y, z] e)).cell? ⟨w.heap.size, 0, none⟩ = some x ∧ (w.alloc (.cells #[x, y, z] e)).cell? ⟨w.heap.size, 1, none⟩ = some y ∧ (w.alloc (.cells #[x, y, z] e)).cell? ⟨w.heap.size, 2, none⟩ = some z ∧ ∀ i, (w.alloc (.cells #[x, y, z] e)).frozen? ⟨w.heap.size, i, none⟩ = false := by
  obtain ⟨h1, h2, h3, h4⟩ := boxM w x y z e
  exact ⟨h1, h2, h3, h4, fun i => World.frozen?_alloc_at _ e _ i rfl⟩
theorem resB {w w' : World} {B : Nat} {x y z : Value} (h : B < w.heap.size ∧ w.cell? ⟨B, 0, none⟩ = some x ∧ w.cell? ⟨B, 1, none⟩ = some y ∧ w.cell? ⟨B, 2, none⟩ = some z ∧ ∀ i, w.frozen? ⟨B, i, none⟩ = false) (hb : Below w.heap.size w w') :
    B < w'.heap.size ∧ w'.cell? ⟨B, 0, none⟩ = some x ∧ w'.cell? ⟨B, 1, none⟩ = some y ∧ w'.cell? ⟨B, 2, none⟩ = some z ∧ ∀ i, w'.frozen? ⟨B, i, none⟩ = false := by
  obtain ⟨h0, h1, h2, h3, h4⟩ := h
  obtain ⟨g0, g1, g2, g3⟩ := boxB ⟨h0, h1, h2, h3⟩ hb
  exact ⟨g0, g1, g2, g3, fun i => by rw [hb.frozen (p := ⟨B, i, none⟩) h0]; exact h4 i⟩
/-- A struct's three cells, stored. -/
theorem set3 {B0 : Nat} {w w' : World} {B : Nat} {x y z : Value} (h : Below B0 w w') (hB : B0 ≤ B) : Below B0 w (((w'.setCell ⟨B, 0, none⟩ x).setCell ⟨B, 1, none⟩ y).setCell ⟨B, 2, none⟩ z) := ((h.setCell (p := ⟨B, 0, none⟩) hB _).setCell (p := ⟨B, 1, none⟩) hB _).setCell (p := ⟨B, 2, none⟩) hB _
theorem ret_ans {a b c e a' b' c' e' : Int} (h : a = a' ∧ b = b' ∧ c = c' ∧ e = e') : Ending.returned (.tuple #[.agg #[.int .i64 a, .int .i64 b, .int .i64 c], .int .i64 e]) = .returned (.tuple #[.agg #[.int .i64 a', .int .i64 b', .int .i64 c'], .int .i64 e']) := by
  obtain ⟨rfl, rfl, rfl, rfl⟩ := h
  rfl
theorem zero_ans {s : ByteArray} (h : isAns s = false) : (0 : Int) = aSt s ∧ (0 : Int) = aTi s ∧ (0 : Int) = aSa s ∧ (1400 : Int) = errW (isAns s) := by
  obtain ⟨g1, g2, g3⟩ := ans_none h
  exact ⟨g1.symm, g2.symm, g3.symm, (errW_f h).symm⟩
theorem some_ans {s : ByteArray} (h : isAns s = true) : numS (s.extract 0 1) = aSt s ∧ numS (s.extract 1 4) = aTi s ∧ numS (s.extract 4 5) = aSa s ∧ (0 : Int) = errW (isAns s) := by
  obtain ⟨g1, g2, g3⟩ := ans_ok h
  obtain ⟨f1, f2, f3⟩ := num_parts s
  exact ⟨f1.trans g1.symm, f2.trans g2.symm, f3.trans g3.symm, (errW_t h).symm⟩
set_option maxHeartbeats 4000000 in
theorem aget_none (s : ByteArray) (w : World) (h1 : ¬ s.size = 6) : Calls Try.prog 9 #[.string s] w fun r w' => r = .returned (.tuple #[.agg #[.int .i64 0, .int .i64 0, .int .i64 0], .int .i64 1400]) ∧ Below w.heap.size w w' := by
  have b2 := build_no
  go_enter Try.func9, Try.ntmps9
  go_wp2
  exact bodyPost_ret (v := .tuple #[.agg #[.int .i64 0, .int .i64 0, .int .i64 0], .int .i64 1400]) (by simp [results, Try.results9, go_sem]) rfl ⟨rfl, (Below.refl _ _).alloc (Nat.le_refl _) _⟩
set_option maxRecDepth 100000 in
set_option maxHeartbeats 4000000 in
theorem aget_6 (s : ByteArray) (w : World) (h1 : s.size = 6) : Calls Try.prog 9 #[.string s] w fun r w' => r = .returned (.tuple #[.agg #[.int .i64 (aSt s), .int .i64 (aTi s), .int .i64 (aSa s)], .int .i64 (errW (isAns s))]) ∧ Below w.heap.size w w' := by
  have b1 := build_ans
  have b2 := build_no
  have hc := ans_ways h1
  have HC := hide hc
  clear hc
  have z1 : s.size ≤ 6 := by omega
  have z2 : 6 ≤ s.size := by omega
  have y1 : (1 : Int) ≤ (s.size : Int) := by omega
  have y2 : (4 : Int) ≤ (s.size : Int) := by omega
  have y3 : (5 : Int) ≤ (s.size : Int) := by omega
  clear h1
  have hR := resB (resM w (.int .i64 0) (.int .i64 0) (.int .i64 0) 23) ((Below.refl _ _).alloc (Nat.le_refl _) (.cells #[.int .i64 (numS (s.extract 0 1)), .int .i64 (numS (s.extract 1 4)), .int .i64 (numS (s.extract 4 5))] 23))
  have hX := boxM (w.alloc (.cells #[.int .i64 0, .int .i64 0, .int .i64 0] 23)) (.int .i64 (numS (s.extract 0 1))) (.int .i64 (numS (s.extract 1 4))) (.int .i64 (numS (s.extract 4 5))) 23
  have hB := ((Below.refl w.heap.size w).alloc (Nat.le_refl _) (.cells #[.int .i64 0, .int .i64 0, .int .i64 0] 23)).alloc (Nat.le_of_lt (size_alloc1 _ _)) (.cells #[.int .i64 (numS (s.extract 0 1)), .int .i64 (numS (s.extract 1 4)), .int .i64 (numS (s.extract 4 5))] 23)
  rw [show (w.alloc (.cells #[.int .i64 0, .int .i64 0, .int .i64 0] 23)).heap.size = w.heap.size + 1 from by simp] at hX
  have HB := hide hB
  have HX := hide hX
  have HR := hide hR
  clear hB hX hR
  go_enter Try.func9, Try.ntmps9
  go_wp2
  go_region_held3 (fun _ => True) (trivial) ((go_at_call 17; refine (num_low _ _ (by exact ext_le _ _ _ (by omega))).mono ?_; rintro e w' ⟨rfl, rfl⟩))
  all_goals
    have hB := HB.out.drew
    have hX := boxB HX.out (Below.refl _ _).drew
    have hR := resB HR.out (Below.refl _ _).drew
    clear HB HX HR
    generalize (World.alloc _ (.cells #[.int .i64 (numS (s.extract 0 1)), .int .i64 (numS (s.extract 1 4)), .int .i64 (numS (s.extract 4 5))] 23)).drew = W at *
    rcases HC.out with ⟨h2, h3⟩ | ⟨h2, h3, h4⟩ | ⟨h2, h3, h4⟩
    · have e0 : errW false = 1400 := rfl
      have HZ := hide (zero_ans h3)
      clear h3
      go_wp2_with (go_at_call 7; refine (aput_any _ _ _ _).mono ?_; rintro e w' ⟨rfl, hb⟩; replace hB := thenB hB hb; replace hX := boxB hX hb; replace hR := resB hR hb; clear hb)
      exact bodyPost_ret (v := .tuple #[.agg #[.int .i64 0, .int .i64 0, .int .i64 0], .int .i64 1400]) (by simp [results, Try.results9, go_sem, hR]) rfl ⟨ret_ans HZ.out, set3 hB (Nat.le_refl _)⟩
    · have e0 : errW true = 0 := rfl
      have HZ := hide (zero_ans h4)
      have h5 := text_ne h3
      clear h4 h3
      go_wp2_with (go_at_call 7; refine (aput_any _ _ _ _).mono ?_; rintro e w' ⟨rfl, hb⟩; replace hB := thenB hB hb; replace hX := boxB hX hb; replace hR := resB hR hb; clear hb)
      exact bodyPost_ret (v := .tuple #[.agg #[.int .i64 0, .int .i64 0, .int .i64 0], .int .i64 1400]) (by simp [results, Try.results9, go_sem, hR]) rfl ⟨ret_ans HZ.out, set3 hB (Nat.le_refl _)⟩
    · have e0 : errW true = 0 := rfl
      have HZ := hide (some_ans h4)
      clear h4
      go_wp2_with (go_at_call 7; refine (aput_any _ _ _ _).mono ?_; rintro e w' ⟨rfl, hb⟩; replace hB := thenB hB hb; replace hX := boxB hX hb; replace hR := resB hR hb; clear hb)
      exact bodyPost_ret (v := .tuple #[.agg #[.int .i64 (numS (s.extract 0 1)), .int .i64 (numS (s.extract 1 4)), .int .i64 (numS (s.extract 4 5))], .int .i64 0]) (by simp [results, Try.results9, go_sem, hR]) rfl ⟨ret_ans HZ.out, set3 hB (Nat.le_refl _)⟩
theorem aget_any (s : ByteArray) (w : World) : Calls Try.prog 9 #[.string s] w fun r w' => r = .returned (.tuple #[.agg #[.int .i64 (aSt s), .int .i64 (aTi s), .int .i64 (aSa s)], .int .i64 (errW (isAns s))]) ∧ Below w.heap.size w w' := by
  by_cases h : s.size = 6
  · exact aget_6 s w h
  · have h2 : isAns s = false := by unfold isAns; exact decide_eq_false (fun g => h g.1)
    obtain ⟨g1, g2, g3⟩ := ans_none h2
    rw [g1, g2, g3, h2]
    exact aget_none s w h
/-- Get where the text is none. -/
theorem aget_no {s : ByteArray} (h : isAns s = false) (w : World) : Calls Try.prog 9 #[.string s] w fun r w' => r = .returned (.tuple #[.agg #[.int .i64 0, .int .i64 0, .int .i64 0], .int .i64 1400]) ∧ Below w.heap.size w w' := by
  obtain ⟨g1, g2, g3⟩ := ans_none h
  have g := aget_any s w
  rw [g1, g2, g3, h] at g
  exact g
/-- Get of what is put. -/
theorem aget_put {c v n : Int} (h : ansB c v n = true) (w : World) : Calls Try.prog 9 #[.string (ansS c v n)] w fun r w' => r = .returned (.tuple #[.agg #[.int .i64 c, .int .i64 v, .int .i64 n], .int .i64 0]) ∧ Below w.heap.size w w' := by
  obtain ⟨g0, g1, g2, g3⟩ := ans_put h
  have g := aget_any (ansS c v n) w
  rw [g0, g1, g2, g3] at g
  exact g
end Go.Proofs.Ytddelbjnnkhgbaa.AnsWalk
