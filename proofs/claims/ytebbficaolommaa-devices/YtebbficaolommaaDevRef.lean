/- The contracts of the document's own answers to package device: they return what the same plain functions give. -/
import Derived.Test.YtebbficaolommaaDevFail
import Derived.Test.YtebbficaolommaaOpsRef
import Derived.Test.YtebbficaolommaaAnsRef
namespace Go.Proofs.Ytebbficaolommaa.DevRef
open Go.Proofs.Ytebbficaolommaa Go.RowKit Go.Proofs.Ytebbficaolommaa.Bytes Go.Proofs.Ytebbficaolommaa.Ops Go.Proofs.Ytebbficaolommaa.Ans Go.Proofs.Ytebbficaolommaa.Dev Go.Proofs.Ytebbficaolommaa.DevRow
open Go.Proofs.Ytebbficaolommaa.DevWalk (build_d0 build_d2)
open Go.Proofs.Ytebbficaolommaa.OpsWalk (size_alloc1)
open Go.Proofs.Ytebbficaolommaa.OpsRef (refMay_any)
open Go.Proofs.Ytebbficaolommaa.AnsRef (refStatus_any refState_any)
open Go.Proofs.Ytebbficaolommaa.NorWalk (ret_bool)
attribute [local go_sem ↓] Go.wp_at_zero Go.wp_at_succ
theorem up16_any (x k : Int) (w : World) : Calls Try.prog 26 #[.int .i64 x, .int .i64 0, .int .i64 k] w fun e w' => e = .returned (.bool (upB x k)) ∧ w' = w := by
  go_enter Try.func26, Try.ntmps26
  go_wp2
  all_goals
    go_ret
    exact ⟨ret_bool (by unfold upB; rw [Bool.eq_iff_iff]; simp; try omega), rfl⟩
theorem newRef_any (w : World) : Calls Try.prog 15 #[] w fun r w' => r = .returned (.agg #[.int .i64 0, .int .i64 0, .int .i64 0, .int .i64 0, .int .i64 0, .slice none 0 0]) ∧ Below w.heap.size w w' := by
  have b := build_d2
  go_enter Try.func15, Try.ntmps15
  go_wp2
  exact bodyPost_ret (v := .agg #[.int .i64 0, .int .i64 0, .int .i64 0, .int .i64 0, .int .i64 0, .slice none 0 0]) (by simp [results, Try.results15, go_sem]) rfl ⟨rfl, (Below.refl _ _).alloc (Nat.le_refl _) _⟩
theorem failedRef_any (s : Int) (w : World) : Calls Try.prog 19 #[.int .i64 s] w fun r w' => r = .returned (.agg #[.int .i64 7, .int .i64 s, .int .i64 0, .int .i64 0, .int .i64 0, .slice none 0 0]) ∧ Below w.heap.size w w' := by
  have b := build_d2
  go_enter Try.func19, Try.ntmps19
  go_wp2
  exact bodyPost_ret (v := .agg #[.int .i64 7, .int .i64 s, .int .i64 0, .int .i64 0, .int .i64 0, .slice none 0 0]) (by simp [results, Try.results19, go_sem]) rfl ⟨rfl, (Below.refl _ _).alloc (Nat.le_refl _) _⟩
theorem ref_ways (d : FDev) : (saB d.sa = false ∧ devB d = false) ∨ (saB d.sa = true ∧ stB d.su = false ∧ devB d = false) ∨ (saB d.sa = true ∧ stB d.su = true ∧ upB d.nx 16 = false ∧ devB d = false) ∨ (saB d.sa = true ∧ stB d.su = true ∧ upB d.nx 16 = true ∧ upB d.gt 288 = false ∧ devB d = false) ∨ (saB d.sa = true ∧ stB d.su = true ∧ upB d.nx 16 = true ∧ upB d.gt 288 = true ∧ upB d.sl 1 = false ∧ devB d = false) ∨ (saB d.sa = true ∧ stB d.su = true ∧ upB d.nx 16 = true ∧ upB d.gt 288 = true ∧ upB d.sl 1 = true ∧ devB d = stepsB d.ops) := by
  unfold devB
  cases saB d.sa <;> cases stB d.su <;> cases upB d.nx 16 <;> cases upB d.gt 288 <;> cases upB d.sl 1 <;> simp
theorem dev_bad {d : FDev} (h : mayAll d.ops = false) : devB d = false := by
  have : stepsB d.ops = false := by unfold stepsB; rw [h]; simp
  unfold devB
  rw [this]
  simp
theorem steps_good {l : List FOp} (h : mayAll l = true) : stepsB l = decide (l.length ≤ 768) := by unfold stepsB; rw [h]; simp
set_option maxRecDepth 100000 in
set_option maxHeartbeats 2000000 in
theorem refDev_any (d : FDev) (v : Value) (w : World) (hv : IsSt w v d.ops) : Calls Try.prog 13 #[.agg #[.int .i64 d.sa, .int .i64 d.su, .int .i64 d.nx, .int .i64 d.gt, .int .i64 d.sl, v]] w fun r w' => r = .returned (.bool (devB d)) ∧ Below w.heap.size w w' := by
  have hB0 := (Below.refl w.heap.size w).alloc (Nat.le_refl _) (.cells #[.int .i64 d.sa, .int .i64 d.su, .int .i64 d.nx, .int .i64 d.gt, .int .i64 d.sl, v] 24)
  have hX0 := sixM w (.int .i64 d.sa) (.int .i64 d.su) (.int .i64 d.nx) (.int .i64 d.gt) (.int .i64 d.sl) v 24
  have hl : d.ops.length ≤ 9223372036854775807 := by have := hv.len; unfold maxLen at this; omega
  have HW := hide (ref_ways d)
  have HD : Hid (mayAll d.ops = false → devB d = false) := dev_bad
  have HG : Hid (mayAll d.ops = true → stepsB d.ops = decide (d.ops.length ≤ 768)) := steps_good
  obtain ⟨sa, su, nx, gt, sl, l⟩ := d
  obtain ⟨a, ca, rfl, _, ha⟩ := hv
  dsimp only at *
  have HB0 := hide hB0
  have HX0 := hide hX0
  clear hB0 hX0
  go_enter Try.func13, Try.ntmps13
  go_wp2
  have hB0 := HB0.out
  have hX0 := HX0.out
  clear HB0 HX0
  generalize (w.alloc _) = W0 at *
  go_loopw [3] (fun i wr => ∃ j : Nat, j ≤ l.length ∧ i = .int .i64 j ∧ mayTo l j = true ∧ Below w.heap.size w wr ∧ Six wr w.heap.size (.int .i64 sa) (.int .i64 su) (.int .i64 nx) (.int .i64 gt) (.int .i64 sl) (.slice a l.length ca)) (fun i _ => l.length - (intOf i).toNat)
  case atStart => exact ⟨0, Nat.zero_le _, rfl, rfl, hB0, hX0⟩
  case round =>
    clear hB0 hX0
    obtain ⟨j, hj, rfl, hm, hB, hX⟩ := hrel
    by_cases hlt : j < l.length
    · rcases ha with ha | ⟨g, o, rfl, _, _, hg, ha⟩
      · rw [ha] at hlt; simp at hlt
      have ha' := ha.below hB hg
      have a1 := ha'.er j hlt
      have a2 := ha'.pl j hlt
      have a3 := ha'.tx j hlt
      have HN := hide (mayTo_succ hlt)
      have HF : Hid (opMay l[j].er l[j].pl l[j].tx = false → mayAll l = false) := fun h => mayAll_bad hlt h
      generalize l[j].er = E at *
      generalize l[j].pl = A at *
      generalize l[j].tx = T at *
      clear ha ha'
      have HM : Hid (mayTo l j = true) := hm
      clear hm
      cases hc : opMay E A T with
      | true =>
        go_wp2_with (go_at_call 24; refine (refMay_any _ _ _ _).mono ?_; rintro e w' ⟨rfl, hb⟩; replace hB := thenB hB hb; replace hX := sixB hX hb; clear hb)
        exact ⟨⟨j + 1, by omega, by go_num, by rw [HN.out, HM.out, hc]; rfl, hB, hX⟩, by simp [intOf]; omega⟩
      | false =>
        go_wp2_with (go_at_call 24; refine (refMay_any _ _ _ _).mono ?_; rintro e w' ⟨rfl, hb⟩; replace hB := thenB hB hb; replace hX := sixB hX hb; clear hb)
        go_ret
        exact ⟨ret_bool (HD.out (HF.out hc)).symm, hB⟩
    · obtain rfl : j = l.length := by omega
      rw [mayTo_all] at hm
      have HG2 := hide (HG.out hm)
      clear hm HG HD ha hlt
      rcases HW.out with ⟨h1, h⟩ | ⟨h1, h2, h⟩ | ⟨h1, h2, h3, h⟩ | ⟨h1, h2, h3, h4, h⟩ | ⟨h1, h2, h3, h4, h5, h⟩ | ⟨h1, h2, h3, h4, h5, h⟩
      all_goals
        have HH := hide h
        clear h HW
        go_wp2_with (first | (go_at_call 25; refine (refState_any _ _).mono ?_; rintro e w' ⟨rfl, rfl⟩) | (go_at_call 18; refine (refStatus_any _ _).mono ?_; rintro e w' ⟨rfl, rfl⟩) | (go_at_call 26; refine (up16_any _ _ _).mono ?_; rintro e w' ⟨rfl, rfl⟩))
        go_ret
        first | exact ⟨ret_bool HH.out.symm, hB⟩ | exact ⟨ret_bool (by rw [HH.out, HG2.out, Bool.eq_iff_iff]; simp; try omega), hB⟩
theorem flag_st (s : Int) (h : flB s = true) : stB s = true ∧ (s == 0) = false := by
  obtain ⟨h1, h2⟩ := flB_parts.1 h
  exact ⟨by unfold stB; exact decide_eq_true (by omega), beq_eq_false_iff_ne.2 (by omega)⟩
theorem flag_no (s : Int) (h : flB s = false) : stB s = false ∨ (stB s = true ∧ (s == 0) = true) := by
  unfold flB at h
  replace h := of_decide_eq_false h
  unfold stB
  by_cases h0 : s = 0
  · subst h0; exact .inr ⟨rfl, rfl⟩
  · exact .inl (decide_eq_false (by omega))
set_option maxRecDepth 100000 in
set_option maxHeartbeats 2000000 in
theorem refFail_any (d : FDev) (v : Value) (s : Int) (w : World) (hv : IsSt w v d.ops) : Calls Try.prog 9 #[.agg #[.int .i64 d.sa, .int .i64 d.su, .int .i64 d.nx, .int .i64 d.gt, .int .i64 d.sl, v], .int .i64 s] w fun r w' => r = .returned (.tuple #[.agg #[.int .i64 (faSa (failB d s)), .int .i64 (faSu (failB d s) s), .int .i64 0, .int .i64 0, .int .i64 0, .slice none 0 0], .int .i64 (errD (failB d s))]) ∧ Below w.heap.size w w' := by
  have hB := ((Below.refl w.heap.size w).alloc (Nat.le_refl _) (.cells #[.int .i64 d.sa, .int .i64 d.su, .int .i64 d.nx, .int .i64 d.gt, .int .i64 d.sl, v] 24)).alloc (Nat.le_of_lt (size_alloc1 _ _)) (.cells #[.int .i64 0, .int .i64 0, .int .i64 0, .int .i64 0, .int .i64 0, .slice none 0 0] 24)
  have hR := resM (w.alloc (.cells #[.int .i64 d.sa, .int .i64 d.su, .int .i64 d.nx, .int .i64 d.gt, .int .i64 d.sl, v] 24)) (.int .i64 0) (.int .i64 0) (.int .i64 0) (.int .i64 0) (.int .i64 0) (.slice none 0 0) 24
  rw [show (w.alloc (.cells #[.int .i64 d.sa, .int .i64 d.su, .int .i64 d.nx, .int .i64 d.gt, .int .i64 d.sl, v] 24)).heap.size = w.heap.size + 1 from by simp] at hR
  have HS : Hid (∀ w', Below w.heap.size w w' → Calls Try.prog 13 #[.agg #[.int .i64 d.sa, .int .i64 d.su, .int .i64 d.nx, .int .i64 d.gt, .int .i64 d.sl, v]] w' fun r w'' => r = .returned (.bool (devB d)) ∧ Below w'.heap.size w' w'') := fun w' hb => refDev_any d v w' (hv.below hb)
  have b1 := build_d0
  have hF : failB d s = (devB d && flB s) := rfl
  obtain ⟨a, ca, rfl, _, _⟩ := hv
  cases h1 : devB d with
  | false =>
    have HZ := hide (DevFail.fail_f (d := d) (s := s) (by rw [hF, h1]; rfl))
    rw [h1] at HS
    clear hF h1
    go_enter Try.func9, Try.ntmps9
    go_wp2_with (go_at_call 13; refine (HS.out _ hB).mono ?_; rintro e w' ⟨rfl, hb⟩; replace hB := thenB hB hb; replace hR := resB hR hb; clear hb)
    exact bodyPost_ret (v := .tuple #[.agg #[.int .i64 0, .int .i64 0, .int .i64 0, .int .i64 0, .int .i64 0, .slice none 0 0], .int .i64 1600]) (by simp [results, Try.results9, go_sem, hR]) rfl ⟨DevFail.ret_dev HZ.out, set6 hB (by omega)⟩
  | true =>
    rw [h1] at HS
    cases h2 : flB s with
    | false =>
      have HZ := hide (DevFail.fail_f (d := d) (s := s) (by rw [hF, h1, h2]; rfl))
      rcases flag_no s h2 with h3 | ⟨h3, h4⟩
      all_goals
        have HU := hide (fun w => refStatus_any s w)
        rw [h3] at HU
        clear hF h1 h2 h3
        go_enter Try.func9, Try.ntmps9
        go_wp2_with (first | (go_at_call 13; refine (HS.out _ hB).mono ?_; rintro e w' ⟨rfl, hb⟩; replace hB := thenB hB hb; replace hR := resB hR hb; clear hb) | (go_at_call 18; refine (HU.out _).mono ?_; rintro e w' ⟨rfl, rfl⟩))
        exact bodyPost_ret (v := .tuple #[.agg #[.int .i64 0, .int .i64 0, .int .i64 0, .int .i64 0, .int .i64 0, .slice none 0 0], .int .i64 1600]) (by simp [results, Try.results9, go_sem, hR]) rfl ⟨DevFail.ret_dev HZ.out, set6 hB (by omega)⟩
    | true =>
      have HZ := hide (DevFail.fail_t (d := d) (s := s) (by rw [hF, h1, h2]; rfl))
      obtain ⟨h3, h4⟩ := flag_st s h2
      have HU := hide (fun w => refStatus_any s w)
      rw [h3] at HU
      clear hF h1 h2 h3
      go_enter Try.func9, Try.ntmps9
      go_wp2_with (first | (go_at_call 13; refine (HS.out _ hB).mono ?_; rintro e w' ⟨rfl, hb⟩; replace hB := thenB hB hb; replace hR := resB hR hb; clear hb) | (go_at_call 18; refine (HU.out _).mono ?_; rintro e w' ⟨rfl, rfl⟩) | (go_at_call 19; refine (failedRef_any _ _).mono ?_; rintro e w' ⟨rfl, hb⟩; replace hB := thenB hB hb; replace hR := resB hR hb; clear hb))
      exact bodyPost_ret (v := .tuple #[.agg #[.int .i64 7, .int .i64 s, .int .i64 0, .int .i64 0, .int .i64 0, .slice none 0 0], .int .i64 0]) (by simp [results, Try.results9, go_sem, hR]) rfl ⟨DevFail.ret_dev HZ.out, set6 hB (by omega)⟩
end Go.Proofs.Ytebbficaolommaa.DevRef
