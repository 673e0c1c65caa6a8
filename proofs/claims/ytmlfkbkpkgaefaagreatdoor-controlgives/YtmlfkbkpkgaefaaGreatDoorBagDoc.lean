/- The contracts of the document's own answers to package answer: they return what the same plain functions give. -/
import Derived.Test.YtmlfkbkpkgaefaaGreatDoorBagAns
import Derived.Test.YtmlfkbkpkgaefaaGreatDoorEntRef
import Derived.Test.YtmlfkbkpkgaefaaGreatDoorBagDev
import Derived.Test.YtmlfkbkpkgaefaaGreatDoorBagOps
namespace Go.Proofs.YtmlfkbkpkgaefaaGreatDoor.AnsRef
open Go.Proofs.YtmlfkbkpkgaefaaGreatDoor Go.RowKit Go.Proofs.YtmlfkbkpkgaefaaGreatDoor.Bytes Go.Proofs.YtmlfkbkpkgaefaaGreatDoor.NorWalk Go.Proofs.YtmlfkbkpkgaefaaGreatDoor.NorRef Go.Proofs.YtmlfkbkpkgaefaaGreatDoor.Ent Go.Proofs.YtmlfkbkpkgaefaaGreatDoor.EntLow Go.Proofs.YtmlfkbkpkgaefaaGreatDoor.Ans Go.Proofs.YtmlfkbkpkgaefaaGreatDoor.AnsWalk
open Go.Proofs.YtmlfkbkpkgaefaaGreatDoor.EntRow (text_ne size_alloc1)
open Go.Proofs.YtmlfkbkpkgaefaaGreatDoor.EntWalk (lowT size_lowT list_lowT numS ext_le)
open Go.Proofs.YtmlfkbkpkgaefaaGreatDoor.EntRef (refLowT_any num_of)
open Go.Proofs.YtmlfkbkpkgaefaaGreatDoor.OpsRow (boxM boxB boxD thenD)
attribute [local go_sem ↓] Go.wp_at_zero Go.wp_at_succ

theorem stUp (c : Int) : stB c = upToB c 0 6 := rfl
theorem saUp (c : Int) : saB c = upToB c 0 7 := rfl
theorem ansB_up (c v n : Int) : ansB c v n = (stB c && (saB n && upToB v 0 255)) := by
  unfold ansB stB saB upToB
  rw [Bool.eq_iff_iff]
  simp
  omega
theorem refStatus_any (n : Int) (w : World) : Calls Tryz.prog 42 #[.int .i64 n] w fun e w' => e = .returned (.bool (stB n)) ∧ w' = w := by
  rw [stUp]
  go_enter Tryz.func42, Tryz.ntmps42
  go_wp2_with (go_at_call 39; refine (upTo_any _ _ _ _).mono ?_; rintro e w' ⟨rfl, rfl⟩)
  go_ret
  exact ⟨rfl, rfl⟩
theorem refState_any (n : Int) (w : World) : Calls Tryz.prog 38 #[.int .i64 n] w fun e w' => e = .returned (.bool (saB n)) ∧ w' = w := by
  rw [saUp]
  go_enter Tryz.func38, Tryz.ntmps38
  go_wp2_with (go_at_call 39; refine (upTo_any _ _ _ _).mono ?_; rintro e w' ⟨rfl, rfl⟩)
  go_ret
  exact ⟨rfl, rfl⟩
set_option maxRecDepth 100000 in
set_option maxHeartbeats 1000000 in
theorem refMay_any (c v n : Int) (w : World) : Calls Tryz.prog 47 #[.agg #[.int .i64 c, .int .i64 v, .int .i64 n]] w fun e w' => e = .returned (.bool (ansB c v n)) ∧ Below w.heap.size w w' := by
  rw [ansB_up]
  have hX := boxM w (.int .i64 c) (.int .i64 v) (.int .i64 n) 52
  cases h1 : stB c <;> cases h2 : saB n <;> cases h3 : upToB v 0 255
  all_goals
    go_enter Tryz.func47, Tryz.ntmps47
    go_wp2_with (first | (go_at_call 42; refine (refStatus_any _ _).mono ?_; rintro e w' ⟨rfl, rfl⟩) | (go_at_call 38; refine (refState_any _ _).mono ?_; rintro e w' ⟨rfl, rfl⟩) | (go_at_call 39; refine (upTo_any _ _ _ _).mono ?_; rintro e w' ⟨rfl, rfl⟩))
    go_ret
    exact ⟨rfl, (Below.refl _ _).alloc (Nat.le_refl _) _⟩
set_option maxRecDepth 100000 in
set_option maxHeartbeats 1000000 in
theorem refPut_no (c v n : Int) (w : World) (h : ansB c v n = false) : Calls Tryz.prog 19 #[.agg #[.int .i64 c, .int .i64 v, .int .i64 n]] w fun e w' => e = .returned (.tuple #[.string ⟨#[]⟩, .int .i64 1400]) ∧ Below w.heap.size w w' := by
  have hB := (Below.refl w.heap.size w).alloc (Nat.le_refl _) (.cells #[.int .i64 c, .int .i64 v, .int .i64 n] 52)
  have hX := boxM w (.int .i64 c) (.int .i64 v) (.int .i64 n) 52
  go_enter Tryz.func19, Tryz.ntmps19
  go_wp2_with (go_at_call 47; refine (refMay_any _ _ _ _).mono ?_; rintro e w' ⟨rfl, hb⟩; replace hB := hB.trans (hb.mono hB.size); replace hX := boxB hX hb; clear hb)
  go_ret2
  exact ⟨rfl, hB⟩
set_option maxRecDepth 100000 in
set_option maxHeartbeats 4000000 in
theorem refPut_yes (c v n : Int) (w : World) (h : ansB c v n = true) : Calls Tryz.prog 19 #[.agg #[.int .i64 c, .int .i64 v, .int .i64 n]] w fun e w' => e = .returned (.tuple #[.string (ansS c v n), .int .i64 0]) ∧ Below w.heap.size w w' := by
  have hB := (Below.refl w.heap.size w).alloc (Nat.le_refl _) (.cells #[.int .i64 c, .int .i64 v, .int .i64 n] 52)
  have hX := boxM w (.int .i64 c) (.int .i64 v) (.int .i64 n) 52
  obtain ⟨p1, _, p2, _, p3, _⟩ := ansB_parts.1 h
  have p4 : (0 : Int) ≤ 0 := by omega
  have HP := hide (laid h)
  have a1 : (lowT c 1).size ≤ 1 := size_lowT c 1
  have b1 : (lowT v 3).size ≤ 3 := size_lowT v 3
  have c1 : (lowT n 1).size ≤ 1 := size_lowT n 1
  have d1 : (lowT 0 1).size ≤ 1 := size_lowT 0 1
  have n1 : ¬ 9223372036854775807 < (lowT c 1).size + (lowT v 3).size := by omega
  have n2 : ¬ 9223372036854775807 < (lowT c 1).size + (lowT v 3).size + (lowT n 1).size := by omega
  have n3 : ¬ 9223372036854775807 < (lowT c 1).size + (lowT v 3).size + (lowT n 1).size + (lowT 0 1).size := by omega
  go_enter Tryz.func19, Tryz.ntmps19
  go_wp2_with (go_at_call 47; refine (refMay_any _ _ _ _).mono ?_; rintro e w' ⟨rfl, hb⟩; replace hB := hB.trans (hb.mono hB.size); replace hX := boxB hX hb; clear hb)
  go_region_held3 (fun W => W.cell? ⟨w.heap.size, 0, none⟩ = some (.int .i64 c) ∧ W.cell? ⟨w.heap.size, 1, none⟩ = some (.int .i64 v) ∧ W.cell? ⟨w.heap.size, 2, none⟩ = some (.int .i64 n)) (go_keep) ((go_at_call 34; refine (refLowT_any _ _ _ (by assumption) (by decide) (by decide)).mono ?_; rintro e w' ⟨rfl, hb⟩; replace hB := thenD hb hB rfl rfl rfl rfl; replace hX := boxD hb hX; clear hb))
  go_wp2
  go_ret2
  exact ⟨ret_text HP.out rfl, hB⟩
theorem refPut_any (c v n : Int) (w : World) : Calls Tryz.prog 19 #[.agg #[.int .i64 c, .int .i64 v, .int .i64 n]] w fun e w' => e = .returned (.tuple #[.string (ansS c v n), .int .i64 (errW (ansB c v n))]) ∧ Below w.heap.size w w' := by
  cases h : ansB c v n with
  | false => rw [ansS_no h]; exact refPut_no c v n w h
  | true => exact refPut_yes c v n w h
theorem num_at (s : ByteArray) (i : Nat) (h : i < s.size) : (s[i].toNat : Int) = numS (s.extract i (i + 1)) := by
  unfold numS
  rw [list_extract]
  have hl : i < s.data.toList.length := by rw [Nor.size_list]; exact h
  have e1 : s.data.toList[i] = s[i] := by rw [Array.getElem_toList]; rfl
  rw [List.drop_eq_getElem_cons hl, e1, Nat.add_sub_cancel_left]
  show _ = (((s[i].toNat + 256 * 0 : Nat)) : Int)
  omega
end Go.Proofs.YtmlfkbkpkgaefaaGreatDoor.AnsRef

/- The contracts of the document's own answers to package device: they return what the same plain functions give. -/
namespace Go.Proofs.YtmlfkbkpkgaefaaGreatDoor.DevRef
open Go.Proofs.YtmlfkbkpkgaefaaGreatDoor Go.RowKit Go.Proofs.YtmlfkbkpkgaefaaGreatDoor.Bytes Go.Proofs.YtmlfkbkpkgaefaaGreatDoor.Ops Go.Proofs.YtmlfkbkpkgaefaaGreatDoor.Ans Go.Proofs.YtmlfkbkpkgaefaaGreatDoor.Dev Go.Proofs.YtmlfkbkpkgaefaaGreatDoor.DevRow
open Go.Proofs.YtmlfkbkpkgaefaaGreatDoor.DevWalk (build_d0 build_d2)
open Go.Proofs.YtmlfkbkpkgaefaaGreatDoor.OpsWalk (size_alloc1)
open Go.Proofs.YtmlfkbkpkgaefaaGreatDoor.OpsRef (refMay_any)
open Go.Proofs.YtmlfkbkpkgaefaaGreatDoor.AnsRef (refStatus_any refState_any)
open Go.Proofs.YtmlfkbkpkgaefaaGreatDoor.NorWalk (ret_bool)
attribute [local go_sem ↓] Go.wp_at_zero Go.wp_at_succ
theorem up16_any (x k : Int) (w : World) : Calls Tryz.prog 43 #[.int .i64 x, .int .i64 0, .int .i64 k] w fun e w' => e = .returned (.bool (upB x k)) ∧ w' = w := by
  go_enter Tryz.func43, Tryz.ntmps43
  go_wp2
  all_goals
    go_ret
    exact ⟨ret_bool (by unfold upB; rw [Bool.eq_iff_iff]; simp; try omega), rfl⟩
theorem newRef_any (w : World) : Calls Tryz.prog 31 #[] w fun r w' => r = .returned (.agg #[.int .i64 0, .int .i64 0, .int .i64 0, .int .i64 0, .int .i64 0, .slice none 0 0]) ∧ Below w.heap.size w w' := by
  have b := build_d2
  go_enter Tryz.func31, Tryz.ntmps31
  go_wp2
  exact bodyPost_ret (v := .agg #[.int .i64 0, .int .i64 0, .int .i64 0, .int .i64 0, .int .i64 0, .slice none 0 0]) (by simp [results, Tryz.results31, go_sem]) rfl ⟨rfl, (Below.refl _ _).alloc (Nat.le_refl _) _⟩
theorem failedRef_any (s : Int) (w : World) : Calls Tryz.prog 46 #[.int .i64 s] w fun r w' => r = .returned (.agg #[.int .i64 7, .int .i64 s, .int .i64 0, .int .i64 0, .int .i64 0, .slice none 0 0]) ∧ Below w.heap.size w w' := by
  have b := build_d2
  go_enter Tryz.func46, Tryz.ntmps46
  go_wp2
  exact bodyPost_ret (v := .agg #[.int .i64 7, .int .i64 s, .int .i64 0, .int .i64 0, .int .i64 0, .slice none 0 0]) (by simp [results, Tryz.results46, go_sem]) rfl ⟨rfl, (Below.refl _ _).alloc (Nat.le_refl _) _⟩
theorem ref_ways (d : FDev) : (saB d.sa = false ∧ devB d = false) ∨ (saB d.sa = true ∧ stB d.su = false ∧ devB d = false) ∨ (saB d.sa = true ∧ stB d.su = true ∧ upB d.nx 16 = false ∧ devB d = false) ∨ (saB d.sa = true ∧ stB d.su = true ∧ upB d.nx 16 = true ∧ upB d.gt 288 = false ∧ devB d = false) ∨ (saB d.sa = true ∧ stB d.su = true ∧ upB d.nx 16 = true ∧ upB d.gt 288 = true ∧ upB d.sl 1 = false ∧ devB d = false) ∨ (saB d.sa = true ∧ stB d.su = true ∧ upB d.nx 16 = true ∧ upB d.gt 288 = true ∧ upB d.sl 1 = true ∧ devB d = stepsB d.ops) := by
  unfold devB
  cases saB d.sa <;> cases stB d.su <;> cases upB d.nx 16 <;> cases upB d.gt 288 <;> cases upB d.sl 1 <;> simp
theorem dev_bad {d : FDev} (h : mayAll d.ops = false) : devB d = false := by
  have : stepsB d.ops = false := by unfold stepsB; rw [h]; simp
  unfold devB
  rw [this]
  simp
theorem steps_good {l : List FOp} (h : mayAll l = true) : stepsB l = decide (l.length ≤ 768) := by unfold stepsB; rw [h]; simp
set_option maxRecDepth 100000 in
set_option maxHeartbeats 2000000 in
theorem refDev_any (d : FDev) (v : Value) (w : World) (hv : IsSt w v d.ops) : Calls Tryz.prog 17 #[.agg #[.int .i64 d.sa, .int .i64 d.su, .int .i64 d.nx, .int .i64 d.gt, .int .i64 d.sl, v]] w fun r w' => r = .returned (.bool (devB d)) ∧ Below w.heap.size w w' := by
  have hB0 := (Below.refl w.heap.size w).alloc (Nat.le_refl _) (.cells #[.int .i64 d.sa, .int .i64 d.su, .int .i64 d.nx, .int .i64 d.gt, .int .i64 d.sl, v] 24)
  have hX0 := sixM w (.int .i64 d.sa) (.int .i64 d.su) (.int .i64 d.nx) (.int .i64 d.gt) (.int .i64 d.sl) v 24
  have hl : d.ops.length ≤ 9223372036854775807 := by have := hv.len; unfold maxLen at this; omega
  have HW := hide (ref_ways d)
  have HD : Hid (mayAll d.ops = false → devB d = false) := dev_bad
  have HG : Hid (mayAll d.ops = true → stepsB d.ops = decide (d.ops.length ≤ 768)) := steps_good
  obtain ⟨sa, su, nx, gt, sl, l⟩ := d
  obtain ⟨a, ca, rfl, _, ha⟩ := hv
  dsimp only at *
  have HB0 := hide hB0
  have HX0 := hide hX0
  clear hB0 hX0
  go_enter Tryz.func17, Tryz.ntmps17
  go_wp2
  have hB0 := HB0.out
  have hX0 := HX0.out
  clear HB0 HX0
  generalize (w.alloc _) = W0 at *
  go_loopw [3] (fun i wr => ∃ j : Nat, j ≤ l.length ∧ i = .int .i64 j ∧ mayTo l j = true ∧ Below w.heap.size w wr ∧ Six wr w.heap.size (.int .i64 sa) (.int .i64 su) (.int .i64 nx) (.int .i64 gt) (.int .i64 sl) (.slice a l.length ca)) (fun i _ => l.length - (intOf i).toNat)
  case atStart => exact ⟨0, Nat.zero_le _, rfl, rfl, hB0, hX0⟩
  case round =>
    clear hB0 hX0
    obtain ⟨j, hj, rfl, hm, hB, hX⟩ := hrel
    by_cases hlt : j < l.length
    · rcases ha with ha | ⟨g, o, rfl, _, _, hg, ha⟩
      · rw [ha] at hlt; simp at hlt
      have ha' := ha.below hB hg
      have a1 := ha'.er j hlt
      have a2 := ha'.pl j hlt
      have a3 := ha'.tx j hlt
      have HN := hide (mayTo_succ hlt)
      have HF : Hid (opMay l[j].er l[j].pl l[j].tx = false → mayAll l = false) := fun h => mayAll_bad hlt h
      generalize l[j].er = E at *
      generalize l[j].pl = A at *
      generalize l[j].tx = T at *
      clear ha ha'
      have HM : Hid (mayTo l j = true) := hm
      clear hm
      cases hc : opMay E A T with
      | true =>
        go_wp2_with (go_at_call 41; refine (refMay_any _ _ _ _).mono ?_; rintro e w' ⟨rfl, hb⟩; replace hB := thenB hB hb; replace hX := sixB hX hb; clear hb)
        exact ⟨⟨j + 1, by omega, by go_num, by rw [HN.out, HM.out, hc]; rfl, hB, hX⟩, by simp [intOf]; omega⟩
      | false =>
        go_wp2_with (go_at_call 41; refine (refMay_any _ _ _ _).mono ?_; rintro e w' ⟨rfl, hb⟩; replace hB := thenB hB hb; replace hX := sixB hX hb; clear hb)
        go_ret
        exact ⟨ret_bool (HD.out (HF.out hc)).symm, hB⟩
    · obtain rfl : j = l.length := by omega
      rw [mayTo_all] at hm
      have HG2 := hide (HG.out hm)
      clear hm HG HD ha hlt
      rcases HW.out with ⟨h1, h⟩ | ⟨h1, h2, h⟩ | ⟨h1, h2, h3, h⟩ | ⟨h1, h2, h3, h4, h⟩ | ⟨h1, h2, h3, h4, h5, h⟩ | ⟨h1, h2, h3, h4, h5, h⟩
      all_goals
        have HH := hide h
        clear h HW
        go_wp2_with (first | (go_at_call 38; refine (refState_any _ _).mono ?_; rintro e w' ⟨rfl, rfl⟩) | (go_at_call 42; refine (refStatus_any _ _).mono ?_; rintro e w' ⟨rfl, rfl⟩) | (go_at_call 43; refine (up16_any _ _ _).mono ?_; rintro e w' ⟨rfl, rfl⟩))
        go_ret
        first | exact ⟨ret_bool HH.out.symm, hB⟩ | exact ⟨ret_bool (by rw [HH.out, HG2.out, Bool.eq_iff_iff]; simp; try omega), hB⟩
theorem flag_st (s : Int) (h : flB s = true) : stB s = true ∧ (s == 0) = false := by
  obtain ⟨h1, h2⟩ := flB_parts.1 h
  exact ⟨by unfold stB; exact decide_eq_true (by omega), beq_eq_false_iff_ne.2 (by omega)⟩
theorem flag_no (s : Int) (h : flB s = false) : stB s = false ∨ (stB s = true ∧ (s == 0) = true) := by
  unfold flB at h
  replace h := of_decide_eq_false h
  unfold stB
  by_cases h0 : s = 0
  · subst h0; exact .inr ⟨rfl, rfl⟩
  · exact .inl (decide_eq_false (by omega))
end Go.Proofs.YtmlfkbkpkgaefaaGreatDoor.DevRef
