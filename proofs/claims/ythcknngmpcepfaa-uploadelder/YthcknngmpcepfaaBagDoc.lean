/- The contracts of the document's own answers to package answer: they return what the same plain functions give. -/
import Derived.Test.YthcknngmpcepfaaBagAns
import Derived.Test.YthcknngmpcepfaaEntRef
import Derived.Test.YthcknngmpcepfaaBagDev
import Derived.Test.YthcknngmpcepfaaBagOps
namespace Go.Proofs.Ythcknngmpcepfaa.AnsRef
open Go.Proofs.Ythcknngmpcepfaa Go.RowKit Go.Proofs.Ythcknngmpcepfaa.Bytes Go.Proofs.Ythcknngmpcepfaa.NorWalk Go.Proofs.Ythcknngmpcepfaa.NorRef Go.Proofs.Ythcknngmpcepfaa.Ent Go.Proofs.Ythcknngmpcepfaa.EntLow Go.Proofs.Ythcknngmpcepfaa.Ans Go.Proofs.Ythcknngmpcepfaa.AnsWalk
open Go.Proofs.Ythcknngmpcepfaa.EntRow (text_ne size_alloc1)
open Go.Proofs.Ythcknngmpcepfaa.EntWalk (lowT size_lowT list_lowT numS ext_le)
open Go.Proofs.Ythcknngmpcepfaa.EntRef (refLowT_any num_of)
open Go.Proofs.Ythcknngmpcepfaa.OpsRow (boxM boxB boxD thenD)
attribute [local go_sem ↓] Go.wp_at_zero Go.wp_at_succ

theorem stUp (c : Int) : stB c = upToB c 0 6 := rfl
theorem saUp (c : Int) : saB c = upToB c 0 7 := rfl
theorem ansB_up (c v n : Int) : ansB c v n = (stB c && (saB n && upToB v 0 255)) := by
  unfold ansB stB saB upToB
  rw [Bool.eq_iff_iff]
  simp
  omega
theorem refStatus_any (n : Int) (w : World) : Calls Try.prog 78 #[.int .i64 n] w fun e w' => e = .returned (.bool (stB n)) ∧ w' = w := by
  rw [stUp]
  go_enter Try.func78, Try.ntmps78
  go_wp2_with (go_at_call 45; refine (upTo_any _ _ _ _).mono ?_; rintro e w' ⟨rfl, rfl⟩)
  go_ret
  exact ⟨rfl, rfl⟩
theorem refState_any (n : Int) (w : World) : Calls Try.prog 77 #[.int .i64 n] w fun e w' => e = .returned (.bool (saB n)) ∧ w' = w := by
  rw [saUp]
  go_enter Try.func77, Try.ntmps77
  go_wp2_with (go_at_call 45; refine (upTo_any _ _ _ _).mono ?_; rintro e w' ⟨rfl, rfl⟩)
  go_ret
  exact ⟨rfl, rfl⟩
theorem num_at (s : ByteArray) (i : Nat) (h : i < s.size) : (s[i].toNat : Int) = numS (s.extract i (i + 1)) := by
  unfold numS
  rw [list_extract]
  have hl : i < s.data.toList.length := by rw [Nor.size_list]; exact h
  have e1 : s.data.toList[i] = s[i] := by rw [Array.getElem_toList]; rfl
  rw [List.drop_eq_getElem_cons hl, e1, Nat.add_sub_cancel_left]
  show _ = (((s[i].toNat + 256 * 0 : Nat)) : Int)
  omega
end Go.Proofs.Ythcknngmpcepfaa.AnsRef

/- The contracts of the document's own answers to package device: they return what the same plain functions give. -/
namespace Go.Proofs.Ythcknngmpcepfaa.DevRef
open Go.Proofs.Ythcknngmpcepfaa Go.RowKit Go.Proofs.Ythcknngmpcepfaa.Bytes Go.Proofs.Ythcknngmpcepfaa.Ops Go.Proofs.Ythcknngmpcepfaa.Ans Go.Proofs.Ythcknngmpcepfaa.Dev Go.Proofs.Ythcknngmpcepfaa.DevRow
open Go.Proofs.Ythcknngmpcepfaa.DevWalk (build_d0 build_d2)
open Go.Proofs.Ythcknngmpcepfaa.OpsWalk (size_alloc1)
open Go.Proofs.Ythcknngmpcepfaa.OpsRef (refMay_any)
open Go.Proofs.Ythcknngmpcepfaa.AnsRef (refStatus_any refState_any)
open Go.Proofs.Ythcknngmpcepfaa.NorWalk (ret_bool)
attribute [local go_sem ↓] Go.wp_at_zero Go.wp_at_succ
theorem up16_any (x k : Int) (w : World) : Calls Try.prog 31 #[.int .i64 x, .int .i64 0, .int .i64 k] w fun e w' => e = .returned (.bool (upB x k)) ∧ w' = w := by
  go_enter Try.func31, Try.ntmps31
  go_wp2
  all_goals
    go_ret
    exact ⟨ret_bool (by unfold upB; rw [Bool.eq_iff_iff]; simp; try omega), rfl⟩
theorem newRef_any (w : World) : Calls Try.prog 19 #[] w fun r w' => r = .returned (.agg #[.int .i64 0, .int .i64 0, .int .i64 0, .int .i64 0, .int .i64 0, .slice none 0 0]) ∧ Below w.heap.size w w' := by
  have b := build_d2
  go_enter Try.func19, Try.ntmps19
  go_wp2
  exact bodyPost_ret (v := .agg #[.int .i64 0, .int .i64 0, .int .i64 0, .int .i64 0, .int .i64 0, .slice none 0 0]) (by simp [results, Try.results19, go_sem]) rfl ⟨rfl, (Below.refl _ _).alloc (Nat.le_refl _) _⟩
theorem failedRef_any (s : Int) (w : World) : Calls Try.prog 32 #[.int .i64 s] w fun r w' => r = .returned (.agg #[.int .i64 7, .int .i64 s, .int .i64 0, .int .i64 0, .int .i64 0, .slice none 0 0]) ∧ Below w.heap.size w w' := by
  have b := build_d2
  go_enter Try.func32, Try.ntmps32
  go_wp2
  exact bodyPost_ret (v := .agg #[.int .i64 7, .int .i64 s, .int .i64 0, .int .i64 0, .int .i64 0, .slice none 0 0]) (by simp [results, Try.results32, go_sem]) rfl ⟨rfl, (Below.refl _ _).alloc (Nat.le_refl _) _⟩
theorem ref_ways (d : FDev) : (saB d.sa = false ∧ devB d = false) ∨ (saB d.sa = true ∧ stB d.su = false ∧ devB d = false) ∨ (saB d.sa = true ∧ stB d.su = true ∧ upB d.nx 16 = false ∧ devB d = false) ∨ (saB d.sa = true ∧ stB d.su = true ∧ upB d.nx 16 = true ∧ upB d.gt 288 = false ∧ devB d = false) ∨ (saB d.sa = true ∧ stB d.su = true ∧ upB d.nx 16 = true ∧ upB d.gt 288 = true ∧ upB d.sl 1 = false ∧ devB d = false) ∨ (saB d.sa = true ∧ stB d.su = true ∧ upB d.nx 16 = true ∧ upB d.gt 288 = true ∧ upB d.sl 1 = true ∧ devB d = stepsB d.ops) := by
  unfold devB
  cases saB d.sa <;> cases stB d.su <;> cases upB d.nx 16 <;> cases upB d.gt 288 <;> cases upB d.sl 1 <;> simp
theorem dev_bad {d : FDev} (h : mayAll d.ops = false) : devB d = false := by
  have : stepsB d.ops = false := by unfold stepsB; rw [h]; simp
  unfold devB
  rw [this]
  simp
theorem steps_good {l : List FOp} (h : mayAll l = true) : stepsB l = decide (l.length ≤ 768) := by unfold stepsB; rw [h]; simp
set_option maxRecDepth 100000 in
set_option maxHeartbeats 2000000 in
theorem refDev_any (d : FDev) (v : Value) (w : World) (hv : IsSt w v d.ops) : Calls Try.prog 55 #[.agg #[.int .i64 d.sa, .int .i64 d.su, .int .i64 d.nx, .int .i64 d.gt, .int .i64 d.sl, v]] w fun r w' => r = .returned (.bool (devB d)) ∧ Below w.heap.size w w' := by
  have hB0 := (Below.refl w.heap.size w).alloc (Nat.le_refl _) (.cells #[.int .i64 d.sa, .int .i64 d.su, .int .i64 d.nx, .int .i64 d.gt, .int .i64 d.sl, v] 24)
  have hX0 := sixM w (.int .i64 d.sa) (.int .i64 d.su) (.int .i64 d.nx) (.int .i64 d.gt) (.int .i64 d.sl) v 24
  have hl : d.ops.length ≤ 9223372036854775807 := by have := hv.len; unfold maxLen at this; omega
  have HW := hide (ref_ways d)
  have HD : Hid (mayAll d.ops = false → devB d = false) := dev_bad
  have HG : Hid (mayAll d.ops = true → stepsB d.ops = decide (d.ops.length ≤ 768)) := steps_good
  obtain ⟨sa, su, nx, gt, sl, l⟩ := d
  obtain ⟨a, ca, rfl, _, ha⟩ := hv
  dsimp only at *
  have HB0 := hide hB0
  have HX0 := hide hX0
  clear hB0 hX0
  go_enter Try.func55, Try.ntmps55
  go_wp2
  have hB0 := HB0.out
  have hX0 := HX0.out
  clear HB0 HX0
  generalize (w.alloc _) = W0 at *
  go_loopw [3] (fun i wr => ∃ j : Nat, j ≤ l.length ∧ i = .int .i64 j ∧ mayTo l j = true ∧ Below w.heap.size w wr ∧ Six wr w.heap.size (.int .i64 sa) (.int .i64 su) (.int .i64 nx) (.int .i64 gt) (.int .i64 sl) (.slice a l.length ca)) (fun i _ => l.length - (intOf i).toNat)
  case atStart => exact ⟨0, Nat.zero_le _, rfl, rfl, hB0, hX0⟩
  case round =>
    clear hB0 hX0
    obtain ⟨j, hj, rfl, hm, hB, hX⟩ := hrel
    by_cases hlt : j < l.length
    · rcases ha with ha | ⟨g, o, rfl, _, _, hg, ha⟩
      · rw [ha] at hlt; simp at hlt
      have ha' := ha.below hB hg
      have a1 := ha'.er j hlt
      have a2 := ha'.pl j hlt
      have a3 := ha'.tx j hlt
      have HN := hide (mayTo_succ hlt)
      have HF : Hid (opMay l[j].er l[j].pl l[j].tx = false → mayAll l = false) := fun h => mayAll_bad hlt h
      generalize l[j].er = E at *
      generalize l[j].pl = A at *
      generalize l[j].tx = T at *
      clear ha ha'
      have HM : Hid (mayTo l j = true) := hm
      clear hm
      cases hc : opMay E A T with
      | true =>
        go_wp2_with (go_at_call 76; refine (refMay_any _ _ _ _).mono ?_; rintro e w' ⟨rfl, hb⟩; replace hB := thenB hB hb; replace hX := sixB hX hb; clear hb)
        exact ⟨⟨j + 1, by omega, by go_num, by rw [HN.out, HM.out, hc]; rfl, hB, hX⟩, by simp [intOf]; omega⟩
      | false =>
        go_wp2_with (go_at_call 76; refine (refMay_any _ _ _ _).mono ?_; rintro e w' ⟨rfl, hb⟩; replace hB := thenB hB hb; replace hX := sixB hX hb; clear hb)
        go_ret
        exact ⟨ret_bool (HD.out (HF.out hc)).symm, hB⟩
    · obtain rfl : j = l.length := by omega
      rw [mayTo_all] at hm
      have HG2 := hide (HG.out hm)
      clear hm HG HD ha hlt
      rcases HW.out with ⟨h1, h⟩ | ⟨h1, h2, h⟩ | ⟨h1, h2, h3, h⟩ | ⟨h1, h2, h3, h4, h⟩ | ⟨h1, h2, h3, h4, h5, h⟩ | ⟨h1, h2, h3, h4, h5, h⟩
      all_goals
        have HH := hide h
        clear h HW
        go_wp2_with (first | (go_at_call 77; refine (refState_any _ _).mono ?_; rintro e w' ⟨rfl, rfl⟩) | (go_at_call 78; refine (refStatus_any _ _).mono ?_; rintro e w' ⟨rfl, rfl⟩) | (go_at_call 31; refine (up16_any _ _ _).mono ?_; rintro e w' ⟨rfl, rfl⟩))
        go_ret
        first | exact ⟨ret_bool HH.out.symm, hB⟩ | exact ⟨ret_bool (by rw [HH.out, HG2.out, Bool.eq_iff_iff]; simp; try omega), hB⟩
theorem flag_st (s : Int) (h : flB s = true) : stB s = true ∧ (s == 0) = false := by
  obtain ⟨h1, h2⟩ := flB_parts.1 h
  exact ⟨by unfold stB; exact decide_eq_true (by omega), beq_eq_false_iff_ne.2 (by omega)⟩
theorem flag_no (s : Int) (h : flB s = false) : stB s = false ∨ (stB s = true ∧ (s == 0) = true) := by
  unfold flB at h
  replace h := of_decide_eq_false h
  unfold stB
  by_cases h0 : s = 0
  · subst h0; exact .inr ⟨rfl, rfl⟩
  · exact .inl (decide_eq_false (by omega))
end Go.Proofs.Ythcknngmpcepfaa.DevRef
