/- The contracts of the document's own answers to package answer: they return what the same plain functions give. -/
import Derived.Test.YtgkmallikomnaaaBagAns
import Derived.Test.YtgkmallikomnaaaEntRef
namespace Go.Proofs.Ytgkmallikomnaaa.AnsRef
open Go.Proofs.Ytgkmallikomnaaa Go.RowKit Go.Proofs.Ytgkmallikomnaaa.Bytes Go.Proofs.Ytgkmallikomnaaa.NorWalk Go.Proofs.Ytgkmallikomnaaa.NorRef Go.Proofs.Ytgkmallikomnaaa.Ent Go.Proofs.Ytgkmallikomnaaa.EntLow Go.Proofs.Ytgkmallikomnaaa.Ans Go.Proofs.Ytgkmallikomnaaa.AnsWalk
open Go.Proofs.Ytgkmallikomnaaa.EntRow (text_ne size_alloc1)
open Go.Proofs.Ytgkmallikomnaaa.EntWalk (lowT size_lowT list_lowT numS ext_le)
open Go.Proofs.Ytgkmallikomnaaa.EntRef (refLowT_any)
open Go.Proofs.Ytgkmallikomnaaa.EntRef (num_of)
open Go.Proofs.Ytgkmallikomnaaa.OpsRow (boxM boxB boxD thenD)
attribute [local go_sem ↓] Go.wp_at_zero Go.wp_at_succ

theorem stUp (c : Int) : stB c = upToB c 0 6 := rfl
theorem saUp (c : Int) : saB c = upToB c 0 7 := rfl
theorem ansB_up (c v n : Int) : ansB c v n = (stB c && (saB n && upToB v 0 255)) := by
  unfold ansB stB saB upToB
  rw [Bool.eq_iff_iff]
  simp
  omega
theorem refStatus_any (n : Int) (w : World) : Calls Try.prog 49 #[.int .i64 n] w fun e w' => e = .returned (.bool (stB n)) ∧ w' = w := by
  rw [stUp]
  go_enter Try.func49, Try.ntmps49
  go_wp2_with (go_at_call 44; refine (upTo_any _ _ _ _).mono ?_; rintro e w' ⟨rfl, rfl⟩)
  go_ret
  exact ⟨rfl, rfl⟩
theorem refState_any (n : Int) (w : World) : Calls Try.prog 50 #[.int .i64 n] w fun e w' => e = .returned (.bool (saB n)) ∧ w' = w := by
  rw [saUp]
  go_enter Try.func50, Try.ntmps50
  go_wp2_with (go_at_call 44; refine (upTo_any _ _ _ _).mono ?_; rintro e w' ⟨rfl, rfl⟩)
  go_ret
  exact ⟨rfl, rfl⟩
set_option maxRecDepth 100000 in
set_option maxHeartbeats 1000000 in
theorem refMay_any (c v n : Int) (w : World) : Calls Try.prog 32 #[.agg #[.int .i64 c, .int .i64 v, .int .i64 n]] w fun e w' => e = .returned (.bool (ansB c v n)) ∧ Below w.heap.size w w' := by
  rw [ansB_up]
  have hX := boxM w (.int .i64 c) (.int .i64 v) (.int .i64 n) 43
  cases h1 : stB c <;> cases h2 : saB n <;> cases h3 : upToB v 0 255
  all_goals
    go_enter Try.func32, Try.ntmps32
    go_wp2_with (first | (go_at_call 49; refine (refStatus_any _ _).mono ?_; rintro e w' ⟨rfl, rfl⟩) | (go_at_call 50; refine (refState_any _ _).mono ?_; rintro e w' ⟨rfl, rfl⟩) | (go_at_call 44; refine (upTo_any _ _ _ _).mono ?_; rintro e w' ⟨rfl, rfl⟩))
    go_ret
    exact ⟨rfl, (Below.refl _ _).alloc (Nat.le_refl _) _⟩
set_option maxRecDepth 100000 in
set_option maxHeartbeats 1000000 in
theorem refPut_no (c v n : Int) (w : World) (h : ansB c v n = false) : Calls Try.prog 15 #[.agg #[.int .i64 c, .int .i64 v, .int .i64 n]] w fun e w' => e = .returned (.tuple #[.string ⟨#[]⟩, .int .i64 1400]) ∧ Below w.heap.size w w' := by
  have hB := (Below.refl w.heap.size w).alloc (Nat.le_refl _) (.cells #[.int .i64 c, .int .i64 v, .int .i64 n] 43)
  have hX := boxM w (.int .i64 c) (.int .i64 v) (.int .i64 n) 43
  go_enter Try.func15, Try.ntmps15
  go_wp2_with (go_at_call 32; refine (refMay_any _ _ _ _).mono ?_; rintro e w' ⟨rfl, hb⟩; replace hB := hB.trans (hb.mono hB.size); replace hX := boxB hX hb; clear hb)
  go_ret2
  exact ⟨rfl, hB⟩
set_option maxRecDepth 100000 in
set_option maxHeartbeats 4000000 in
theorem refPut_yes (c v n : Int) (w : World) (h : ansB c v n = true) : Calls Try.prog 15 #[.agg #[.int .i64 c, .int .i64 v, .int .i64 n]] w fun e w' => e = .returned (.tuple #[.string (ansS c v n), .int .i64 0]) ∧ Below w.heap.size w w' := by
  have hB := (Below.refl w.heap.size w).alloc (Nat.le_refl _) (.cells #[.int .i64 c, .int .i64 v, .int .i64 n] 43)
  have hX := boxM w (.int .i64 c) (.int .i64 v) (.int .i64 n) 43
  obtain ⟨p1, _, p2, _, p3, _⟩ := ansB_parts.1 h
  have p4 : (0 : Int) ≤ 0 := by omega
  have HP := hide (laid h)
  have a1 : (lowT c 1).size ≤ 1 := size_lowT c 1
  have b1 : (lowT v 3).size ≤ 3 := size_lowT v 3
  have c1 : (lowT n 1).size ≤ 1 := size_lowT n 1
  have d1 : (lowT 0 1).size ≤ 1 := size_lowT 0 1
  have n1 : ¬ 9223372036854775807 < (lowT c 1).size + (lowT v 3).size := by omega
  have n2 : ¬ 9223372036854775807 < (lowT c 1).size + (lowT v 3).size + (lowT n 1).size := by omega
  have n3 : ¬ 9223372036854775807 < (lowT c 1).size + (lowT v 3).size + (lowT n 1).size + (lowT 0 1).size := by omega
  go_enter Try.func15, Try.ntmps15
  go_wp2_with (go_at_call 32; refine (refMay_any _ _ _ _).mono ?_; rintro e w' ⟨rfl, hb⟩; replace hB := hB.trans (hb.mono hB.size); replace hX := boxB hX hb; clear hb)
  go_region_held3 (fun W => W.cell? ⟨w.heap.size, 0, none⟩ = some (.int .i64 c) ∧ W.cell? ⟨w.heap.size, 1, none⟩ = some (.int .i64 v) ∧ W.cell? ⟨w.heap.size, 2, none⟩ = some (.int .i64 n)) (go_keep) ((go_at_call 33; refine (refLowT_any _ _ _ (by assumption) (by decide) (by decide)).mono ?_; rintro e w' ⟨rfl, hb⟩; replace hB := thenD hb hB rfl rfl rfl rfl; replace hX := boxD hb hX; clear hb))
  go_wp2
  go_ret2
  exact ⟨ret_text HP.out rfl, hB⟩
theorem refPut_any (c v n : Int) (w : World) : Calls Try.prog 15 #[.agg #[.int .i64 c, .int .i64 v, .int .i64 n]] w fun e w' => e = .returned (.tuple #[.string (ansS c v n), .int .i64 (errW (ansB c v n))]) ∧ Below w.heap.size w w' := by
  cases h : ansB c v n with
  | false => rw [ansS_no h]; exact refPut_no c v n w h
  | true => exact refPut_yes c v n w h
theorem num_at (s : ByteArray) (i : Nat) (h : i < s.size) : (s[i].toNat : Int) = numS (s.extract i (i + 1)) := by
  unfold numS
  rw [list_extract]
  have hl : i < s.data.toList.length := by rw [Nor.size_list]; exact h
  have e1 : s.data.toList[i] = s[i] := by rw [Array.getElem_toList]; rfl
  rw [List.drop_eq_getElem_cons hl, e1, Nat.add_sub_cancel_left]
  show _ = (((s[i].toNat + 256 * 0 : Nat)) : Int)
  omega
set_option maxHeartbeats 4000000 in
theorem refGet_none (s : ByteArray) (w : World) (h1 : ¬ s.size = 6) : Calls Try.prog 43 #[.string s] w fun r w' => r = .returned (.tuple #[.agg #[.int .i64 0, .int .i64 0, .int .i64 0], .int .i64 1400]) ∧ Below w.heap.size w w' := by
  have b2 := build_no
  go_enter Try.func43, Try.ntmps43
  go_wp2
  exact bodyPost_ret (v := .tuple #[.agg #[.int .i64 0, .int .i64 0, .int .i64 0], .int .i64 1400]) (by simp [results, Try.results43, go_sem]) rfl ⟨rfl, (Below.refl _ _).alloc (Nat.le_refl _) _⟩
end Go.Proofs.Ytgkmallikomnaaa.AnsRef

/- The contracts of the document's own answers to package answer: they return what the same plain functions give. -/
namespace Go.Proofs.Ytgkmallikomnaaa.AnsGet
open Go.Proofs.Ytgkmallikomnaaa Go.RowKit Go.Proofs.Ytgkmallikomnaaa.Bytes Go.Proofs.Ytgkmallikomnaaa.NorWalk Go.Proofs.Ytgkmallikomnaaa.NorRef Go.Proofs.Ytgkmallikomnaaa.Ent Go.Proofs.Ytgkmallikomnaaa.EntLow Go.Proofs.Ytgkmallikomnaaa.Ans Go.Proofs.Ytgkmallikomnaaa.AnsWalk Go.Proofs.Ytgkmallikomnaaa.AnsRef
open Go.Proofs.Ytgkmallikomnaaa.EntRow (text_ne size_alloc1)
open Go.Proofs.Ytgkmallikomnaaa.EntWalk (lowT size_lowT list_lowT numS ext_le)
open Go.Proofs.Ytgkmallikomnaaa.EntRef (refLowT_any num_of)
open Go.Proofs.Ytgkmallikomnaaa.OpsRow (boxM boxB boxD thenD)
attribute [local go_sem ↓] Go.wp_at_zero Go.wp_at_succ

set_option maxRecDepth 100000 in
set_option maxHeartbeats 4000000 in
theorem refGet_6 (s : ByteArray) (w : World) (h1 : s.size = 6) : Calls Try.prog 43 #[.string s] w fun r w' => r = .returned (.tuple #[.agg #[.int .i64 (aSt s), .int .i64 (aTi s), .int .i64 (aSa s)], .int .i64 (errW (isAns s))]) ∧ Below w.heap.size w w' := by
  have b1 := build_ans
  have b2 := build_no
  have hc := ans_ways h1
  have HC := hide hc
  clear hc
  have z0 : 0 < s.size := by omega
  have z4 : 4 < s.size := by omega
  have z1 : s.size ≤ 6 := by omega
  have z2 : 6 ≤ s.size := by omega
  have y1 : (0 : Int) < (s.size : Int) := by omega
  have y2 : (4 : Int) ≤ (s.size : Int) := by omega
  have y3 : (4 : Int) < (s.size : Int) := by omega
  have hw : IntKind.i64.wrap (s[0].toNat : Int) = numS (s.extract 0 1) := by rw [← num_at s 0 z0, IntKind.wrap_i64]; have := s[0].toNat_lt; omega
  have hw4 : IntKind.i64.wrap (s[4].toNat : Int) = numS (s.extract 4 5) := by rw [← num_at s 4 z4, IntKind.wrap_i64]; have := s[4].toNat_lt; omega
  have HW := hide hw
  have HW4 := hide hw4
  clear hw hw4 h1
  have hR := resB (resM w (.int .i64 0) (.int .i64 0) (.int .i64 0) 43) ((Below.refl _ _).alloc (Nat.le_refl _) (.cells #[.int .i64 (numS (s.extract 0 1)), .int .i64 (numS (s.extract 1 4)), .int .i64 (numS (s.extract 4 5))] 43))
  have hX := boxM (w.alloc (.cells #[.int .i64 0, .int .i64 0, .int .i64 0] 43)) (.int .i64 (numS (s.extract 0 1))) (.int .i64 (numS (s.extract 1 4))) (.int .i64 (numS (s.extract 4 5))) 43
  have hB := ((Below.refl w.heap.size w).alloc (Nat.le_refl _) (.cells #[.int .i64 0, .int .i64 0, .int .i64 0] 43)).alloc (Nat.le_of_lt (size_alloc1 _ _)) (.cells #[.int .i64 (numS (s.extract 0 1)), .int .i64 (numS (s.extract 1 4)), .int .i64 (numS (s.extract 4 5))] 43)
  rw [show (w.alloc (.cells #[.int .i64 0, .int .i64 0, .int .i64 0] 43)).heap.size = w.heap.size + 1 from by simp] at hX
  have HB := hide hB
  have HX := hide hX
  have HR := hide hR
  clear hB hX hR
  go_enter Try.func43, Try.ntmps43
  go_wp2
  go_region_held3 (fun _ => True) (trivial) ((go_at_call 61; refine (num_of _ _ (by exact ext_le _ _ _ (by omega))).mono ?_; rintro e w' ⟨rfl, rfl⟩))
  all_goals
    try rw [HW.out]
    try rw [HW4.out]
    have hB := HB.out.drew
    have hX := boxB HX.out (Below.refl _ _).drew
    have hR := resB HR.out (Below.refl _ _).drew
    clear HB HX HR
    generalize (World.alloc _ (.cells #[.int .i64 (numS (s.extract 0 1)), .int .i64 (numS (s.extract 1 4)), .int .i64 (numS (s.extract 4 5))] 43)).drew = W at *
    rcases HC.out with ⟨h2, h3⟩ | ⟨h2, h3, h4⟩ | ⟨h2, h3, h4⟩
    · have e0 : errW false = 1400 := rfl
      have HZ := hide (zero_ans h3)
      clear h3
      go_wp2_with (go_at_call 15; refine (refPut_any _ _ _ _).mono ?_; rintro e w' ⟨rfl, hb⟩; replace hB := thenB hB hb; replace hX := boxB hX hb; replace hR := resB hR hb; clear hb)
      exact bodyPost_ret (v := .tuple #[.agg #[.int .i64 0, .int .i64 0, .int .i64 0], .int .i64 1400]) (by simp [results, Try.results43, go_sem, hR]) rfl ⟨ret_ans HZ.out, set3 hB (Nat.le_refl _)⟩
    · have e0 : errW true = 0 := rfl
      have HZ := hide (zero_ans h4)
      have h5 := text_ne h3
      clear h4 h3
      go_wp2_with (go_at_call 15; refine (refPut_any _ _ _ _).mono ?_; rintro e w' ⟨rfl, hb⟩; replace hB := thenB hB hb; replace hX := boxB hX hb; replace hR := resB hR hb; clear hb)
      exact bodyPost_ret (v := .tuple #[.agg #[.int .i64 0, .int .i64 0, .int .i64 0], .int .i64 1400]) (by simp [results, Try.results43, go_sem, hR]) rfl ⟨ret_ans HZ.out, set3 hB (Nat.le_refl _)⟩
    · have e0 : errW true = 0 := rfl
      have HZ := hide (some_ans h4)
      clear h4
      go_wp2_with (go_at_call 15; refine (refPut_any _ _ _ _).mono ?_; rintro e w' ⟨rfl, hb⟩; replace hB := thenB hB hb; replace hX := boxB hX hb; replace hR := resB hR hb; clear hb)
      exact bodyPost_ret (v := .tuple #[.agg #[.int .i64 (numS (s.extract 0 1)), .int .i64 (numS (s.extract 1 4)), .int .i64 (numS (s.extract 4 5))], .int .i64 0]) (by simp [results, Try.results43, go_sem, hR]) rfl ⟨ret_ans HZ.out, set3 hB (Nat.le_refl _)⟩
theorem refGet_any (s : ByteArray) (w : World) : Calls Try.prog 43 #[.string s] w fun r w' => r = .returned (.tuple #[.agg #[.int .i64 (aSt s), .int .i64 (aTi s), .int .i64 (aSa s)], .int .i64 (errW (isAns s))]) ∧ Below w.heap.size w w' := by
  by_cases h : s.size = 6
  · exact refGet_6 s w h
  · have h2 : isAns s = false := by unfold isAns; exact decide_eq_false (fun g => h g.1)
    obtain ⟨g1, g2, g3⟩ := ans_none h2
    rw [g1, g2, g3, h2]
    exact refGet_none s w h
end Go.Proofs.Ytgkmallikomnaaa.AnsGet
