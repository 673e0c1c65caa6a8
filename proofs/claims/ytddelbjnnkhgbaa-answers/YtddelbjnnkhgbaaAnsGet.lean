/- The contracts of the document's own answers to package answer: they return what the same plain functions give. -/
import Derived.Test.YtddelbjnnkhgbaaAnsWalk
import Derived.Test.YtddelbjnnkhgbaaAnsRef
namespace Go.Proofs.Ytddelbjnnkhgbaa.AnsGet
open Go.Proofs.Ytddelbjnnkhgbaa Go.RowKit Go.Proofs.Ytddelbjnnkhgbaa.Bytes Go.Proofs.Ytddelbjnnkhgbaa.NorWalk Go.Proofs.Ytddelbjnnkhgbaa.NorRef Go.Proofs.Ytddelbjnnkhgbaa.Ent Go.Proofs.Ytddelbjnnkhgbaa.EntLow Go.Proofs.Ytddelbjnnkhgbaa.Ans Go.Proofs.Ytddelbjnnkhgbaa.AnsWalk Go.Proofs.Ytddelbjnnkhgbaa.AnsRef
open Go.Proofs.Ytddelbjnnkhgbaa.EntRow (text_ne size_alloc1)
open Go.Proofs.Ytddelbjnnkhgbaa.EntWalk (lowT size_lowT list_lowT numS ext_le)
open Go.Proofs.Ytddelbjnnkhgbaa.EntRef (refLowT_any num_of)
open Go.Proofs.Ytddelbjnnkhgbaa.OpsRow (boxM boxB boxD thenD)
attribute [local go_sem ↓] Go.wp_at_zero Go.wp_at_succ

set_option maxRecDepth 100000 in
set_option maxHeartbeats 4000000 in
theorem refGet_6 (s : ByteArray) (w : World) (h1 : s.size = 6) : Calls Try.prog 10 #[.string s] w fun r w' => r = .returned (.tuple #[.agg #[.int .i64 (aSt s), .int .i64 (aTi s), .int .i64 (aSa s)], .int .i64 (errW (isAns s))]) ∧ Below w.heap.size w w' := by
  have b1 := build_ans
  have b2 := build_no
  have hc := ans_ways h1
  have HC := hide hc
  clear hc
  have z0 : 0 < s.size := by omega
  have z4 : 4 < s.size := by omega
  have z1 : s.size ≤ 6 := by omega
  have z2 : 6 ≤ s.size := by omega
  have y1 : (0 : Int) < (s.size : Int) := by omega
  have y2 : (4 : Int) ≤ (s.size : Int) := by omega
  have y3 : (4 : Int) < (s.size : Int) := by omega
  have hw : IntKind.i64.wrap (s[0].toNat : Int) = numS (s.extract 0 1) := by rw [← num_at s 0 z0, IntKind.wrap_i64]; have := s[0].toNat_lt; omega
  have hw4 : IntKind.i64.wrap (s[4].toNat : Int) = numS (s.extract 4 5) := by rw [← num_at s 4 z4, IntKind.wrap_i64]; have := s[4].toNat_lt; omega
  have HW := hide hw
  have HW4 := hide hw4
  clear hw hw4 h1
  have hR := resB (resM w (.int .i64 0) (.int .i64 0) (.int .i64 0) 23) ((Below.refl _ _).alloc (Nat.le_refl _) (.cells #[.int .i64 (numS (s.extract 0 1)), .int .i64 (numS (s.extract 1 4)), .int .i64 (numS (s.extract 4 5))] 23))
  have hX := boxM (w.alloc (.cells #[.int .i64 0, .int .i64 0, .int .i64 0] 23)) (.int .i64 (numS (s.extract 0 1))) (.int .i64 (numS (s.extract 1 4))) (.int .i64 (numS (s.extract 4 5))) 23
  have hB := ((Below.refl w.heap.size w).alloc (Nat.le_refl _) (.cells #[.int .i64 0, .int .i64 0, .int .i64 0] 23)).alloc (Nat.le_of_lt (size_alloc1 _ _)) (.cells #[.int .i64 (numS (s.extract 0 1)), .int .i64 (numS (s.extract 1 4)), .int .i64 (numS (s.extract 4 5))] 23)
  rw [show (w.alloc (.cells #[.int .i64 0, .int .i64 0, .int .i64 0] 23)).heap.size = w.heap.size + 1 from by simp] at hX
  have HB := hide hB
  have HX := hide hX
  have HR := hide hR
  clear hB hX hR
  go_enter Try.func10, Try.ntmps10
  go_wp2
  go_region_held3 (fun _ => True) (trivial) ((go_at_call 18; refine (num_of _ _ (by exact ext_le _ _ _ (by omega))).mono ?_; rintro e w' ⟨rfl, rfl⟩))
  all_goals
    try rw [HW.out]
    try rw [HW4.out]
    have hB := HB.out.drew
    have hX := boxB HX.out (Below.refl _ _).drew
    have hR := resB HR.out (Below.refl _ _).drew
    clear HB HX HR
    generalize (World.alloc _ (.cells #[.int .i64 (numS (s.extract 0 1)), .int .i64 (numS (s.extract 1 4)), .int .i64 (numS (s.extract 4 5))] 23)).drew = W at *
    rcases HC.out with ⟨h2, h3⟩ | ⟨h2, h3, h4⟩ | ⟨h2, h3, h4⟩
    · have e0 : errW false = 1400 := rfl
      have HZ := hide (zero_ans h3)
      clear h3
      go_wp2_with (go_at_call 8; refine (refPut_any _ _ _ _).mono ?_; rintro e w' ⟨rfl, hb⟩; replace hB := thenB hB hb; replace hX := boxB hX hb; replace hR := resB hR hb; clear hb)
      exact bodyPost_ret (v := .tuple #[.agg #[.int .i64 0, .int .i64 0, .int .i64 0], .int .i64 1400]) (by simp [results, Try.results10, go_sem, hR]) rfl ⟨ret_ans HZ.out, set3 hB (Nat.le_refl _)⟩
    · have e0 : errW true = 0 := rfl
      have HZ := hide (zero_ans h4)
      have h5 := text_ne h3
      clear h4 h3
      go_wp2_with (go_at_call 8; refine (refPut_any _ _ _ _).mono ?_; rintro e w' ⟨rfl, hb⟩; replace hB := thenB hB hb; replace hX := boxB hX hb; replace hR := resB hR hb; clear hb)
      exact bodyPost_ret (v := .tuple #[.agg #[.int .i64 0, .int .i64 0, .int .i64 0], .int .i64 1400]) (by simp [results, Try.results10, go_sem, hR]) rfl ⟨ret_ans HZ.out, set3 hB (Nat.le_refl _)⟩
    · have e0 : errW true = 0 := rfl
      have HZ := hide (some_ans h4)
      clear h4
      go_wp2_with (go_at_call 8; refine (refPut_any _ _ _ _).mono ?_; rintro e w' ⟨rfl, hb⟩; replace hB := thenB hB hb; replace hX := boxB hX hb; replace hR := resB hR hb; clear hb)
      exact bodyPost_ret (v := .tuple #[.agg #[.int .i64 (numS (s.extract 0 1)), .int .i64 (numS (s.extract 1 4)), .int .i64 (numS (s.extract 4 5))], .int .i64 0]) (by simp [results, Try.results10, go_sem, hR]) rfl ⟨ret_ans HZ.out, set3 hB (Nat.le_refl _)⟩
theorem refGet_any (s : ByteArray) (w : World) : Calls Try.prog 10 #[.string s] w fun r w' => r = .returned (.tuple #[.agg #[.int .i64 (aSt s), .int .i64 (aTi s), .int .i64 (aSa s)], .int .i64 (errW (isAns s))]) ∧ Below w.heap.size w w' := by
  by_cases h : s.size = 6
  · exact refGet_6 s w h
  · have h2 : isAns s = false := by unfold isAns; exact decide_eq_false (fun g => h g.1)
    obtain ⟨g1, g2, g3⟩ := ans_none h2
    rw [g1, g2, g3, h2]
    exact refGet_none s w h
end Go.Proofs.Ytddelbjnnkhgbaa.AnsGet
