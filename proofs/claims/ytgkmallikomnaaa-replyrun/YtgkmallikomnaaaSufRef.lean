/- The contracts of the document's own answers to package suffix: they return what the same plain functions give. -/
import Derived.Test.YtgkmallikomnaaaBagSuf
import Derived.Test.YtgkmallikomnaaaEntRef
import Derived.Test.YtgkmallikomnaaaBagCrc
namespace Go.Proofs.Ytgkmallikomnaaa.SufRef
open Go.Proofs.Ytgkmallikomnaaa Go.RowKit Go.Proofs.Ytgkmallikomnaaa.Bytes Go.Proofs.Ytgkmallikomnaaa.NorWalk Go.Proofs.Ytgkmallikomnaaa.NorRef Go.Proofs.Ytgkmallikomnaaa.Ent Go.Proofs.Ytgkmallikomnaaa.EntLow Go.Proofs.Ytgkmallikomnaaa.Suf Go.Proofs.Ytgkmallikomnaaa.SufWalk
open Go.Proofs.Ytgkmallikomnaaa.EntRow (text_ne size_alloc1)
open Go.Proofs.Ytgkmallikomnaaa.EntWalk (lowT size_lowT list_lowT numS ext_le)
open Go.Proofs.Ytgkmallikomnaaa.EntRef (refLowT_any num_of)
open Go.Proofs.Ytgkmallikomnaaa.OpsRow (boxM boxB boxD thenD)
attribute [local go_sem ↓] Go.wp_at_zero Go.wp_at_succ

theorem idMay_any (n : Int) (w : World) : Calls Try.prog 62 #[.int .i64 n] w fun e w' => e = .returned (.bool (idB n)) ∧ w' = w := by
  go_enter Try.func62, Try.ntmps62
  go_wp2_with (go_at_call 44; refine (upTo_any _ _ _ _).mono ?_; rintro e w' ⟨rfl, rfl⟩)
  go_ret
  exact ⟨rfl, rfl⟩
theorem upImg_any (n : Int) (w : World) : Calls Try.prog 44 #[.int .i64 n, .int .i64 1, .int .i64 288] w fun e w' => e = .returned (.bool (imgB n)) ∧ w' = w := upTo_any n 1 288 w
set_option maxRecDepth 100000 in
theorem idsMay_any (v p r : Int) (w : World) : Calls Try.prog 45 #[.agg #[.int .i64 v, .int .i64 p, .int .i64 r]] w fun e w' => e = .returned (.bool (idsB v p r)) ∧ Below w.heap.size w w' := by
  have hX := boxM w (.int .i64 v) (.int .i64 p) (.int .i64 r) 58
  unfold idsB
  cases h1 : idB v <;> cases h2 : idB p <;> cases h3 : idB r
  all_goals
    go_enter Try.func45, Try.ntmps45
    go_wp2_with (go_at_call 62; refine (idMay_any _ _).mono ?_; rintro e w' ⟨rfl, rfl⟩)
    go_ret
    exact ⟨rfl, (Below.refl _ _).alloc (Nat.le_refl _) _⟩
set_option maxRecDepth 100000 in
set_option maxHeartbeats 1000000 in
theorem refBuild_no (s : ByteArray) (v p r : Int) (w : World) (h : bldOk s v p r = false) : Calls Try.prog 27 #[.string s, .agg #[.int .i64 v, .int .i64 p, .int .i64 r]] w fun e w' => e = .returned (.tuple #[.string ⟨#[]⟩, .int .i64 1100]) ∧ Below w.heap.size w w' := by
  have hB := (Below.refl w.heap.size w).alloc (Nat.le_refl _) (.cells #[.int .i64 v, .int .i64 p, .int .i64 r] 58)
  have hX := boxM w (.int .i64 v) (.int .i64 p) (.int .i64 r) 58
  have hc : imgB s.size = false ∨ (imgB s.size = true ∧ idsB v p r = false) := by
    unfold bldOk at h
    cases h1 : imgB s.size with
    | false => exact .inl rfl
    | true => rw [h1] at h; exact .inr ⟨rfl, h⟩
  clear h
  rcases hc with h1 | ⟨h1, h2⟩
  all_goals
    go_enter Try.func27, Try.ntmps27
    go_wp2_with (first | (go_at_call 44; refine (upImg_any _ _).mono ?_; rintro e w' ⟨rfl, rfl⟩) | (go_at_call 45; refine (idsMay_any _ _ _ _).mono ?_; rintro e w' ⟨rfl, hb⟩; replace hB := hB.trans (hb.mono hB.size); clear hb))
    go_ret2
    exact ⟨rfl, hB⟩
set_option maxRecDepth 100000 in
set_option maxHeartbeats 4000000 in
theorem refBuild_yes (s : ByteArray) (v p r : Int) (w : World) (h : bldOk s v p r = true) : Calls Try.prog 27 #[.string s, .agg #[.int .i64 v, .int .i64 p, .int .i64 r]] w fun e w' => e = .returned (.tuple #[.string (fileS s v p r), .int .i64 0]) ∧ Below w.heap.size w w' := by
  have hB := (Below.refl w.heap.size w).alloc (Nat.le_refl _) (.cells #[.int .i64 v, .int .i64 p, .int .i64 r] 58)
  have hX := boxM w (.int .i64 v) (.int .i64 p) (.int .i64 r) 58
  obtain ⟨⟨_, z2⟩, ⟨p1, _⟩, ⟨p2, _⟩, p3, _⟩ := bldOk_parts.1 h
  obtain ⟨h1, h2⟩ : imgB s.size = true ∧ idsB v p r = true := by unfold bldOk at h; rw [Bool.and_eq_true] at h; exact h
  have p0 : (0 : Int) ≤ 16 := by omega
  have a1 : (lowT r 2).size ≤ 2 := size_lowT r 2
  have b1 : (lowT p 2).size ≤ 2 := size_lowT p 2
  have c1 : (lowT v 2).size ≤ 2 := size_lowT v 2
  have o1 : (lowT 16 1).size ≤ 1 := size_lowT 16 1
  have HP : Hid ((s ++ lowT r 2 ++ lowT p 2 ++ lowT v 2 ++ ⟨#[0, 1, 85, 70, 68]⟩ ++ lowT 16 1) ++ lowT (((Crc.sum (s ++ lowT r 2 ++ lowT p 2 ++ lowT v 2 ++ ⟨#[0, 1, 85, 70, 68]⟩ ++ lowT 16 1).data.toList : Nat) : Int)) 4 = fileS s v p r) := by
    apply ba_ext
    rw [list_fileS h, list_append]
    have e : (s ++ lowT r 2 ++ lowT p 2 ++ lowT v 2 ++ ⟨#[0, 1, 85, 70, 68]⟩ ++ lowT 16 1).data.toList = toldL s.data.toList v.toNat p.toNat r.toNat := by
      rw [list_append, list_append, list_append, list_append, list_append, list_lowT, list_lowT, list_lowT, list_lowT]
      unfold toldL
      simp only [List.append_assoc]
      rfl
    rw [e, list_lowT]
    rfl
  have hz : (s ++ lowT r 2 ++ lowT p 2 ++ lowT v 2 ++ ⟨#[0, 1, 85, 70, 68]⟩ ++ lowT 16 1).size ≤ 300 := by
    rw [ByteArray.size_append, ByteArray.size_append, ByteArray.size_append, ByteArray.size_append, ByteArray.size_append]
    have : (ByteArray.mk #[0, 1, 85, 70, 68]).size = 5 := rfl
    omega
  have n1 : ¬ 9223372036854775807 < s.size + (lowT r 2).size := by omega
  have n2 : ¬ 9223372036854775807 < s.size + (lowT r 2).size + (lowT p 2).size := by omega
  have n3 : ¬ 9223372036854775807 < s.size + (lowT r 2).size + (lowT p 2).size + (lowT v 2).size := by omega
  have n4 : ¬ 9223372036854775807 < s.size + (lowT r 2).size + (lowT p 2).size + (lowT v 2).size + 5 := by omega
  have n6 : ¬ 9223372036854775807 < s.size + (lowT r 2).size + (lowT p 2).size + (lowT v 2).size + 5 + (lowT 16 1).size := by omega
  clear h
  go_enter Try.func27, Try.ntmps27
  go_wp2_with (first | (go_at_call 44; refine (upImg_any _ _).mono ?_; rintro e w' ⟨rfl, rfl⟩) | (go_at_call 45; refine (idsMay_any _ _ _ _).mono ?_; rintro e w' ⟨rfl, hb⟩; replace hB := hB.trans (hb.mono hB.size); replace hX := boxB hX hb; clear hb))
  go_region_held3 (fun W => W.cell? ⟨w.heap.size, 0, none⟩ = some (.int .i64 v) ∧ W.cell? ⟨w.heap.size, 1, none⟩ = some (.int .i64 p) ∧ W.cell? ⟨w.heap.size, 2, none⟩ = some (.int .i64 r)) (go_keep) (first | (go_at_call 33; refine (refLowT_any _ _ _ (by assumption) (by decide) (by decide)).mono ?_; rintro e w' ⟨rfl, hb⟩; replace hB := thenD hb hB rfl rfl rfl rfl; replace hX := boxD hb hX; clear hb))
  generalize hT : s ++ lowT r 2 ++ lowT p 2 ++ lowT v 2 ++ ⟨#[0, 1, 85, 70, 68]⟩ ++ lowT 16 1 = T at *
  clear hT
  have hs1 : 0 ≤ ((Crc.sum T.data.toList : Nat) : Int) := by omega
  have d1 : (lowT ((Crc.sum T.data.toList : Nat) : Int) 4).size ≤ 4 := size_lowT _ 4
  have n5 : ¬ 9223372036854775807 < T.size + (lowT ((Crc.sum T.data.toList : Nat) : Int) 4).size := by omega
  go_wp2_with (first | (go_at_call 46; refine (CrcAwake.ref_any _ _ (by omega)).mono ?_; rintro e w' ⟨rfl, rfl⟩) | (go_at_call 33; refine (refLowT_any _ _ _ (by assumption) (by decide) (by decide)).mono ?_; rintro e w' ⟨rfl, hb⟩; replace hB := hB.trans (hb.mono hB.size); clear hb))
  go_ret2
  exact ⟨ret_text HP.out rfl, hB⟩
theorem refBuild_any (s : ByteArray) (v p r : Int) (w : World) : Calls Try.prog 27 #[.string s, .agg #[.int .i64 v, .int .i64 p, .int .i64 r]] w fun e w' => e = .returned (.tuple #[.string (fileS s v p r), .int .i64 (errF (bldOk s v p r))]) ∧ Below w.heap.size w w' := by
  cases h : bldOk s v p r with
  | false => rw [fileS_no h]; exact refBuild_no s v p r w h
  | true => exact refBuild_yes s v p r w h
theorem list_mark : markS.toList = [0, 1, 85, 70, 68, 16] := by rw [ByteArray.toList_eq]; rfl
theorem ext_len {s : ByteArray} {k : Nat} (h : k ≤ s.size) : (s.extract k s.size).size = s.size - k := by rw [ByteArray.size_extract]; omega
theorem low_sum {T U : ByteArray} (hU : U.size = 4) : lowT ((Crc.sum T.data.toList : Nat) : Int) 4 = U ↔ ofL U.data.toList = Crc.sum T.data.toList := by
  have hl : U.data.toList.length = 4 := by rw [Nor.size_list]; exact hU
  constructor
  · intro e
    rw [← e, list_lowT]
    exact of_low_lt (Crc.sum_lt _)
  · intro e
    apply ba_ext
    rw [list_lowT, ← e]
    exact low_ofK hl
set_option maxRecDepth 100000 in
set_option maxHeartbeats 4000000 in
theorem refParse_any (s : ByteArray) (w : World) (hs : s.size < 9223372036854775808) : Calls Try.prog 47 #[.string s] w fun e w' => e = .returned (.tuple #[.string (parI s), .agg #[.int .i64 (parV s), .int .i64 (parP s), .int .i64 (parR s)], .int .i64 (errQ s)]) ∧ Below w.heap.size w w' := by
  have b2 := build_zero
  have b1 := build_ids
  rcases par_ways s with ⟨h1, h2, h3⟩ | ⟨h1, h2, h3, h4⟩ | ⟨h1, h2, h3, h4, h5⟩ | ⟨h1, h2, h3, h4, h5⟩
  · have HZ := hide (zero_par h2 h3)
    clear h2 h3
    generalize hn : (s.size : Int) - 16 = n at h1
    go_enter Try.func47, Try.ntmps47
    go_wp2_with (go_at_call 44; refine (upImg_any _ _).mono ?_; rintro e w' ⟨rfl, rfl⟩)
    exact bodyPost_ret (v := .tuple #[.string ⟨#[]⟩, .agg #[.int .i64 0, .int .i64 0, .int .i64 0], .int .i64 1100]) (by simp [results, Try.results47, go_sem]) rfl ⟨ret_par HZ.out, (Below.refl _ _).alloc (Nat.le_refl _) _⟩
  all_goals
    obtain ⟨z1, z2⟩ := imgB_parts.1 h1
    obtain ⟨n, hn⟩ : ∃ n, n = s.size - 16 := ⟨_, rfl⟩
    obtain ⟨k2, hk2⟩ : ∃ k, k = s.size - 14 := ⟨_, rfl⟩
    obtain ⟨k4, hk4⟩ : ∃ k, k = s.size - 12 := ⟨_, rfl⟩
    obtain ⟨k6, hk6⟩ : ∃ k, k = s.size - 10 := ⟨_, rfl⟩
    obtain ⟨m, hm⟩ : ∃ m, m = s.size - 4 := ⟨_, rfl⟩
    have hn1 : (s.size : Int) - 16 = (n : Int) := by omega
    have a2 : (n : Int) + 2 = (k2 : Int) := by omega
    have a4 : (n : Int) + 4 = (k4 : Int) := by omega
    have a6 : (n : Int) + 6 = (k6 : Int) := by omega
    have a12 : (n : Int) + 12 = (m : Int) := by omega
    have l0 : n ≤ k2 := by omega
    have l2 : k2 ≤ k4 := by omega
    have l4 : k4 ≤ k6 := by omega
    have l6 : k6 ≤ m := by omega
    have lm : m ≤ s.size := by omega
    have HQ := hide (And.intro hn (And.intro hk2 (And.intro hk4 (And.intro hk6 hm))))
    rw [← hk6, ← hm] at h2
    rw [hn1] at h1
    clear hn hk2 hk4 hk6 hm
  · have HZ := hide (zero_par h3 h4)
    have t1 := text_ne (of_decide_eq_false h2)
    rw [list_mark] at t1
    clear h3 h4 h2
    go_enter Try.func47, Try.ntmps47
    go_wp2_with (go_at_call 44; refine (upImg_any _ _).mono ?_; rintro e w' ⟨rfl, rfl⟩)
    exact bodyPost_ret (v := .tuple #[.string ⟨#[]⟩, .agg #[.int .i64 0, .int .i64 0, .int .i64 0], .int .i64 1100]) (by simp [results, Try.results47, go_sem]) rfl ⟨ret_par HZ.out, (Below.refl _ _).alloc (Nat.le_refl _) _⟩
  all_goals
    have t1 := text_eq (of_decide_eq_true h2)
    rw [list_mark] at t1
    have u1 : (0 : Int) ≤ (n : Int) := by omega
    have u2 : (0 : Int) ≤ (k2 : Int) := by omega
    have u3 : (0 : Int) ≤ (k4 : Int) := by omega
    have u4 : (0 : Int) ≤ (k6 : Int) := by omega
    have u5 : (0 : Int) ≤ (m : Int) := by omega
    have v1 : (n : Int) ≤ (s.size : Int) := by omega
    have v2 : (k2 : Int) ≤ (s.size : Int) := by omega
    have v3 : (k4 : Int) ≤ (s.size : Int) := by omega
    have v4 : (k6 : Int) ≤ (s.size : Int) := by omega
    have v5 : (m : Int) ≤ (s.size : Int) := by omega
    have o1 : (n : Int) ≤ (k2 : Int) := by omega
    have o2 : (k2 : Int) ≤ (k4 : Int) := by omega
    have o3 : (k4 : Int) ≤ (k6 : Int) := by omega
    have x2 : IntKind.i64.wrap (k2 : Int) = (k2 : Int) := by rw [IntKind.wrap_i64]; omega
    have x4 : IntKind.i64.wrap (k4 : Int) = (k4 : Int) := by rw [IntKind.wrap_i64]; omega
    have x6 : IntKind.i64.wrap (k6 : Int) = (k6 : Int) := by rw [IntKind.wrap_i64]; omega
    have x12 : IntKind.i64.wrap (m : Int) = (m : Int) := by rw [IntKind.wrap_i64]; omega
    have hs1 : 0 ≤ ((Crc.sum (s.extract 0 m).data.toList : Nat) : Int) := by omega
    have CS := hide fun w => CrcAwake.ref_any (s.extract 0 m) w (by rw [ByteArray.size_extract]; omega)
    have hlow := low_sum (T := s.extract 0 m) (U := s.extract m s.size) (by rw [ext_len lm]; have := HQ.out.2.2.2.2; omega)
    have h6 : sumB s = decide (ofL (s.extract m s.size).data.toList = Crc.sum (s.extract 0 m).data.toList) := by
      unfold sumB
      rw [← HQ.out.2.2.2.2]
    rw [h6] at h3
    clear h6 h2
  · have HZ := hide (zero_par h4 h5)
    have t2 := text_ne fun e => of_decide_eq_false h3 (hlow.1 e)
    clear h3 h4 h5 hlow
    generalize ((Crc.sum (s.extract 0 m).data.toList : Nat) : Int) = Y at *
    go_enter Try.func47, Try.ntmps47
    go_wp2_with (go_at_call 44; refine (upImg_any _ _).mono ?_; rintro e w' ⟨rfl, rfl⟩)
    have hB := (Below.refl w.heap.size w).alloc (Nat.le_refl _) (.cells #[.int .i64 0, .int .i64 0, .int .i64 0] 58)
    have hR := resM w (.int .i64 0) (.int .i64 0) (.int .i64 0) 58
    generalize w.alloc (.cells #[.int .i64 0, .int .i64 0, .int .i64 0] 58) = W at *
    go_region_held3 (fun _ => True) (trivial) (first | (go_at_call 46; refine (CS.out _).mono ?_; rintro e w' ⟨rfl, rfl⟩) | (go_at_call 33; refine (refLowT_any _ _ _ (by assumption) (by decide) (by decide)).mono ?_; rintro e w' ⟨rfl, hb⟩; replace hB := thenD hb hB rfl rfl rfl rfl; replace hR := resD hb hR; clear hb))
    go_wp2
    exact bodyPost_ret (v := .tuple #[.string ⟨#[]⟩, .agg #[.int .i64 0, .int .i64 0, .int .i64 0], .int .i64 1101]) (by simp [results, Try.results47, go_sem, hR]) rfl ⟨ret_par HZ.out, set3 hB (Nat.le_refl _)⟩
  · have t2 := text_eq (hlow.2 (of_decide_eq_true h3))
    obtain ⟨e1, e2, e3, e4⟩ := par_ok h4
    have HZ : Hid (s.extract 0 n = parI s ∧ numS (s.extract k4 k6) = parV s ∧ numS (s.extract k2 k4) = parP s ∧ numS (s.extract n k2) = parR s ∧ (0 : Int) = errQ s) := by
      obtain ⟨q1, q2, q3, q4, q5⟩ := HQ.out
      rw [e1, e2, e3, e4, h5, q1, q2, q3, q4]
      exact ⟨rfl, rfl, rfl, rfl, rfl⟩
    clear h3 h4 h5 hlow e1 e2 e3 e4
    generalize ((Crc.sum (s.extract 0 m).data.toList : Nat) : Int) = Y at *
    go_enter Try.func47, Try.ntmps47
    go_wp2_with (go_at_call 44; refine (upImg_any _ _).mono ?_; rintro e w' ⟨rfl, rfl⟩)
    have hB := (Below.refl w.heap.size w).alloc (Nat.le_refl _) (.cells #[.int .i64 0, .int .i64 0, .int .i64 0] 58)
    have hR := resM w (.int .i64 0) (.int .i64 0) (.int .i64 0) 58
    generalize w.alloc (.cells #[.int .i64 0, .int .i64 0, .int .i64 0] 58) = W at *
    go_region_held3 (fun _ => True) (trivial) (first | (go_at_call 46; refine (CS.out _).mono ?_; rintro e w' ⟨rfl, rfl⟩) | (go_at_call 33; refine (refLowT_any _ _ _ (by assumption) (by decide) (by decide)).mono ?_; rintro e w' ⟨rfl, hb⟩; replace hB := thenD hb hB rfl rfl rfl rfl; replace hR := resD hb hR; clear hb))
    go_wp2
    go_region_held3 (fun _ => True) (trivial) (first | (go_at_call 61; refine (num_of _ _ (by exact ext_le _ _ _ (by omega))).mono ?_; rintro e w' ⟨rfl, rfl⟩))
    go_wp2
    exact bodyPost_ret (v := .tuple #[.string (s.extract 0 n), .agg #[.int .i64 (numS (s.extract k4 k6)), .int .i64 (numS (s.extract k2 k4)), .int .i64 (numS (s.extract n k2))], .int .i64 0]) (by simp [results, Try.results47, go_sem, hR]) rfl ⟨ret_par HZ.out, (set3 hB (Nat.le_refl _)).drew⟩
end Go.Proofs.Ytgkmallikomnaaa.SufRef
