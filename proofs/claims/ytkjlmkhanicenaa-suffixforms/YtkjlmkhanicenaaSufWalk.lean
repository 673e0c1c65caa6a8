/- The contracts of package suffix: each call returns what the plain functions give, whatever its arguments; of what was there nothing has turned. -/
import Derived.Test.YtkjlmkhanicenaaEntWalk
import Derived.Test.YtkjlmkhanicenaaCrcSum
import Derived.Test.YtkjlmkhanicenaaOpsRow
import Derived.Test.YtkjlmkhanicenaaImgClone
import Derived.Test.YtkjlmkhanicenaaSufMath
namespace Go.Proofs.Ytkjlmkhanicenaa.SufWalk
open Go.Proofs.Ytkjlmkhanicenaa Go.RowKit Go.Proofs.Ytkjlmkhanicenaa.Bytes Go.Proofs.Ytkjlmkhanicenaa.NorWalk Go.Proofs.Ytkjlmkhanicenaa.Ent Go.Proofs.Ytkjlmkhanicenaa.EntLow Go.Proofs.Ytkjlmkhanicenaa.Suf
open Go.Proofs.Ytkjlmkhanicenaa.EntRow (text_ne size_alloc1)
open Go.Proofs.Ytkjlmkhanicenaa.EntWalk (lowT lowT_any size_lowT list_lowT numS num_low ext_le)
open Go.Proofs.Ytkjlmkhanicenaa.OpsRow (boxM boxB boxD thenD)
open Go.Proofs.Ytkjlmkhanicenaa.CrcSum (sum_any)
open Go.Proofs.Ytkjlmkhanicenaa.ImgClone (clone_any)
attribute [local go_sem ↓] Go.wp_at_zero Go.wp_at_succ

theorem text_eq {a b : ByteArray} (h : a = b) : (a.toList == b.toList) = true := by rw [h]; exact beq_self_eq_true _
theorem mayImage_any (n : Int) (w : World) : Calls Try.prog 16 #[.int .i64 n] w fun e w' => e = .returned (.bool (imgB n)) ∧ w' = w := by
  go_enter Try.func16, Try.ntmps16
  go_wp2
  all_goals
    go_ret
    exact ⟨ret_bool (by unfold imgB; rw [Bool.eq_iff_iff]; simp; try omega), rfl⟩
theorem mayId_any (n : Int) (w : World) : Calls Try.prog 27 #[.int .i64 n] w fun e w' => e = .returned (.bool (idB n)) ∧ w' = w := by
  go_enter Try.func27, Try.ntmps27
  go_wp2
  all_goals
    go_ret
    exact ⟨ret_bool (by unfold idB; rw [Bool.eq_iff_iff]; simp; try omega), rfl⟩
set_option maxRecDepth 100000 in
theorem mayIds_any (v p r : Int) (w : World) : Calls Try.prog 17 #[.agg #[.int .i64 v, .int .i64 p, .int .i64 r]] w fun e w' => e = .returned (.bool (idsB v p r)) ∧ Below w.heap.size w w' := by
  have hX := boxM w (.int .i64 v) (.int .i64 p) (.int .i64 r) 23
  unfold idsB
  cases h1 : idB v <;> cases h2 : idB p <;> cases h3 : idB r
  all_goals
    go_enter Try.func17, Try.ntmps17
    go_wp2_with (go_at_call 27; refine (mayId_any _ _).mono ?_; rintro e w' ⟨rfl, rfl⟩)
    go_ret
    exact ⟨rfl, (Below.refl _ _).alloc (Nat.le_refl _) _⟩
set_option maxRecDepth 100000 in
theorem liteSuffix_any (s t : ByteArray) (w : World) (h : t.size ≤ s.size) (hs : s.size < 9223372036854775808) : Calls Try.prog 30 #[.string s, .string t] w fun e w' => e = .returned (.bool (decide (s.extract (s.size - t.size) s.size = t))) ∧ w' = w := by
  obtain ⟨k, hk⟩ : ∃ k, k = s.size - t.size := ⟨_, rfl⟩
  have hk1 : (s.size : Int) - (t.size : Int) = (k : Int) := by omega
  have hk2 : k ≤ s.size := by omega
  rw [← hk]
  clear hk
  by_cases he : s.extract k s.size = t
  · have h1 := text_eq he
    have HD := hide (decide_eq_true he)
    clear he
    go_enter Try.func30, Try.ntmps30
    go_wp2
    go_ret
    exact ⟨ret_bool HD.out.symm, rfl⟩
  · have h1 := text_ne he
    have HD := hide (decide_eq_false he)
    clear he
    go_enter Try.func30, Try.ntmps30
    go_wp2
    go_ret
    exact ⟨ret_bool HD.out.symm, rfl⟩
theorem hasSuffix_any (s t : ByteArray) (w : World) (h : t.size ≤ s.size) (hs : s.size < 9223372036854775808) : Calls Try.prog 23 #[.string s, .string t] w fun e w' => e = .returned (.bool (decide (s.extract (s.size - t.size) s.size = t))) ∧ w' = w := by
  go_enter Try.func23, Try.ntmps23
  go_wp2_with (go_at_call 30; refine (liteSuffix_any _ _ _ h hs).mono ?_; rintro e w' ⟨rfl, rfl⟩)
  go_ret
  exact ⟨rfl, rfl⟩
set_option maxRecDepth 100000 in
set_option maxHeartbeats 1000000 in
theorem build_no (s : ByteArray) (v p r : Int) (w : World) (h : bldOk s v p r = false) : Calls Try.prog 8 #[.string s, .agg #[.int .i64 v, .int .i64 p, .int .i64 r]] w fun e w' => e = .returned (.tuple #[.string ⟨#[]⟩, .int .i64 1100]) ∧ Below w.heap.size w w' := by
  have hB := (Below.refl w.heap.size w).alloc (Nat.le_refl _) (.cells #[.int .i64 v, .int .i64 p, .int .i64 r] 23)
  have hX := boxM w (.int .i64 v) (.int .i64 p) (.int .i64 r) 23
  have hc : imgB s.size = false ∨ (imgB s.size = true ∧ idsB v p r = false) := by
    unfold bldOk at h
    cases h1 : imgB s.size with
    | false => exact .inl rfl
    | true => rw [h1] at h; exact .inr ⟨rfl, h⟩
  clear h
  rcases hc with h1 | ⟨h1, h2⟩
  all_goals
    go_enter Try.func8, Try.ntmps8
    go_wp2_with (first | (go_at_call 16; refine (mayImage_any _ _).mono ?_; rintro e w' ⟨rfl, rfl⟩) | (go_at_call 17; refine (mayIds_any _ _ _ _).mono ?_; rintro e w' ⟨rfl, hb⟩; replace hB := hB.trans (hb.mono hB.size); clear hb))
    go_ret2
    exact ⟨rfl, hB⟩

set_option maxRecDepth 100000 in
set_option maxHeartbeats 4000000 in
theorem build_yes (s : ByteArray) (v p r : Int) (w : World) (h : bldOk s v p r = true) : Calls Try.prog 8 #[.string s, .agg #[.int .i64 v, .int .i64 p, .int .i64 r]] w fun e w' => e = .returned (.tuple #[.string (fileS s v p r), .int .i64 0]) ∧ Below w.heap.size w w' := by
  have hB := (Below.refl w.heap.size w).alloc (Nat.le_refl _) (.cells #[.int .i64 v, .int .i64 p, .int .i64 r] 23)
  have hX := boxM w (.int .i64 v) (.int .i64 p) (.int .i64 r) 23
  obtain ⟨⟨_, z2⟩, ⟨p1, _⟩, ⟨p2, _⟩, p3, _⟩ := bldOk_parts.1 h
  obtain ⟨h1, h2⟩ : imgB s.size = true ∧ idsB v p r = true := by unfold bldOk at h; rw [Bool.and_eq_true] at h; exact h
  have a1 : (lowT r 2).size ≤ 2 := size_lowT r 2
  have b1 : (lowT p 2).size ≤ 2 := size_lowT p 2
  have c1 : (lowT v 2).size ≤ 2 := size_lowT v 2
  have HP : Hid ((s ++ lowT r 2 ++ lowT p 2 ++ lowT v 2 ++ ⟨#[0, 1, 85, 70, 68, 16]⟩) ++ lowT (((Crc.sum (s ++ lowT r 2 ++ lowT p 2 ++ lowT v 2 ++ ⟨#[0, 1, 85, 70, 68, 16]⟩).data.toList : Nat) : Int)) 4 = fileS s v p r) := by
    apply ba_ext
    rw [list_fileS h, list_append]
    have e : (s ++ lowT r 2 ++ lowT p 2 ++ lowT v 2 ++ ⟨#[0, 1, 85, 70, 68, 16]⟩).data.toList = toldL s.data.toList v.toNat p.toNat r.toNat := by
      rw [list_append, list_append, list_append, list_append, list_lowT, list_lowT, list_lowT]
      unfold toldL
      simp only [List.append_assoc]
      rfl
    rw [e, list_lowT]
    rfl
  have hz : (s ++ lowT r 2 ++ lowT p 2 ++ lowT v 2 ++ ⟨#[0, 1, 85, 70, 68, 16]⟩).size ≤ 300 := by
    rw [ByteArray.size_append, ByteArray.size_append, ByteArray.size_append, ByteArray.size_append]
    have : (ByteArray.mk #[0, 1, 85, 70, 68, 16]).size = 6 := rfl
    omega
  have n1 : ¬ 9223372036854775807 < s.size + (lowT r 2).size := by omega
  have n2 : ¬ 9223372036854775807 < s.size + (lowT r 2).size + (lowT p 2).size := by omega
  have n3 : ¬ 9223372036854775807 < s.size + (lowT r 2).size + (lowT p 2).size + (lowT v 2).size := by omega
  have n4 : ¬ 9223372036854775807 < s.size + (lowT r 2).size + (lowT p 2).size + (lowT v 2).size + 6 := by omega
  clear h
  go_enter Try.func8, Try.ntmps8
  go_wp2_with (first | (go_at_call 16; refine (mayImage_any _ _).mono ?_; rintro e w' ⟨rfl, rfl⟩) | (go_at_call 17; refine (mayIds_any _ _ _ _).mono ?_; rintro e w' ⟨rfl, hb⟩; replace hB := hB.trans (hb.mono hB.size); replace hX := boxB hX hb; clear hb))
  go_region_held3 (fun W => W.cell? ⟨w.heap.size, 0, none⟩ = some (.int .i64 v) ∧ W.cell? ⟨w.heap.size, 1, none⟩ = some (.int .i64 p) ∧ W.cell? ⟨w.heap.size, 2, none⟩ = some (.int .i64 r)) (go_keep) (first | (go_at_call 18; refine (lowT_any _ _ _ (by assumption) (by decide) (by decide)).mono ?_; rintro e w' ⟨rfl, hb⟩; replace hB := thenD hb hB rfl rfl rfl rfl; replace hX := boxD hb hX; clear hb))
  generalize hT : s ++ lowT r 2 ++ lowT p 2 ++ lowT v 2 ++ ⟨#[0, 1, 85, 70, 68, 16]⟩ = T at *
  clear hT
  have hs1 : 0 ≤ ((Crc.sum T.data.toList : Nat) : Int) := by omega
  have d1 : (lowT ((Crc.sum T.data.toList : Nat) : Int) 4).size ≤ 4 := size_lowT _ 4
  have n5 : ¬ 9223372036854775807 < T.size + (lowT ((Crc.sum T.data.toList : Nat) : Int) 4).size := by omega
  go_wp2_with (first | (go_at_call 19; refine (sum_any _ _ (by omega)).mono ?_; rintro e w' ⟨rfl, rfl⟩) | (go_at_call 18; refine (lowT_any _ _ _ (by assumption) (by decide) (by decide)).mono ?_; rintro e w' ⟨rfl, hb⟩; replace hB := hB.trans (hb.mono hB.size); clear hb))
  go_ret2
  exact ⟨ret_text HP.out rfl, hB⟩
theorem build_any (s : ByteArray) (v p r : Int) (w : World) : Calls Try.prog 8 #[.string s, .agg #[.int .i64 v, .int .i64 p, .int .i64 r]] w fun e w' => e = .returned (.tuple #[.string (fileS s v p r), .int .i64 (errF (bldOk s v p r))]) ∧ Below w.heap.size w w' := by
  cases h : bldOk s v p r with
  | false => rw [fileS_no h]; exact build_no s v p r w h
  | true => exact build_yes s v p r w h

theorem build_ids (v p r : Int) (w : World) : (Instr.build 23 #[(2, .int .i64 r), (1, .int .i64 p), (0, .int .i64 v)]).run Try.prog w = .ok (.agg #[.int .i64 v, .int .i64 p, .int .i64 r]) w := run_build w 23 _ _ (by kernel_rfl)
theorem build_zero (w : World) : (Instr.build 23 #[]).run Try.prog w = .ok (.agg #[.int .i64 0, .int .i64 0, .int .i64 0]) w := run_build w 23 _ _ (by kernel_rfl)
/-- A struct of three cells in a block of its own that may be written. -/
theorem resM (w : World) (x y z : Value) (e : TypeId) : w.heap.size < (w.alloc (.cells #[x, y, z] e)).heap.size ∧ (w.alloc (.cells #[x, y, z] e)).cell? ⟨w.heap.size, 0, none⟩ = some x ∧ (w.alloc (.cells #[x, y, z] e)).cell? ⟨w.heap.size, 1, none⟩ = some y ∧ (w.alloc (.cells #[x, y, z] e)).cell? ⟨w.heap.size, 2, none⟩ = some z ∧ ∀ i, (w.alloc (.cells #[x, y, z] e)).frozen? ⟨w.heap.size, i, none⟩ = false := by
  obtain ⟨h1, h2, h3, h4⟩ := boxM w x y z e
  exact ⟨h1, h2, h3, h4, fun i => World.frozen?_alloc_at _ e _ i rfl⟩
theorem resB {w w' : World} {B : Nat} {x y z : Value} (h : B < w.heap.size ∧ w.cell? ⟨B, 0, none⟩ = some x ∧ w.cell? ⟨B, 1, none⟩ = some y ∧ w.cell? ⟨B, 2, none⟩ = some z ∧ ∀ i, w.frozen? ⟨B, i, none⟩ = false) (hb : Below w.heap.size w w') :
    B < w'.heap.size ∧ w'.cell? ⟨B, 0, none⟩ = some x ∧ w'.cell? ⟨B, 1, none⟩ = some y ∧ w'.cell? ⟨B, 2, none⟩ = some z ∧ ∀ i, w'.frozen? ⟨B, i, none⟩ = false := by
  obtain ⟨h0, h1, h2, h3, h4⟩ := h
  obtain ⟨g0, g1, g2, g3⟩ := boxB ⟨h0, h1, h2, h3⟩ hb
  exact ⟨g0, g1, g2, g3, fun i => by rw [hb.frozen (p := ⟨B, i, none⟩) h0]; exact h4 i⟩
/-- A struct's three cells, stored. -/
theorem set3 {B0 : Nat} {w w' : World} {B : Nat} {x y z : Value} (h : Below B0 w w') (hB : B0 ≤ B) : Below B0 w (((w'.setCell ⟨B, 0, none⟩ x).setCell ⟨B, 1, none⟩ y).setCell ⟨B, 2, none⟩ z) := ((h.setCell (p := ⟨B, 0, none⟩) hB _).setCell (p := ⟨B, 1, none⟩) hB _).setCell (p := ⟨B, 2, none⟩) hB _
set_option maxRecDepth 100000 in
set_option maxHeartbeats 4000000 in
theorem idsOf_any (s : ByteArray) (w : World) (h : 6 ≤ s.size) : Calls Try.prog 26 #[.string s] w fun e w' => e = .returned (.agg #[.int .i64 (numS (s.extract 4 6)), .int .i64 (numS (s.extract 2 4)), .int .i64 (numS (s.extract 0 2))]) ∧ Below w.heap.size w w' := by
  have b1 := build_ids
  have y1 : (2 : Int) ≤ (s.size : Int) := by omega
  have y2 : (4 : Int) ≤ (s.size : Int) := by omega
  have y3 : (6 : Int) ≤ (s.size : Int) := by omega
  go_enter Try.func26, Try.ntmps26
  go_wp2
  go_region_held3 (fun _ => True) (trivial) (first | (go_at_call 24; refine (num_low _ _ (by exact ext_le _ _ _ (by omega))).mono ?_; rintro e w' ⟨rfl, rfl⟩))
  go_wp2
  exact bodyPost_ret (v := .agg #[.int .i64 (numS (s.extract 4 6)), .int .i64 (numS (s.extract 2 4)), .int .i64 (numS (s.extract 0 2))]) (by simp [results, Try.results26, go_sem]) rfl ⟨rfl, ((Below.refl w.heap.size w).alloc (Nat.le_refl _) _).drew⟩
theorem resD {w w' : World} {B : Nat} {x y z : Value} (hb : Below w.heap.size w w') (h : B < w.heap.size ∧ w.cell? ⟨B, 0, none⟩ = some x ∧ w.cell? ⟨B, 1, none⟩ = some y ∧ w.cell? ⟨B, 2, none⟩ = some z ∧ ∀ i, w.frozen? ⟨B, i, none⟩ = false) :
    B < w'.heap.size ∧ w'.cell? ⟨B, 0, none⟩ = some x ∧ w'.cell? ⟨B, 1, none⟩ = some y ∧ w'.cell? ⟨B, 2, none⟩ = some z ∧ ∀ i, w'.frozen? ⟨B, i, none⟩ = false := resB h hb
theorem ret_par {a a' : ByteArray} {b c d e b' c' d' e' : Int} (h : a = a' ∧ b = b' ∧ c = c' ∧ d = d' ∧ e = e') : Ending.returned (.tuple #[.string a, .agg #[.int .i64 b, .int .i64 c, .int .i64 d], .int .i64 e]) = .returned (.tuple #[.string a', .agg #[.int .i64 b', .int .i64 c', .int .i64 d'], .int .i64 e']) := by
  obtain ⟨rfl, rfl, rfl, rfl, rfl⟩ := h
  rfl
/-- A text that has not a file's size, or not its mark, or not its sum; or a file. -/
theorem par_ways (s : ByteArray) : (imgB ((s.size : Int) - 16) = false ∧ parB s = false ∧ errQ s = 1100) ∨ (imgB ((s.size : Int) - 16) = true ∧ decide (s.extract (s.size - 10) (s.size - 4) = markS) = false ∧ parB s = false ∧ errQ s = 1100) ∨ (imgB ((s.size : Int) - 16) = true ∧ decide (s.extract (s.size - 10) (s.size - 4) = markS) = true ∧ sumB s = false ∧ parB s = false ∧ errQ s = 1101) ∨ (imgB ((s.size : Int) - 16) = true ∧ decide (s.extract (s.size - 10) (s.size - 4) = markS) = true ∧ sumB s = true ∧ parB s = true ∧ errQ s = 0) := by
  have e : parB s = (imgB ((s.size : Int) - 16) && decide (s.extract (s.size - 10) (s.size - 4) = markS) && sumB s) := rfl
  have f : frmB s = (imgB ((s.size : Int) - 16) && decide (s.extract (s.size - 10) (s.size - 4) = markS)) := rfl
  unfold errQ
  rw [e, f]
  cases imgB ((s.size : Int) - 16) <;> cases decide (s.extract (s.size - 10) (s.size - 4) = markS) <;> cases sumB s
  all_goals first | exact .inl ⟨rfl, rfl, rfl⟩ | exact .inr (.inl ⟨rfl, rfl, rfl, rfl⟩) | exact .inr (.inr (.inl ⟨rfl, rfl, rfl, rfl, rfl⟩)) | exact .inr (.inr (.inr ⟨rfl, rfl, rfl, rfl, rfl⟩))
theorem zero_par {s : ByteArray} {x : Int} (h : parB s = false) (he : errQ s = x) : (⟨#[]⟩ : ByteArray) = parI s ∧ (0 : Int) = parV s ∧ (0 : Int) = parP s ∧ (0 : Int) = parR s ∧ x = errQ s := by
  obtain ⟨e1, e2, e3, e4⟩ := par_no h
  exact ⟨e1.symm, e2.symm, e3.symm, e4.symm, he.symm⟩
/-- The mark, as the code asks for it. -/
theorem mark_told (s : ByteArray) (h : 17 ≤ s.size) : (s.extract 0 (s.size - 4)).extract ((s.extract 0 (s.size - 4)).size - markS.size) (s.extract 0 (s.size - 4)).size = s.extract (s.size - 10) (s.size - 4) := by
  have e1 : (s.extract 0 (s.size - 4)).size = s.size - 4 := by rw [ByteArray.size_extract]; omega
  have e2 : markS.size = 6 := rfl
  rw [e1, e2, show s.size - 4 - 6 = s.size - 10 from by omega]
  apply ba_ext
  rw [list_extract, list_extract, list_extract, List.drop_zero, List.drop_take, List.take_take, Nat.min_eq_left (by omega)]
theorem ext_tail (s : ByteArray) (n a b : Nat) : (s.extract n s.size).extract a b = s.extract (n + a) (n + b) := by
  apply ba_ext
  rw [list_extract, list_tail, list_extract, List.drop_drop, show n + b - (n + a) = b - a from by omega]
set_option maxRecDepth 100000 in
set_option maxHeartbeats 4000000 in
theorem parse_any (s : ByteArray) (w : World) (hs : s.size < 9223372036854775808) : Calls Try.prog 10 #[.string s] w fun e w' => e = .returned (.tuple #[.string (parI s), .agg #[.int .i64 (parV s), .int .i64 (parP s), .int .i64 (parR s)], .int .i64 (errQ s)]) ∧ Below w.heap.size w w' := by
  have b2 := build_zero
  rcases par_ways s with ⟨h1, h2, h3⟩ | ⟨h1, h2, h3, h4⟩ | ⟨h1, h2, h3, h4, h5⟩ | ⟨h1, h2, h3, h4, h5⟩
  · have HZ := hide (zero_par h2 h3)
    clear h2 h3
    generalize hn : (s.size : Int) - 16 = n at h1
    go_enter Try.func10, Try.ntmps10
    go_wp2_with (go_at_call 16; refine (mayImage_any _ _).mono ?_; rintro e w' ⟨rfl, rfl⟩)
    exact bodyPost_ret (v := .tuple #[.string ⟨#[]⟩, .agg #[.int .i64 0, .int .i64 0, .int .i64 0], .int .i64 1100]) (by simp [results, Try.results10, go_sem]) rfl ⟨ret_par HZ.out, (Below.refl _ _).alloc (Nat.le_refl _) _⟩
  all_goals
    obtain ⟨z1, z2⟩ := imgB_parts.1 h1
    obtain ⟨n, hn⟩ : ∃ n, n = s.size - 16 := ⟨_, rfl⟩
    obtain ⟨m, hm⟩ : ∃ m, m = s.size - 4 := ⟨_, rfl⟩
    have hn1 : (s.size : Int) - 16 = (n : Int) := by omega
    have hm1 : (s.size : Int) - 4 = (m : Int) := by omega
    have hn2 : n ≤ s.size := by omega
    have hm2 : m ≤ s.size := by omega
    have cT : (s.extract 0 m).size = m := by rw [ByteArray.size_extract]; omega
    have cU : (s.extract m s.size).size ≤ 7 := by rw [ByteArray.size_extract]; omega
    have CH := hide fun w => hasSuffix_any (s.extract 0 m) ⟨#[0, 1, 85, 70, 68, 16]⟩ w (show 6 ≤ _ by rw [cT]; omega) (by rw [cT]; omega)
    have hmk := mark_told s (by omega)
    rw [← hm] at hmk
    have CH2 : Hid (∀ w, Calls Try.prog 23 #[.string (s.extract 0 m), .string ⟨#[0, 1, 85, 70, 68, 16]⟩] w fun e w' => e = .returned (.bool (decide (s.extract (s.size - 10) (s.size - 4) = markS))) ∧ w' = w) := by
      intro w
      rw [hm] at hmk
      have := CH.out w
      rw [hm] at this
      unfold markS at hmk
      rw [hmk] at this
      rw [hm]
      exact this
    rw [h2] at CH2
    have CS := hide fun w => sum_any (s.extract 0 m) w (by rw [cT]; omega)
    have CG := hide fun w => num_low (s.extract m s.size) w cU
    rw [hn1] at h1
    have hm0 := hide hm
    have hn0 := hide hn
    clear CH hmk cU cT h2 hm hn
  · have HZ := hide (zero_par h3 h4)
    clear h3 h4
    go_enter Try.func10, Try.ntmps10
    go_wp2_with (go_at_call 16; refine (mayImage_any _ _).mono ?_; rintro e w' ⟨rfl, rfl⟩)
    go_quiet (fail)
    generalize s.extract 0 m = T at *
    generalize s.extract m s.size = U at *
    go_wp2_with (go_at_call 23; refine (CH2.out _).mono ?_; rintro e w' ⟨rfl, rfl⟩)
    exact bodyPost_ret (v := .tuple #[.string ⟨#[]⟩, .agg #[.int .i64 0, .int .i64 0, .int .i64 0], .int .i64 1100]) (by simp [results, Try.results10, go_sem]) rfl ⟨ret_par HZ.out, set3 (bel_drewN ((Below.refl _ _).alloc (Nat.le_refl _) _) _) (Nat.le_refl _)⟩
  · have HZ := hide (zero_par h4 h5)
    have hne : ¬ numS (s.extract m s.size) = ((Crc.sum (s.extract 0 m).data.toList : Nat) : Int) := by
      intro e
      unfold sumB at h3
      have := of_decide_eq_false h3
      rw [← hm0.out] at this
      exact this (Int.ofNat_inj.1 e)
    clear h3 h4 h5
    go_enter Try.func10, Try.ntmps10
    go_wp2_with (go_at_call 16; refine (mayImage_any _ _).mono ?_; rintro e w' ⟨rfl, rfl⟩)
    go_quiet (fail)
    generalize s.extract 0 m = T at *
    generalize s.extract m s.size = U at *
    generalize numS U = X at *
    generalize ((Crc.sum T.data.toList : Nat) : Int) = Y at *
    go_wp2_with (first | (go_at_call 23; refine (CH2.out _).mono ?_; rintro e w' ⟨rfl, rfl⟩) | (go_at_call 19; refine (CS.out _).mono ?_; rintro e w' ⟨rfl, rfl⟩) | (go_at_call 24; refine (CG.out _).mono ?_; rintro e w' ⟨rfl, rfl⟩))
    exact bodyPost_ret (v := .tuple #[.string ⟨#[]⟩, .agg #[.int .i64 0, .int .i64 0, .int .i64 0], .int .i64 1101]) (by simp [results, Try.results10, go_sem]) rfl ⟨ret_par HZ.out, set3 (bel_drewN ((Below.refl _ _).alloc (Nat.le_refl _) _) _) (Nat.le_refl _)⟩
  · have heq : numS (s.extract m s.size) = ((Crc.sum (s.extract 0 m).data.toList : Nat) : Int) := by
      have := of_decide_eq_true h3
      rw [← hm0.out] at this
      exact congrArg Int.ofNat this
    obtain ⟨e1, e2, e3, e4⟩ := par_ok h4
    have hn := hn0.out
    have cN : (s.extract 0 n).size ≤ 281474976710656 := by rw [ByteArray.size_extract]; omega
    have cI : 6 ≤ (s.extract n s.size).size := by rw [ByteArray.size_extract]; omega
    have CC := hide fun w => clone_any (s.extract 0 n) w cN
    have CI := hide fun w => idsOf_any (s.extract n s.size) w cI
    have HZ : Hid (s.extract 0 n = parI s ∧ numS ((s.extract n s.size).extract 4 6) = parV s ∧ numS ((s.extract n s.size).extract 2 4) = parP s ∧ numS ((s.extract n s.size).extract 0 2) = parR s ∧ (0 : Int) = errQ s) := by
      rw [ext_tail, ext_tail, ext_tail, e1, e2, e3, e4, h5, hn, show s.size - 16 + 4 = s.size - 12 from by omega, show s.size - 16 + 6 = s.size - 10 from by omega, show s.size - 16 + 2 = s.size - 14 from by omega, Nat.add_zero]
      exact ⟨rfl, rfl, rfl, rfl, rfl⟩
    clear h3 h4 h5 cN cI e1 e2 e3 e4 hn
    go_enter Try.func10, Try.ntmps10
    go_wp2_with (go_at_call 16; refine (mayImage_any _ _).mono ?_; rintro e w' ⟨rfl, rfl⟩)
    go_quiet (fail)
    generalize s.extract 0 m = T at *
    generalize s.extract m s.size = U at *
    generalize numS U = X at *
    generalize ((Crc.sum T.data.toList : Nat) : Int) = Y at *
    subst heq
    go_wp2_with (first | (go_at_call 23; refine (CH2.out _).mono ?_; rintro e w' ⟨rfl, rfl⟩) | (go_at_call 19; refine (CS.out _).mono ?_; rintro e w' ⟨rfl, rfl⟩) | (go_at_call 24; refine (CG.out _).mono ?_; rintro e w' ⟨rfl, rfl⟩))
    have hB := bel_drewN ((Below.refl w.heap.size w).alloc (Nat.le_refl _) (.cells #[.int .i64 0, .int .i64 0, .int .i64 0] 23)) nq
    have hR := resB (resM w (.int .i64 0) (.int .i64 0) (.int .i64 0) 23) (bel_drewN (Below.refl _ _) nq)
    generalize (w.alloc (.cells #[.int .i64 0, .int .i64 0, .int .i64 0] 23)).drewN nq = W at *
    generalize numS ((s.extract n s.size).extract 4 6) = V at *
    generalize numS ((s.extract n s.size).extract 2 4) = P at *
    generalize numS ((s.extract n s.size).extract 0 2) = R at *
    go_region_held3 (fun _ => True) (trivial) (first | (go_at_call 25; refine (CC.out _).mono ?_; rintro e w' ⟨rfl, hb⟩; replace hB := thenD hb hB rfl rfl rfl rfl; replace hR := resD hb hR; clear hb) | (go_at_call 26; refine (CI.out _).mono ?_; rintro e w' ⟨rfl, hb⟩; replace hB := thenD hb hB rfl rfl rfl rfl; replace hR := resD hb hR; clear hb))
    go_wp2
    exact bodyPost_ret (v := .tuple #[.string (s.extract 0 n), .agg #[.int .i64 V, .int .i64 P, .int .i64 R], .int .i64 0]) (by simp [results, Try.results10, go_sem, hR]) rfl ⟨ret_par HZ.out, set3 hB (Nat.le_refl _)⟩
end Go.Proofs.Ytkjlmkhanicenaa.SufWalk
