/- The document's own answers to package host: may a host be, what it begins with, what it asks; of what was there nothing has turned. -/
import Derived.Test.YtgkmallikomnaabBagHst
import Derived.Test.YtgkmallikomnaabSufRef
import Derived.Test.YtgkmallikomnaabSetRef
import Derived.Lib.BufferWrite
namespace Go.Proofs.Ytgkmallikomnaab.HstRef
open Go.Proofs.Ytgkmallikomnaab Go.RowKit Go.Proofs.Ytgkmallikomnaab.Bytes Go.Proofs.Ytgkmallikomnaab.NorWalk Go.Proofs.Ytgkmallikomnaab.Suf Go.Proofs.Ytgkmallikomnaab.Idt Go.Proofs.Ytgkmallikomnaab.Sup Go.Proofs.Ytgkmallikomnaab.Hst Go.Proofs.Ytgkmallikomnaab.HstWalk Go.Proofs.Ytgkmallikomnaab.HstAsk Go.Proofs.Ytgkmallikomnaab.HstHost
open Go.Proofs.Ytgkmallikomnaab.EntRow (text_ne)
open Go.Proofs.Ytgkmallikomnaab.SetWalk (resM resB set3)
open Go.Proofs.Ytgkmallikomnaab.OpsRow (boxM boxB boxD thenD)
open Go.Proofs.Ytgkmallikomnaab.SufRef (refParse_any)
open Go.Proofs.Ytgkmallikomnaab.IdtWalk (refMatch_any ridsMay_any)

open Go.Proofs.Ytgkmallikomnaab.Blo (nP pieceS)
open Go.Proofs.Ytgkmallikomnaab.Take
open List (setIfInBounds_toArray set_cons_zero set_cons_succ)
attribute [local go_sem ↓] Go.wp_at_zero Go.wp_at_succ

theorem not_empty {s : ByteArray} (h : ¬ s = ⟨#[]⟩) : s.toList.isEmpty = false := by
  rw [List.isEmpty_eq_false_iff, ByteArray.toList_eq]
  exact fun e => h (ba_ext e)
theorem size_pos {s : ByteArray} (h : ¬ s = ⟨#[]⟩) : 1 ≤ s.size := by
  rcases Nat.eq_zero_or_pos s.size with h0 | h0
  · exact absurd (ba_ext (List.eq_nil_of_length_eq_zero h0)) h
  · exact h0
theorem refHMay_ways (ph : Int) (im : ByteArray) (bl tr : Int) (rd : ByteArray) (rp : Int) :
    (decide (0 ≤ ph ∧ ph ≤ 7) = false ∧ hostB ph im bl tr rd rp = false) ∨
    (decide (0 ≤ ph ∧ ph ≤ 7) = true ∧ decide (0 ≤ rp ∧ rp ≤ 3) = false ∧ hostB ph im bl tr rd rp = false) ∨
    (decide (0 ≤ ph ∧ ph ≤ 7) = true ∧ decide (0 ≤ rp ∧ rp ≤ 3) = true ∧ decide ((im.size : Int) ≤ 288) = false ∧ hostB ph im bl tr rd rp = false) ∨
    (decide (0 ≤ ph ∧ ph ≤ 7) = true ∧ decide (0 ≤ rp ∧ rp ≤ 3) = true ∧ decide ((im.size : Int) ≤ 288) = true ∧ restB ph = false ∧ im = ⟨#[]⟩ ∧ hostB ph im bl tr rd rp = false) ∨
    (decide (0 ≤ ph ∧ ph ≤ 7) = true ∧ decide (0 ≤ rp ∧ rp ≤ 3) = true ∧ decide ((im.size : Int) ≤ 288) = true ∧ im.size ≤ 288 ∧ (restB ph = true ∨ restB ph = false ∧ ¬ im = ⟨#[]⟩) ∧
      hostB ph im bl tr rd rp = (decide (0 ≤ bl ∧ bl ≤ (nP im : Int)) && (decide (0 ≤ tr ∧ tr ≤ 8) && decide ((rd.size : Int) ≤ 320)))) := by
  cases h1 : decide (0 ≤ ph ∧ ph ≤ 7) with
  | false =>
    have := of_decide_eq_false h1
    exact .inl ⟨rfl, host_no (by omega)⟩
  | true => cases h2 : decide (0 ≤ rp ∧ rp ≤ 3) with
    | false =>
      have := of_decide_eq_false h2
      exact .inr (.inl ⟨rfl, rfl, host_no (by omega)⟩)
    | true => cases h3 : decide ((im.size : Int) ≤ 288) with
      | false =>
        have := of_decide_eq_false h3
        exact .inr (.inr (.inl ⟨rfl, rfl, rfl, host_no (by omega)⟩))
      | true =>
        have p1 := of_decide_eq_true h1
        have p2 := of_decide_eq_true h2
        have p3 := of_decide_eq_true h3
        have fin : (1 ≤ im.size ∨ ph = 0 ∨ ph = 7) → hostB ph im bl tr rd rp = (decide (0 ≤ bl ∧ bl ≤ (nP im : Int)) && (decide (0 ≤ tr ∧ tr ≤ 8) && decide ((rd.size : Int) ≤ 320))) := fun h => by
          rw [Bool.eq_iff_iff, host_parts]
          simp only [Bool.and_eq_true, decide_eq_true_iff]
          omega
        cases h4 : restB ph with
        | true =>
          have h5 := of_decide_eq_true h4
          exact .inr (.inr (.inr (.inr ⟨rfl, rfl, rfl, by omega, .inl rfl, fin (by omega)⟩)))
        | false =>
          have h5 := of_decide_eq_false h4
          by_cases h6 : im = ⟨#[]⟩
          · refine .inr (.inr (.inr (.inl ⟨rfl, rfl, rfl, rfl, h6, host_no (fun h => ?_)⟩)))
            have h7 := h.2.2.2.2.2.1
            rw [h6] at h7
            rcases h7 with h7 | h7
            · exact absurd h7 (by decide)
            · exact h5 h7
          · exact .inr (.inr (.inr (.inr ⟨rfl, rfl, rfl, by omega, .inr ⟨rfl, h6⟩, fin (.inl (size_pos h6))⟩)))
end Go.Proofs.Ytgkmallikomnaab.HstRef

/- The document's own answers to package host: what a host begins with, what it asks; of what was there nothing has turned. -/
namespace Go.Proofs.Ytgkmallikomnaab.HstRefs
open Go.Proofs.Ytgkmallikomnaab Go.RowKit Go.Proofs.Ytgkmallikomnaab.Bytes Go.Proofs.Ytgkmallikomnaab.NorWalk Go.Proofs.Ytgkmallikomnaab.Suf Go.Proofs.Ytgkmallikomnaab.Idt Go.Proofs.Ytgkmallikomnaab.Sup Go.Proofs.Ytgkmallikomnaab.Hst Go.Proofs.Ytgkmallikomnaab.HstWalk Go.Proofs.Ytgkmallikomnaab.HstAsk Go.Proofs.Ytgkmallikomnaab.HstHost Go.Proofs.Ytgkmallikomnaab.HstRef
open Go.Proofs.Ytgkmallikomnaab.SetWalk (resM resB set3)
open Go.Proofs.Ytgkmallikomnaab.OpsRow (boxM boxB boxD thenD)
open Go.Proofs.Ytgkmallikomnaab.SufRef (refParse_any)
open Go.Proofs.Ytgkmallikomnaab.IdtWalk (refMatch_any ridsMay_any)

open Go.Proofs.Ytgkmallikomnaab.BloWalk (run_min2)
open Go.Proofs.Ytgkmallikomnaab.Blo (nP pieceS)
attribute [local go_sem ↓] Go.wp_at_zero Go.wp_at_succ

set_option maxRecDepth 100000 in
set_option maxHeartbeats 4000000 in
theorem refStart_any (f : ByteArray) (v p r : Int) (w : World) (hs : f.size < 9223372036854775808) : Calls Try.prog 11 #[.string f, .agg #[.int .i64 v, .int .i64 p, .int .i64 r]] w (Begun w (stP f v p r) (stI f v p r) (stR f v p r) (errH (idsB v p r))) := by
  obtain ⟨W, hW, hX, hR, hB⟩ := start_boxes w (.int .i64 v) (.int .i64 p) (.int .i64 r)
  have b1 := build_h0
  have b2 := build_h7
  have b3 := build_h1
  have HI := hide (fun w => ridsMay_any v p r w)
  have HP := hide (fun w => refParse_any f w hs)
  have HM := hide (fun w => refMatch_any (parV f) (parP f) (parR f) v p r w)
  have hT : toB f v p r = true → toS f v p r = parI f := toS_t
  have hw := st_ways f v p r
  have hv := to_ways f v p r
  clear hs
  unfold Begun
  generalize errM (mtOk (parV f) (parP f) (parR f) v p r) = E2 at *
  generalize mtB (parV f) (parP f) (parR f) v p r = M at *
  generalize parV f = V at *
  generalize parP f = Q at *
  generalize parR f = R at *
  generalize errQ f = E at *
  generalize idsB v p r = D at *
  rcases hw with ⟨rfl, h1, h2, h3, h4⟩ | ⟨rfl, g2, h1, h2, h3, h4⟩ | ⟨rfl, g2, h1, h2, h3, h4⟩
  · rw [h1, h2, h3, h4]
    clear h1 h2 h3 h4 hT HP HM hv
    subst hW
    go_enter Try.func11, Try.ntmps11
    go_upto_region 1 with fail
    generalize (w.alloc _).alloc _ = W at *
    go_wp2_with (go_at_call 18; refine (HI.out _).mono ?_; rintro e w1 ⟨rfl, hb⟩; replace hB := thenB hB hb; replace hX := boxB hX hb; replace hR := sevRB hR hb; clear hb)
    exact bodyPost_ret (v := .tuple #[.agg #[.int .i64 0, .string ⟨#[]⟩, .int .i64 0, .bool false, .int .i64 0, .string ⟨#[]⟩, .int .i64 0], .int .i64 2200]) (by simp [results, Try.results11, go_sem, hR]) rfl ⟨rfl, set7 hB (Nat.le_succ _)⟩
  · rw [h1, h2, h3, h4]
    clear h1 h2 h3 h4 hT
    rw [g2] at hv
    generalize toS f v p r = T at *
    generalize parI f = J at *
    rcases hv with ⟨k1, -, -⟩ | ⟨rfl, rfl, -, -⟩ | ⟨-, -, -, -, k⟩
    · subst hW
      go_enter Try.func11, Try.ntmps11
      go_upto_region 1 with fail
      generalize (w.alloc _).alloc _ = W at *
      go_upto_region 4 with (first | (go_at_call 18; refine (HI.out _).mono ?_; rintro e w1 ⟨rfl, hb⟩; replace hB := thenB hB hb; replace hX := boxB hX hb; replace hR := sevRB hR hb; clear hb) | (go_at_call 20; refine (HP.out _).mono ?_; rintro e w2 ⟨rfl, hb⟩; replace hB := thenB (thenB hB hb) (hal w2 (.cells #[.int .i64 V, .int .i64 Q, .int .i64 R] 41)); replace hX := boxB (boxB hX hb) (hal w2 (.cells #[.int .i64 V, .int .i64 Q, .int .i64 R] 41)); replace hR := sevRB (sevRB hR hb) (hal w2 (.cells #[.int .i64 V, .int .i64 Q, .int .i64 R] 41)); have hY := boxM w2 (.int .i64 V) (.int .i64 Q) (.int .i64 R) 41; clear hb))
      generalize w2.alloc _ = W2 at *
      go_wp2_with (go_at_call 21; refine (HM.out _).mono ?_; rintro e w3 ⟨rfl, hb⟩; replace hB := thenB hB hb; replace hR := sevRB hR hb; clear hb)
      exact bodyPost_ret (v := .tuple #[.agg #[.int .i64 7, .string ⟨#[]⟩, .int .i64 0, .bool false, .int .i64 0, .string ⟨#[]⟩, .int .i64 3], .int .i64 0]) (by simp [results, Try.results11, go_sem, hR]) rfl ⟨rfl, set7 hB (Nat.le_succ _)⟩
    · subst hW
      go_enter Try.func11, Try.ntmps11
      go_upto_region 1 with fail
      generalize (w.alloc _).alloc _ = W at *
      go_upto_region 4 with (first | (go_at_call 18; refine (HI.out _).mono ?_; rintro e w1 ⟨rfl, hb⟩; replace hB := thenB hB hb; replace hX := boxB hX hb; replace hR := sevRB hR hb; clear hb) | (go_at_call 20; refine (HP.out _).mono ?_; rintro e w2 ⟨rfl, hb⟩; replace hB := thenB (thenB hB hb) (hal w2 (.cells #[.int .i64 V, .int .i64 Q, .int .i64 R] 41)); replace hX := boxB (boxB hX hb) (hal w2 (.cells #[.int .i64 V, .int .i64 Q, .int .i64 R] 41)); replace hR := sevRB (sevRB hR hb) (hal w2 (.cells #[.int .i64 V, .int .i64 Q, .int .i64 R] 41)); have hY := boxM w2 (.int .i64 V) (.int .i64 Q) (.int .i64 R) 41; clear hb))
      generalize w2.alloc _ = W2 at *
      go_wp2_with (go_at_call 21; refine (HM.out _).mono ?_; rintro e w3 ⟨rfl, hb⟩; replace hB := thenB hB hb; replace hR := sevRB hR hb; clear hb)
      exact bodyPost_ret (v := .tuple #[.agg #[.int .i64 7, .string ⟨#[]⟩, .int .i64 0, .bool false, .int .i64 0, .string ⟨#[]⟩, .int .i64 3], .int .i64 0]) (by simp [results, Try.results11, go_sem, hR]) rfl ⟨rfl, set7 hB (Nat.le_succ _)⟩
    · cases k
  · rw [h1, h2, h3, h4]
    clear h1 h2 h3 h4 hT
    rw [g2] at hv
    generalize toS f v p r = T at *
    generalize parI f = J at *
    rcases hv with ⟨-, -, k⟩ | ⟨-, -, -, k⟩ | ⟨rfl, rfl, -, -, -⟩
    · cases k
    · cases k
    · subst hW
      go_enter Try.func11, Try.ntmps11
      go_upto_region 1 with fail
      generalize (w.alloc _).alloc _ = W at *
      go_upto_region 4 with (first | (go_at_call 18; refine (HI.out _).mono ?_; rintro e w1 ⟨rfl, hb⟩; replace hB := thenB hB hb; replace hX := boxB hX hb; replace hR := sevRB hR hb; clear hb) | (go_at_call 20; refine (HP.out _).mono ?_; rintro e w2 ⟨rfl, hb⟩; replace hB := thenB (thenB hB hb) (hal w2 (.cells #[.int .i64 V, .int .i64 Q, .int .i64 R] 41)); replace hX := boxB (boxB hX hb) (hal w2 (.cells #[.int .i64 V, .int .i64 Q, .int .i64 R] 41)); replace hR := sevRB (sevRB hR hb) (hal w2 (.cells #[.int .i64 V, .int .i64 Q, .int .i64 R] 41)); have hY := boxM w2 (.int .i64 V) (.int .i64 Q) (.int .i64 R) 41; clear hb))
      generalize w2.alloc _ = W2 at *
      go_wp2_with (go_at_call 21; refine (HM.out _).mono ?_; rintro e w3 ⟨rfl, hb⟩; replace hB := thenB hB hb; replace hR := sevRB hR hb; clear hb)
      exact bodyPost_ret (v := .tuple #[.agg #[.int .i64 1, .string J, .int .i64 0, .bool false, .int .i64 0, .string ⟨#[]⟩, .int .i64 0], .int .i64 0]) (by simp [results, Try.results11, go_sem, hR]) rfl ⟨rfl, set7 hB (Nat.le_succ _)⟩
end Go.Proofs.Ytgkmallikomnaab.HstRefs

/- A host that begins to carry so many bytes: the laws' own text, file and host. -/
namespace Go.Proofs.Ytgkmallikomnaab.HstCarry
open Go.Proofs.Ytgkmallikomnaab Go.RowKit Go.Proofs.Ytgkmallikomnaab.Bytes Go.Proofs.Ytgkmallikomnaab.NorWalk Go.Proofs.Ytgkmallikomnaab.Suf Go.Proofs.Ytgkmallikomnaab.Idt Go.Proofs.Ytgkmallikomnaab.Sup Go.Proofs.Ytgkmallikomnaab.Hst Go.Proofs.Ytgkmallikomnaab.HstWalk Go.Proofs.Ytgkmallikomnaab.HstAsk Go.Proofs.Ytgkmallikomnaab.HstHost Go.Proofs.Ytgkmallikomnaab.HstRef Go.Proofs.Ytgkmallikomnaab.HstRefs
open Go.Proofs.Ytgkmallikomnaab.OpsRow (boxM boxB boxD thenD)
open Go.Proofs.Ytgkmallikomnaab.SufRef (refBuild_any)
open Go.Proofs.Ytgkmallikomnaab.SufWalk (build_ids)
attribute [local go_sem ↓] Go.wp_at_zero Go.wp_at_succ

/-- So many bytes, each its place's number. -/
def iotaL (k : Nat) : List UInt8 := (List.range k).map UInt8.ofNat
def iotaS (k : Nat) : ByteArray := ⟨(iotaL k).toArray⟩
theorem length_iotaL (k : Nat) : (iotaL k).length = k := by simp [iotaL]
theorem list_iotaS (k : Nat) : (iotaS k).data.toList = iotaL k := rfl
theorem size_iotaS (k : Nat) : (iotaS k).size = k := by rw [← Nor.size_list, list_iotaS, length_iotaL]
def oneS (j : Nat) : ByteArray := ⟨#[UInt8.ofNat j]⟩
theorem iota_succ (k : Nat) : iotaS k ++ oneS k = iotaS (k + 1) := by
  apply ba_ext
  rw [list_append, list_iotaS, list_iotaS]
  unfold iotaL
  rw [List.range_succ, List.map_append]
  rfl
theorem size_oneS (j : Nat) : (oneS j).size = 1 := rfl
/-- The file of them, for these ids; the host that begins with it. -/
def carF (k : Nat) : ByteArray := fileS (iotaS k) 1155 57105 512
theorem car_ok {k : Nat} (h1 : 1 ≤ k) (h2 : k ≤ 288) : bldOk (iotaS k) 1155 57105 512 = true := by
  rw [bldOk_parts, size_iotaS]
  omega
theorem file_to {s : ByteArray} (h : bldOk s 1155 57105 512 = true) : toB (fileS s 1155 57105 512) 1155 57105 512 = true ∧ parI (fileS s 1155 57105 512) = s := by
  obtain ⟨p1, p2, p3, p4, p5⟩ := parse_build h
  refine ⟨to_parts.2 ⟨p1, ?_⟩, p2⟩
  rw [p3, p4, p5]
  decide
theorem ids_ok : idsB 1155 57105 512 = true := by decide
theorem file_st {s : ByteArray} (h : bldOk s 1155 57105 512 = true) : stP (fileS s 1155 57105 512) 1155 57105 512 = 1 ∧ stI (fileS s 1155 57105 512) 1155 57105 512 = s ∧ stR (fileS s 1155 57105 512) 1155 57105 512 = 0 := by
  obtain ⟨h1, h2⟩ := file_to h
  obtain ⟨e1, e2, e3⟩ := st_is ids_ok h1
  exact ⟨e1, e2.trans h2, e3⟩
theorem file_small {s : ByteArray} (h : bldOk s 1155 57105 512 = true) : (fileS s 1155 57105 512).size < 9223372036854775808 := by
  rw [size_fileS h]
  have := bldOk_parts.1 h
  omega
/-- A slice of one byte as a text. -/
theorem one_text {w : World} {G j : Nat} (h : w.cell? ⟨G, 0, none⟩ = some (.int .u8 ((j : Int) % 256))) : (convert 38 9 (.slice (some ⟨G, 0, none⟩) 1 1)).run Try.prog w = .ok (.string (oneS j)) w := by
  unfold oneS
  refine run_convert_bytes_back w 38 9 5 ⟨G, 0, none⟩ 1 [UInt8.ofNat j] Try.underlying38 Try.underlying5 Try.underlying9 fun i hi => ?_
  obtain rfl : i = 0 := by simp at hi; omega
  have e1 : (⟨G, 0, none⟩ : Addr).add 0 = ⟨G, 0, none⟩ := by simp [Addr.add]
  rw [e1, h]
  simp
theorem wrap_u8 (j : Nat) : IntKind.u8.wrap (j : Int) = ((j : Int) % 256) := by simp only [IntKind.wrap, IntKind.bits, IntKind.signed]; simp
set_option maxRecDepth 100000 in
theorem ids23_any (w : World) : Calls Try.prog 10 #[] w fun e w' => e = .returned (.agg #[.int .i64 1155, .int .i64 57105, .int .i64 512]) ∧ Below w.heap.size w w' := by
  have b1 := build_ids
  have hB := hal w (.cells #[.int .i64 1155, .int .i64 57105, .int .i64 512] 41)
  go_enter Try.func10, Try.ntmps10
  go_wp2
  exact bodyPost_ret (v := .agg #[.int .i64 1155, .int .i64 57105, .int .i64 512]) (by simp [results, Try.results10, go_sem]) rfl ⟨rfl, hB⟩
set_option maxRecDepth 100000 in
set_option maxHeartbeats 2000000 in
theorem carrying23_any (k : Nat) (w : World) (h1 : 1 ≤ k) (h2 : k ≤ 288) : Calls Try.prog 5 #[.int .i64 k] w fun e w' => e = .returned (.agg #[.int .i64 1, .string (iotaS k), .int .i64 0, .bool false, .int .i64 0, .string ⟨#[]⟩, .int .i64 0]) ∧ Below w.heap.size w w' := by
  have ok := car_ok h1 h2
  obtain ⟨e1, e2, e3⟩ := file_st ok
  have HB := hide (fun w => refBuild_any (iotaS k) 1155 57105 512 w)
  have HS := hide (fun w => refStart_any (fileS (iotaS k) 1155 57105 512) 1155 57105 512 w (file_small ok))
  unfold Begun at HS
  rw [e1, e2, e3, ids_ok, show errH true = 0 from rfl] at HS
  rw [ok, show errF true = 0 from rfl] at HB
  clear e1 e2 e3
  generalize fileS (iotaS k) 1155 57105 512 = F at *
  have hR0 := sevRM w (.int .i64 0) (.string ⟨#[]⟩) (.int .i64 0) (.bool false) (.int .i64 0) (.string ⟨#[]⟩) (.int .i64 0) 24
  have hB0 := hal w (.cells #[.int .i64 0, .string ⟨#[]⟩, .int .i64 0, .bool false, .int .i64 0, .string ⟨#[]⟩, .int .i64 0] 24)
  have hz0 : w.heap.size < (w.alloc (.cells #[.int .i64 0, .string ⟨#[]⟩, .int .i64 0, .bool false, .int .i64 0, .string ⟨#[]⟩, .int .i64 0] 24)).heap.size := by simp
  go_enter Try.func5, Try.ntmps5
  go_upto_region 1 with fail
  generalize w.alloc _ = W at *
  go_wp2
  go_loopw [3, 4] (fun v x wr => ∃ j : Nat, j ≤ k ∧ v = .string (iotaS j) ∧ x = .int .i64 (j : Int) ∧ Below W.heap.size W wr) (fun _ x _ => k - (intOf x).toNat)
  case atStart => exact ⟨0, Nat.zero_le _, rfl, rfl, Below.refl _ _⟩
  case round =>
    obtain ⟨j, hj, rfl, rfl, hbel⟩ := hrel
    by_cases hlt : j < k
    · have hpl : (j : Int) < (k : Int) := by omega
      have hw8 := wrap_u8 j
      have hz := size_iotaS j
      have hs1 := size_oneS j
      have HE := hide (iota_succ j)
      have hone := (show ∀ e, (wr.alloc (.cells #[.int .u8 ((j : Int) % 256)] e)).cell? ⟨wr.heap.size, 0, none⟩ = some (.int .u8 ((j : Int) % 256)) from fun e => by rw [World.cell?_alloc_at _ e _ 0 rfl]; rfl) 5
      have hcv := one_text hone
      have hn1 := hal wr (.cells #[.int .u8 ((j : Int) % 256)] 5)
      generalize iotaS j = A at *
      generalize oneS j = O at *
      have n1 : ¬ 9223372036854775807 < A.size + O.size := by omega
      go_wp2
      exact ⟨⟨j + 1, by omega, by rw [HE.out], by go_num, thenB hbel hn1⟩, by simp [intOf]; omega⟩
    · obtain rfl : j = k := by omega
      have hpl : ¬ (j : Int) < (j : Int) := by omega
      have hB := thenB hB0 hbel
      have hR := sevRB hR0 hbel
      clear hB0 hR0 hz0 h1 h2 ok hj hlt
      generalize hA : iotaS j = A at *
      go_upto_region 8 with (first | (go_at_call 10; refine (ids23_any _).mono ?_; rintro e w1 ⟨rfl, hb⟩; replace hB := thenB hB hb; replace hR := sevRB hR hb; clear hb) | (go_at_call 9; refine (HB.out _).mono ?_; rintro e w2 ⟨rfl, hb⟩; replace hB := thenB hB hb; replace hR := sevRB hR hb; clear hb) | (go_at_call 11; refine (HS.out _).mono ?_; rintro e w3 ⟨rfl, hb⟩; replace hB := thenB (thenB hB hb) (hal w3 (.cells #[.int .i64 1, .string A, .int .i64 0, .bool false, .int .i64 0, .string ⟨#[]⟩, .int .i64 0] 24)); replace hR := sevRB (sevRB hR hb) (hal w3 (.cells #[.int .i64 1, .string A, .int .i64 0, .bool false, .int .i64 0, .string ⟨#[]⟩, .int .i64 0] 24)); have hY := sevM w3 (.int .i64 1) (.string A) (.int .i64 0) (.bool false) (.int .i64 0) (.string ⟨#[]⟩) (.int .i64 0) 24; clear hb))
      generalize w3.alloc _ = W3 at *
      generalize w3.heap.size = G3 at *
      go_wp2
      exact bodyPost_ret (v := .agg #[.int .i64 1, .string A, .int .i64 0, .bool false, .int .i64 0, .string ⟨#[]⟩, .int .i64 0]) (by simp [results, Try.results5, go_sem, hR]) rfl ⟨by rw [hA], set7 hB (Nat.le_refl _)⟩
end Go.Proofs.Ytgkmallikomnaab.HstCarry
