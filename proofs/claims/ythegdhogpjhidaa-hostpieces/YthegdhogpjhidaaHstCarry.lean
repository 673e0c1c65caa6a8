/- A host that begins to carry so many bytes: the laws' own text, file and host. -/
import Derived.Test.YthegdhogpjhidaaHstRefs
import Derived.Lib.BufferWrite
namespace Go.Proofs.Ythegdhogpjhidaa.HstCarry
open Go.Proofs.Ythegdhogpjhidaa Go.RowKit Go.Proofs.Ythegdhogpjhidaa.Bytes Go.Proofs.Ythegdhogpjhidaa.NorWalk Go.Proofs.Ythegdhogpjhidaa.Suf Go.Proofs.Ythegdhogpjhidaa.Idt Go.Proofs.Ythegdhogpjhidaa.Sup Go.Proofs.Ythegdhogpjhidaa.Hst Go.Proofs.Ythegdhogpjhidaa.HstWalk Go.Proofs.Ythegdhogpjhidaa.HstAsk Go.Proofs.Ythegdhogpjhidaa.HstHost Go.Proofs.Ythegdhogpjhidaa.HstRef Go.Proofs.Ythegdhogpjhidaa.HstRefs
open Go.Proofs.Ythegdhogpjhidaa.OpsRow (boxM boxB boxD thenD)
open Go.Proofs.Ythegdhogpjhidaa.SufRef (refBuild_any)
open Go.Proofs.Ythegdhogpjhidaa.SufWalk (build_ids)
attribute [local go_sem ↓] Go.wp_at_zero Go.wp_at_succ

/-- So many bytes, each its place's number. -/
def iotaL (k : Nat) : List UInt8 := (List.range k).map UInt8.ofNat
def iotaS (k : Nat) : ByteArray := ⟨(iotaL k).toArray⟩
theorem length_iotaL (k : Nat) : (iotaL k).length = k := by simp [iotaL]
theorem list_iotaS (k : Nat) : (iotaS k).data.toList = iotaL k := rfl
theorem size_iotaS (k : Nat) : (iotaS k).size = k := by rw [← Nor.size_list, list_iotaS, length_iotaL]
def oneS (j : Nat) : ByteArray := ⟨#[UInt8.ofNat j]⟩
theorem iota_succ (k : Nat) : iotaS k ++ oneS k = iotaS (k + 1) := by
  apply ba_ext
  rw [list_append, list_iotaS, list_iotaS]
  unfold iotaL
  rw [List.range_succ, List.map_append]
  rfl
theorem size_oneS (j : Nat) : (oneS j).size = 1 := rfl
/-- The file of them, for these ids; the host that begins with it. -/
def carF (k : Nat) : ByteArray := fileS (iotaS k) 1155 57105 512
theorem car_ok {k : Nat} (h1 : 1 ≤ k) (h2 : k ≤ 288) : bldOk (iotaS k) 1155 57105 512 = true := by
  rw [bldOk_parts, size_iotaS]
  omega
theorem file_to {s : ByteArray} (h : bldOk s 1155 57105 512 = true) : toB (fileS s 1155 57105 512) 1155 57105 512 = true ∧ parI (fileS s 1155 57105 512) = s := by
  obtain ⟨p1, p2, p3, p4, p5⟩ := parse_build h
  refine ⟨to_parts.2 ⟨p1, ?_⟩, p2⟩
  rw [p3, p4, p5]
  decide
theorem ids_ok : idsB 1155 57105 512 = true := by decide
theorem file_st {s : ByteArray} (h : bldOk s 1155 57105 512 = true) : stP (fileS s 1155 57105 512) 1155 57105 512 = 1 ∧ stI (fileS s 1155 57105 512) 1155 57105 512 = s ∧ stR (fileS s 1155 57105 512) 1155 57105 512 = 0 := by
  obtain ⟨h1, h2⟩ := file_to h
  obtain ⟨e1, e2, e3⟩ := st_is ids_ok h1
  exact ⟨e1, e2.trans h2, e3⟩
theorem file_small {s : ByteArray} (h : bldOk s 1155 57105 512 = true) : (fileS s 1155 57105 512).size < 9223372036854775808 := by
  rw [size_fileS h]
  have := bldOk_parts.1 h
  omega
/-- A slice of one byte as a text. -/
theorem one_text {w : World} {G j : Nat} (h : w.cell? ⟨G, 0, none⟩ = some (.int .u8 ((j : Int) % 256))) : (convert 41 9 (.slice (some ⟨G, 0, none⟩) 1 1)).run Try.prog w = .ok (.string (oneS j)) w := by
  unfold oneS
  refine run_convert_bytes_back w 41 9 5 ⟨G, 0, none⟩ 1 [UInt8.ofNat j] Try.underlying41 Try.underlying5 Try.underlying9 fun i hi => ?_
  obtain rfl : i = 0 := by simp at hi; omega
  have e1 : (⟨G, 0, none⟩ : Addr).add 0 = ⟨G, 0, none⟩ := by simp [Addr.add]
  rw [e1, h]
  simp
theorem wrap_u8 (j : Nat) : IntKind.u8.wrap (j : Int) = ((j : Int) % 256) := by simp only [IntKind.wrap, IntKind.bits, IntKind.signed]; simp
set_option maxRecDepth 100000 in
theorem ids22_any (w : World) : Calls Try.prog 18 #[] w fun e w' => e = .returned (.agg #[.int .i64 1155, .int .i64 57105, .int .i64 512]) ∧ Below w.heap.size w w' := by
  have b1 := build_ids
  have hB := hal w (.cells #[.int .i64 1155, .int .i64 57105, .int .i64 512] 25)
  go_enter Try.func18, Try.ntmps18
  go_wp2
  exact bodyPost_ret (v := .agg #[.int .i64 1155, .int .i64 57105, .int .i64 512]) (by simp [results, Try.results18, go_sem]) rfl ⟨rfl, hB⟩
set_option maxRecDepth 100000 in
set_option maxHeartbeats 2000000 in
theorem carrying22_any (k : Nat) (w : World) (h1 : 1 ≤ k) (h2 : k ≤ 288) : Calls Try.prog 16 #[.int .i64 k] w fun e w' => e = .returned (.agg #[.int .i64 1, .string (iotaS k), .int .i64 0, .bool false, .int .i64 0, .string ⟨#[]⟩, .int .i64 0]) ∧ Below w.heap.size w w' := by
  have ok := car_ok h1 h2
  obtain ⟨e1, e2, e3⟩ := file_st ok
  have HB := hide (fun w => refBuild_any (iotaS k) 1155 57105 512 w)
  have HS := hide (fun w => refStart_any (fileS (iotaS k) 1155 57105 512) 1155 57105 512 w (file_small ok))
  unfold Begun at HS
  rw [e1, e2, e3, ids_ok, show errH true = 0 from rfl] at HS
  rw [ok, show errF true = 0 from rfl] at HB
  clear e1 e2 e3
  generalize fileS (iotaS k) 1155 57105 512 = F at *
  have hR0 := sevRM w (.int .i64 0) (.string ⟨#[]⟩) (.int .i64 0) (.bool false) (.int .i64 0) (.string ⟨#[]⟩) (.int .i64 0) 23
  have hB0 := hal w (.cells #[.int .i64 0, .string ⟨#[]⟩, .int .i64 0, .bool false, .int .i64 0, .string ⟨#[]⟩, .int .i64 0] 23)
  have hz0 : w.heap.size < (w.alloc (.cells #[.int .i64 0, .string ⟨#[]⟩, .int .i64 0, .bool false, .int .i64 0, .string ⟨#[]⟩, .int .i64 0] 23)).heap.size := by simp
  go_enter Try.func16, Try.ntmps16
  go_upto_region 1 with fail
  generalize w.alloc _ = W at *
  go_wp2
  go_loopw [3, 4] (fun v x wr => ∃ j : Nat, j ≤ k ∧ v = .string (iotaS j) ∧ x = .int .i64 (j : Int) ∧ Below W.heap.size W wr) (fun _ x _ => k - (intOf x).toNat)
  case atStart => exact ⟨0, Nat.zero_le _, rfl, rfl, Below.refl _ _⟩
  case round =>
    obtain ⟨j, hj, rfl, rfl, hbel⟩ := hrel
    by_cases hlt : j < k
    · have hpl : (j : Int) < (k : Int) := by omega
      have hw8 := wrap_u8 j
      have hz := size_iotaS j
      have hs1 := size_oneS j
      have HE := hide (iota_succ j)
      have hone := (show ∀ e, (wr.alloc (.cells #[.int .u8 ((j : Int) % 256)] e)).cell? ⟨wr.heap.size, 0, none⟩ = some (.int .u8 ((j : Int) % 256)) from fun e => by rw [World.cell?_alloc_at _ e _ 0 rfl]; rfl) 5
      have hcv := one_text hone
      have hn1 := hal wr (.cells #[.int .u8 ((j : Int) % 256)] 5)
      generalize iotaS j = A at *
      generalize oneS j = O at *
      have n1 : ¬ 9223372036854775807 < A.size + O.size := by omega
      go_wp2
      exact ⟨⟨j + 1, by omega, by rw [HE.out], by go_num, thenB hbel hn1⟩, by simp [intOf]; omega⟩
    · obtain rfl : j = k := by omega
      have hpl : ¬ (j : Int) < (j : Int) := by omega
      have hB := thenB hB0 hbel
      have hR := sevRB hR0 hbel
      clear hB0 hR0 hz0 h1 h2 ok hj hlt
      generalize hA : iotaS j = A at *
      go_upto_region 8 with (first | (go_at_call 18; refine (ids22_any _).mono ?_; rintro e w1 ⟨rfl, hb⟩; replace hB := thenB hB hb; replace hR := sevRB hR hb; clear hb) | (go_at_call 17; refine (HB.out _).mono ?_; rintro e w2 ⟨rfl, hb⟩; replace hB := thenB hB hb; replace hR := sevRB hR hb; clear hb) | (go_at_call 9; refine (HS.out _).mono ?_; rintro e w3 ⟨rfl, hb⟩; replace hB := thenB (thenB hB hb) (hal w3 (.cells #[.int .i64 1, .string A, .int .i64 0, .bool false, .int .i64 0, .string ⟨#[]⟩, .int .i64 0] 23)); replace hR := sevRB (sevRB hR hb) (hal w3 (.cells #[.int .i64 1, .string A, .int .i64 0, .bool false, .int .i64 0, .string ⟨#[]⟩, .int .i64 0] 23)); have hY := sevM w3 (.int .i64 1) (.string A) (.int .i64 0) (.bool false) (.int .i64 0) (.string ⟨#[]⟩) (.int .i64 0) 23; clear hb))
      generalize w3.alloc _ = W3 at *
      generalize w3.heap.size = G3 at *
      go_wp2
      exact bodyPost_ret (v := .agg #[.int .i64 1, .string A, .int .i64 0, .bool false, .int .i64 0, .string ⟨#[]⟩, .int .i64 0]) (by simp [results, Try.results16, go_sem, hR]) rfl ⟨by rw [hA], set7 hB (Nat.le_refl _)⟩
end Go.Proofs.Ythegdhogpjhidaa.HstCarry
