/- The contracts of the document's own answers to package entry: they return what the same plain functions give. -/
import Derived.Test.YtgkmallikomnaaaBagEnt
import Derived.Test.YtgkmallikomnaaaBagNor
namespace Go.Proofs.Ytgkmallikomnaaa.EntRef
open Go.Proofs.Ytgkmallikomnaaa Go.RowKit Go.Proofs.Ytgkmallikomnaaa.Bytes Go.Proofs.Ytgkmallikomnaaa.NorWalk Go.Proofs.Ytgkmallikomnaaa.NorRef Go.Proofs.Ytgkmallikomnaaa.Ent Go.Proofs.Ytgkmallikomnaaa.EntRow Go.Proofs.Ytgkmallikomnaaa.EntLow Go.Proofs.Ytgkmallikomnaaa.EntWalk
attribute [local go_sem ↓] Go.wp_at_zero Go.wp_at_succ

theorem recMay_up (q t z m : Int) : recMay q t z m = (upToB q 1 1048576 && (upToB t 0 1 && (upToB z 1 288 && upToB m 0 4294967295))) := by
  unfold recMay upToB
  rw [Bool.eq_iff_iff]
  simp
  omega
theorem refLowT_any (X K : Int) (w : World) (h0 : 0 ≤ X) (h1 : 1 ≤ K) (h7 : K ≤ 7) : Calls Try.prog 33 #[.int .i64 X, .int .i64 K] w fun e w' => e = .returned (.string (lowT X K)) ∧ Below w.heap.size w w' := by
  obtain ⟨x, rfl⟩ := Int.eq_ofNat_of_zero_le h0
  obtain ⟨k, rfl⟩ := Int.eq_ofNat_of_zero_le (show 0 ≤ K by omega)
  exact refLow_any x k w (by omega)
theorem sub_cell (b : UInt8) : (#[Value.int .u8 ((255 - (b.toNat : Int)) % 256)] : Array Value)[0]? = some (.int .u8 ((~~~b).toNat : Int)) := by
  have h0 : ∀ n : Fin 256, 255 - n.val = (~~~(UInt8.ofNat n.val)).toNat := by decide +kernel
  have := h0 ⟨b.toNat, b.toNat_lt⟩
  simp only [UInt8.ofNat_toNat] at this
  have hb := b.toNat_lt
  have e : (255 - (b.toNat : Int)) % 256 = ((~~~b).toNat : Int) := by omega
  rw [e]
  rfl
/-- The first half, and so much of the second. -/
theorem half_get (H : List UInt8) (j : Nat) (h : j < H.length) (h' : j < (H ++ (compL H).take j).length) : (H ++ (compL H).take j)[j] = H[j] := by rw [List.getElem_append_left h]
theorem half_succ (H : List UInt8) (j : Nat) (h : j < H.length) : H ++ (compL H).take (j + 1) = H ++ (compL H).take j ++ [~~~H[j]] := by
  rw [List.take_succ_eq_append_getElem (by rw [length_compL]; exact h), List.append_assoc]
  congr 2
  simp [compL]
theorem num_of (s : ByteArray) (w : World) (h : s.size ≤ 7) : Calls Try.prog 61 #[.string s] w fun e w' => e = .returned (.int .i64 (numS s)) ∧ w' = w := refOf_any s w h
theorem num_one (s : ByteArray) (h : 4 < s.size) : IntKind.i64.wrap (s[4].toNat : Int) = numS (s.extract 4 5) := by
  have hl : 4 < s.data.toList.length := by rw [Nor.size_list]; exact h
  have e1 : s.data.toList[4] = s[4] := by rw [Array.getElem_toList]; rfl
  unfold numS
  rw [list_extract, List.drop_eq_getElem_cons hl, e1]
  have := s[4].toNat_lt
  show _ = ((s[4].toNat + 256 * 0 : Nat) : Int)
  rw [IntKind.wrap_i64]
  omega
end Go.Proofs.Ytgkmallikomnaaa.EntRef
