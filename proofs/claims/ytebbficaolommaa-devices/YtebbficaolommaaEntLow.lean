/- The contracts of package lowest, of a text's complement, and of the document's own numbers in bytes. -/
import Derived.Test.YtebbficaolommaaNorWalk
import Derived.Test.YtebbficaolommaaEntMath
import Derived.Test.YtebbficaolommaaEntRow
import Derived.Deep.RegionWith
namespace Go.Proofs.Ytebbficaolommaa.EntLow
open Go.Proofs.Ytebbficaolommaa Go.RowKit Go.Proofs.Ytebbficaolommaa.Bytes Go.Proofs.Ytebbficaolommaa.NorWalk Go.Proofs.Ytebbficaolommaa.Ent Go.Proofs.Ytebbficaolommaa.EntRow

theorem info_u8 : (Try.prog.info? 5).map (fun i => (i.zero, i.size, i.bytes)) = some (some (.int .u8 0), 1, 1) := by kernel_rfl
def lowS (x k : Nat) : ByteArray := ⟨(lowL x k).toArray⟩
theorem list_lowS (x k : Nat) : (lowS x k).data.toList = lowL x k := rfl
theorem size_lowS (x k : Nat) : (lowS x k).size = k := by rw [← Nor.size_list, list_lowS, length_lowL]
theorem pow_8 (j : Nat) : 2 ^ (8 * j) = 256 ^ j := by rw [Nat.pow_mul]
theorem byte_shr (x j s : Nat) (hs : s = 8 * j) : IntKind.u8.wrap ((x : Int) / 2 ^ s) = ((byteAt x j).toNat : Int) := by
  have e : ((x : Int) / 2 ^ s) = ((x / 256 ^ j : Nat) : Int) := by rw [hs, ← pow_8, Int.natCast_ediv, Int.natCast_pow]; rfl
  rw [e, toNat_byteAt]
  simp [IntKind.wrap, IntKind.bits, IntKind.signed]

theorem or_i64 (a b : Nat) (ha : a < 9223372036854775808) (hb : b < 9223372036854775808) : bits .or .i64 (a : Int) (b : Int) = ((a ||| b : Nat) : Int) := by
  show IntKind.i64.wrap ((BitVec.ofInt 64 (a : Int) ||| BitVec.ofInt 64 (b : Int)).toNat : Int) = _
  rw [BitVec.toNat_or, ofInt_u64 a (by omega), ofInt_u64 b (by omega), IntKind.wrap_i64]
  have h : a ||| b < 2 ^ 63 := Nat.or_lt_two_pow (by omega) (by omega)
  omega
theorem of_take (l : List UInt8) (j : Nat) (h : j < l.length) : ofL (l.take (j + 1)) = ofL (l.take j) + 256 ^ j * l[j].toNat := by
  rw [List.take_succ_eq_append_getElem h, ofL_append, List.length_take, Nat.min_eq_left (by omega)]
  show _ + _ * (_ + 256 * 0) = _
  rw [Nat.mul_zero, Nat.add_zero]
theorem of_take_lt (l : List UInt8) (j : Nat) : ofL (l.take j) < 256 ^ j := Nat.lt_of_lt_of_le (ofL_lt _) (Nat.pow_le_pow_right (by omega) (by rw [List.length_take]; omega))
theorem or_step (l : List UInt8) (j : Nat) (h : j < l.length) (hj : j < 7) : bits .or .i64 ((ofL (l.take j) : Nat) : Int) ((l[j].toNat * 256 ^ j : Nat) : Int) = ((ofL (l.take (j + 1)) : Nat) : Int) := by
  have h1 := of_take_lt l j
  have h2 := l[j].toNat_lt
  have h3 : 256 ^ j ≤ 256 ^ 6 := Nat.pow_le_pow_right (by omega) (by omega)
  have h4 : l[j].toNat * 256 ^ j ≤ 255 * 256 ^ 6 := Nat.mul_le_mul (by omega) h3
  rw [or_i64 _ _ (by omega) (by omega), of_take l j h]
  congr 1
  rw [← pow_8] at *
  rw [Nat.or_comm, Nat.mul_comm, ← Nat.two_pow_add_eq_or_of_lt h1, Nat.add_comm]
theorem or_stepS (s : ByteArray) (j m : Nat) (h : j < s.size) (hj : j < 7) (hm : m = 8 * j) : bits .or .i64 ((ofL (s.data.toList.take j) : Nat) : Int) (wrap64 (wrap64 (s[j].toNat : Int) * 2 ^ m)) = ((ofL (s.data.toList.take (j + 1)) : Nat) : Int) := by
  have hl : j < s.data.toList.length := by rw [Nor.size_list]; exact h
  have e := or_step s.data.toList j hl hj
  have e1 : s.data.toList[j] = s[j] := by rw [Array.getElem_toList]; rfl
  rw [e1] at e
  rw [← e]
  have h2 := s[j].toNat_lt
  have h3 : 256 ^ j ≤ 256 ^ 6 := Nat.pow_le_pow_right (by omega) (by omega)
  have h4 : s[j].toNat * 256 ^ j ≤ 255 * 256 ^ 6 := Nat.mul_le_mul (by omega) h3
  have e2 : wrap64 (s[j].toNat : Int) = (s[j].toNat : Int) := by unfold wrap64; omega
  have e3 : (s[j].toNat : Int) * 2 ^ m = ((s[j].toNat * 256 ^ j : Nat) : Int) := by rw [hm, ← pow_8, Int.natCast_mul, Int.natCast_pow]; rfl
  rw [e2, e3]
  congr 1
  generalize s[j].toNat * 256 ^ j = q at h4
  unfold wrap64
  omega

theorem not_u8 (b : UInt8) : bits .xor .u8 (if IntKind.u8.signed = true then -1 else IntKind.u8.max) (b.toNat : Int) = ((~~~b).toNat : Int) := by
  have h0 : ∀ n : Fin 256, bits .xor .u8 (if IntKind.u8.signed = true then -1 else IntKind.u8.max) (n.val : Int) = ((~~~(UInt8.ofNat n.val)).toNat : Int) := by decide +kernel
  have := h0 ⟨b.toNat, b.toNat_lt⟩
  simpa only [UInt8.ofNat_toNat] using this
theorem of_drop (l : List UInt8) (j : Nat) (h : j < l.length) : ofL (l.drop j) = l[j].toNat + 256 * ofL (l.drop (j + 1)) := by
  rw [List.drop_eq_getElem_cons h]
  rfl
theorem of_drop_lt (l : List UInt8) (j : Nat) (h : l.length ≤ 7) : ofL (l.drop j) < 256 ^ 7 := Nat.lt_of_lt_of_le (ofL_lt _) (Nat.pow_le_pow_right (by omega) (by rw [List.length_drop]; omega))
theorem or_stepD (s : ByteArray) (j : Nat) (h : j < s.size) (h7 : s.size ≤ 7) : bits .or .i64 (wrap64 (((ofL (s.data.toList.drop (j + 1)) : Nat) : Int) * 256)) (wrap64 (s[j].toNat : Int)) = ((ofL (s.data.toList.drop j) : Nat) : Int) := by
  have hl : j < s.data.toList.length := by rw [Nor.size_list]; exact h
  have e := of_drop s.data.toList j hl
  have e1 : s.data.toList[j] = s[j] := by rw [Array.getElem_toList]; rfl
  have h0 := of_drop_lt s.data.toList j (by rw [Nor.size_list]; exact h7)
  have h2 := s[j].toNat_lt
  rw [e1] at e
  have e2 : wrap64 (s[j].toNat : Int) = (s[j].toNat : Int) := by unfold wrap64; omega
  have e3 : wrap64 (((ofL (s.data.toList.drop (j + 1)) : Nat) : Int) * 256) = ((2 ^ 8 * ofL (s.data.toList.drop (j + 1)) : Nat) : Int) := by unfold wrap64; omega
  rw [e2, e3, or_i64 _ _ (by omega) (by omega), ← Nat.two_pow_add_eq_or_of_lt (by omega), e]
  congr 1
  omega
end Go.Proofs.Ytebbficaolommaa.EntLow
