/- The contracts of crc.Sum and of the byte's step that it calls: each returns what the plain sum gives, and leaves the world as it was. -/
import Derived.Test.YtinclijbmjaccaaChecked
import Derived.Test.YtinclijbmjaccaaCrcMath
import Derived.WalkKit
import Derived.WalkSpells
import Derived.Laws.BitsAllLaws
namespace Go.Proofs.Ytinclijbmjaccaa.CrcSum
open Go.Proofs.Ytinclijbmjaccaa Go.RowKit

theorem and_one (r : Nat) (h : r < 4294967296) : bits .and .u32 (r : Int) 1 = ((r % 2 : Nat) : Int) := by
  have e := u32_and_nat r 1 h (by omega)
  rw [nat_mask1] at e
  exact e
theorem xor_nat (r : Nat) (b : Nat) (h : r < 4294967296) (hb : b < 4294967296) : bits .xor .u32 (r : Int) (b : Int) = ((r ^^^ b : Nat) : Int) := u32_xor_nat r b h hb

theorem step_odd (v : Nat) (hv : v < 4294967296) (hp : v % 2 = 1) : bits .xor .u32 ((v : Int) / 2) 3988292384 = ((Crc.bit1 v : Nat) : Int) := by
  have e := u32_xor_nat (v / 2) 3988292384 (by omega) (by omega)
  unfold Crc.bit1
  rw [if_pos hp]
  exact e
theorem step_even (v : Nat) (hp : ¬ v % 2 = 1) : (v : Int) / 2 = ((Crc.bit1 v : Nat) : Int) := by
  unfold Crc.bit1
  rw [if_neg hp, Nat.xor_zero]
  rfl
theorem last (v : Nat) (hv : v < 4294967296) : wrap64 (bits BinOp.xor IntKind.u32 IntKind.u32.max (v : Int)) = ((v ^^^ 4294967295 : Nat) : Int) := by
  have e := u32_xor_nat 4294967295 v (by omega) hv
  have hm : IntKind.u32.max = ((4294967295 : Nat) : Int) := rfl
  have hl := Crc.xor_lt 4294967295 v (by omega) hv
  rw [hm, e, Nat.xor_comm v]
  unfold wrap64; omega
theorem val_int {k : IntKind} {a b : Int} (h : a = b) : Value.int k a = .int k b := by rw [h]
theorem ret_bool {a b : Bool} (h : a = b) : Ending.returned (.bool a) = .returned (.bool b) := by rw [h]
theorem ret_int {k : IntKind} {a b : Int} (h : a = b) : Ending.returned (.int k a) = .returned (.int k b) := by rw [h]

theorem rest_take (s : ByteArray) (k : Nat) (h : k < s.size) : Crc.rest 4294967295 (s.data.toList.take (k + 1)) = Crc.byte1 (Crc.rest 4294967295 (s.data.toList.take k)) s[k] := by
  rw [List.take_succ_eq_append_getElem (by simpa using h), Crc.rest_snoc]; rfl

end Go.Proofs.Ytinclijbmjaccaa.CrcSum
