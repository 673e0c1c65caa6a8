/- The contracts of crc.Sum and of the byte's step that it calls: each returns what the plain sum gives, and leaves the world as it was. -/
import Derived.Test.YthpoefaipmcceaaChecked
import Derived.Test.YthpoefaipmcceaaCrcMath
import Derived.WalkKit
import Derived.WalkSpells
import Derived.Laws.BitsAllLaws
namespace Go.Proofs.Ythpoefaipmcceaa.CrcSum
open Go.Proofs.Ythpoefaipmcceaa Go.RowKit

theorem and_one (r : Nat) (h : r < 4294967296) : bits .and .u32 (r : Int) 1 = ((r % 2 : Nat) : Int) := by
  have e := u32_and_nat r 1 h (by omega)
  rw [nat_mask1] at e
  exact e
theorem xor_nat (r : Nat) (b : Nat) (h : r < 4294967296) (hb : b < 4294967296) : bits .xor .u32 (r : Int) (b : Int) = ((r ^^^ b : Nat) : Int) := u32_xor_nat r b h hb

theorem step_odd (v : Nat) (hv : v < 4294967296) (hp : v % 2 = 1) : bits .xor .u32 ((v : Int) / 2) 3988292384 = ((Crc.bit1 v : Nat) : Int) := by
  have e := u32_xor_nat (v / 2) 3988292384 (by omega) (by omega)
  unfold Crc.bit1
  rw [if_pos hp]
  exact e
theorem step_even (v : Nat) (hp : ¬ v % 2 = 1) : (v : Int) / 2 = ((Crc.bit1 v : Nat) : Int) := by
  unfold Crc.bit1
  rw [if_neg hp, Nat.xor_zero]
  rfl
theorem last (v : Nat) (hv : v < 4294967296) : wrap64 (bits BinOp.xor IntKind.u32 IntKind.u32.max (v : Int)) = ((v ^^^ 4294967295 : Nat) : Int) := by
  have e := u32_xor_nat 4294967295 v (by omega) hv
  have hm : IntKind.u32.max = ((4294967295 : Nat) : Int) := rfl
  have hl := Crc.xor_lt 4294967295 v (by omega) hv
  rw [hm, e, Nat.xor_comm v]
  unfold wrap64; omega
theorem val_int {k : IntKind} {a b : Int} (h : a = b) : Value.int k a = .int k b := by rw [h]
theorem ret_bool {a b : Bool} (h : a = b) : Ending.returned (.bool a) = .returned (.bool b) := by rw [h]
theorem ret_int {k : IntKind} {a b : Int} (h : a = b) : Ending.returned (.int k a) = .returned (.int k b) := by rw [h]

set_option maxHeartbeats 400000 in
theorem withByte_any (r : Nat) (b : UInt8) (w : World) (hr : r < 4294967296) :
    Calls Try.prog 93 #[.int .u32 (r : Int), .int .u8 (b.toNat : Int)] w fun e w' => e = .returned (.int .u32 (Crc.byte1 r b : Nat)) ∧ w' = w := by
  have hb := b.toNat_lt
  have hx := xor_nat r b.toNat hr (by omega)
  have hlt : r ^^^ b.toNat < 4294967296 := Crc.xor_lt _ _ hr (by omega)
  go_enter Try.func93, Try.ntmps93
  go_wp2
  go_loop [0, 10] (fun v i => ∃ k : Nat, k ≤ 8 ∧ i = .int .i64 k ∧ v = .int .u32 (Crc.bitN k (r ^^^ b.toNat) : Nat)) (fun _ i => 8 - (intOf i).toNat)
  case atStart => exact ⟨0, Nat.zero_le _, rfl, rfl⟩
  case round =>
    obtain ⟨k, hk, rfl, rfl⟩ := hrel
    have hv := Crc.bitN_lt k _ hlt
    have HV : Hid (k = 8 → Crc.bitN k (r ^^^ b.toNat) = Crc.byte1 r b) := fun h => by subst h; rfl
    have HS : Hid (Crc.bitN (k + 1) (r ^^^ b.toNat) = Crc.bit1 (Crc.bitN k (r ^^^ b.toNat))) := rfl
    generalize Crc.bitN k (r ^^^ b.toNat) = v at hv HS HV ⊢
    clear hx hlt
    have ha := and_one v hv
    by_cases hlt : k < 8
    · clear HV
      by_cases hp : v % 2 = 1
      · go_wp2
        exact ⟨⟨k + 1, by omega, by go_num, val_int (by rw [HS.out]; exact step_odd v hv hp)⟩, by simp [intOf]; omega⟩
      · go_wp2
        exact ⟨⟨k + 1, by omega, by go_num, val_int (by rw [HS.out]; exact step_even v hp)⟩, by simp [intOf]; omega⟩
    · go_wp2
      go_ret
      exact ⟨ret_int (by rw [HV.out (by omega)]), rfl⟩

theorem rest_take (s : ByteArray) (k : Nat) (h : k < s.size) : Crc.rest 4294967295 (s.data.toList.take (k + 1)) = Crc.byte1 (Crc.rest 4294967295 (s.data.toList.take k)) s[k] := by
  rw [List.take_succ_eq_append_getElem (by simpa using h), Crc.rest_snoc]; rfl

set_option maxHeartbeats 400000 in
theorem sum_any (s : ByteArray) (w : World) (hs : s.size < 9223372036854775808) :
    Calls Try.prog 87 #[.string s] w fun e w' => e = .returned (.int .i64 (Crc.sum s.data.toList : Nat)) ∧ w' = w := by
  go_enter Try.func87, Try.ntmps87
  go_wp2
  go_loop [3, 7] (fun v i => ∃ k : Nat, k ≤ s.size ∧ i = .int .i64 k ∧ v = .int .u32 (Crc.rest 4294967295 (s.data.toList.take k) : Nat)) (fun _ i => s.size - (intOf i).toNat)
  case atStart => exact ⟨0, Nat.zero_le _, rfl, rfl⟩
  case round =>
    obtain ⟨k, hk, rfl, rfl⟩ := hrel
    have hv := Crc.rest_lt 4294967295 (s.data.toList.take k) (by omega)
    by_cases hlt : k < s.size
    · have HS : Hid (Crc.rest 4294967295 (s.data.toList.take (k + 1)) = Crc.byte1 (Crc.rest 4294967295 (s.data.toList.take k)) s[k]) := rest_take s k hlt
      generalize Crc.rest 4294967295 (s.data.toList.take k) = v at hv HS ⊢
      go_wp2_with (go_at_call 93; refine (withByte_any _ _ _ hv).mono ?_; rintro e w' ⟨rfl, rfl⟩)
      exact ⟨⟨k + 1, by omega, by go_num, val_int (by rw [HS.out])⟩, by simp [intOf]; omega⟩
    · have HF : Hid (Crc.rest 4294967295 (s.data.toList.take k) = Crc.rest 4294967295 s.data.toList) := congrArg _ (List.take_of_length_le (by simp; omega))
      generalize Crc.rest 4294967295 (s.data.toList.take k) = v at hv HF ⊢
      go_wp2
      go_ret
      exact ⟨ret_int (by rw [last v hv]; unfold Crc.sum; rw [HF.out]), rfl⟩
end Go.Proofs.Ythpoefaipmcceaa.CrcSum
