/- The contracts of the law's small helpers: the number of an error, and 'awake', which asks two sums that are known; and of the document's own answer to crc.Sum: the same plain sum. -/
import Derived.Test.YthpoefaipmcceaaCrcSum
namespace Go.Proofs.Ythpoefaipmcceaa.CrcAwake
open Go.Proofs.Ythpoefaipmcceaa Go.RowKit Go.Proofs.Ythpoefaipmcceaa.CrcSum

theorem num_any (n : Int) (w : World) : Calls Try.prog 12 #[.int .i64 n] w fun e w' => e = .returned (.int .i64 n) ∧ w' = w := by
  go_enter Try.func12, Try.ntmps12
  go_wp2
  go_ret
  exact ⟨rfl, rfl⟩

theorem known9 : ((Crc.sum [49, 50, 51, 52, 53, 54, 55, 56, 57] : Nat) : Int) = 3421780262 := by decide +kernel
theorem known0 : ((Crc.sum [] : Nat) : Int) = 0 := by decide +kernel

set_option maxHeartbeats 400000 in
theorem ref_any (s : ByteArray) (w : World) (hs : s.size < 9223372036854775808) :
    Calls Try.prog 69 #[.string s] w fun e w' => e = .returned (.int .i64 (Crc.sum s.data.toList : Nat)) ∧ w' = w := by
  go_enter Try.func69, Try.ntmps69
  go_wp2
  go_loop [3, 4] (fun v i => ∃ k : Nat, k ≤ s.size ∧ i = .int .i64 k ∧ v = .int .u32 (Crc.rest 4294967295 (s.data.toList.take k) : Nat)) (fun _ i => s.size - (intOf i).toNat)
  case atStart => exact ⟨0, Nat.zero_le _, rfl, rfl⟩
  case round =>
    obtain ⟨k, hk, rfl, rfl⟩ := hrel
    have hv := Crc.rest_lt 4294967295 (s.data.toList.take k) (by omega)
    by_cases hlt : k < s.size
    · have HS : Hid (Crc.rest 4294967295 (s.data.toList.take (k + 1)) = Crc.byte1 (Crc.rest 4294967295 (s.data.toList.take k)) s[k]) := rest_take s k hlt
      generalize Crc.rest 4294967295 (s.data.toList.take k) = r at hv HS ⊢
      have hb := s[k].toNat_lt
      have hx := xor_nat r s[k].toNat hv (by omega)
      have hxl : r ^^^ s[k].toNat < 4294967296 := Crc.xor_lt _ _ hv (by omega)
      go_wp2
      go_loop [3, 5] (fun v i => ∃ j : Nat, j ≤ 8 ∧ i = .int .i64 j ∧ v = .int .u32 (Crc.bitN j (r ^^^ s[k].toNat) : Nat)) (fun _ i => 8 - (intOf i).toNat)
      case atStart => exact ⟨0, Nat.zero_le _, rfl, rfl⟩
      case round =>
        obtain ⟨j, hj, rfl, rfl⟩ := hrel
        have hw := Crc.bitN_lt j _ hxl
        have HJ : Hid (Crc.bitN (j + 1) (r ^^^ s[k].toNat) = Crc.bit1 (Crc.bitN j (r ^^^ s[k].toNat))) := rfl
        have HV : Hid (j = 8 → Crc.bitN j (r ^^^ s[k].toNat) = Crc.byte1 r s[k]) := fun h => by subst h; rfl
        generalize Crc.bitN j (r ^^^ s[k].toNat) = v at hw HJ HV ⊢
        clear hx hxl
        have ha := and_one v hw
        by_cases hl8 : j < 8
        · clear HV
          by_cases hp : v % 2 = 1
          · go_wp2
            exact ⟨⟨j + 1, by omega, by go_num, val_int (by rw [HJ.out]; exact step_odd v hw hp)⟩, by simp [intOf]; omega⟩
          · go_wp2
            exact ⟨⟨j + 1, by omega, by go_num, val_int (by rw [HJ.out]; exact step_even v hp)⟩, by simp [intOf]; omega⟩
        · go_wp2
          exact ⟨⟨k + 1, by omega, by go_num, val_int (by rw [HS.out, HV.out (by omega)])⟩, by simp [intOf]; omega⟩
    · have HF : Hid (Crc.rest 4294967295 (s.data.toList.take k) = Crc.rest 4294967295 s.data.toList) := congrArg _ (List.take_of_length_le (by simp; omega))
      generalize Crc.rest 4294967295 (s.data.toList.take k) = v at hv HF ⊢
      go_wp2
      go_ret
      exact ⟨ret_int (by rw [last v hv]; unfold Crc.sum; rw [HF.out]), rfl⟩
end Go.Proofs.Ythpoefaipmcceaa.CrcAwake
