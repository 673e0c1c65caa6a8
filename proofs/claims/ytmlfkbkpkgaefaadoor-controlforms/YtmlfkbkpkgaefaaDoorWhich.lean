/- The two low bits of a number, and of each alone. No program is named here. -/
import Derived.Test.YtmlfkbkpkgaefaaDoorBagNor
namespace Go.Proofs.YtmlfkbkpkgaefaaDoor.Which
open Go.Proofs.YtmlfkbkpkgaefaaDoor Go.Proofs.YtmlfkbkpkgaefaaDoor.Bytes
theorem which4 (a : Int) : ∃ m : Nat, m < 4 ∧ bits .and .i64 a 1 = ((m % 2 : Nat) : Int) ∧ bits .and .i64 a 2 = ((2 * (m / 2) : Nat) : Int) ∧ bits .and .i64 a 3 = (m : Int) := by
  have key : ∀ k : Nat, k ≤ 3 → bits .and .i64 a (k : Int) = (((BitVec.ofInt 64 a).toNat &&& k : Nat) : Int) := fun k hk => by
    show IntKind.i64.wrap ((BitVec.ofInt 64 a &&& BitVec.ofInt 64 (k : Int)).toNat : Int) = _
    have hl : (BitVec.ofInt 64 a).toNat &&& k ≤ k := Nat.and_le_right
    rw [BitVec.toNat_and, ofInt_u64 k (by omega), IntKind.wrap_i64]
    omega
  have k1 := key 1 (by omega)
  have k2 := key 2 (by omega)
  have k3 := key 3 (by omega)
  generalize (BitVec.ofInt 64 a).toNat = N at k1 k2 k3
  have a1 : N &&& 1 = (N &&& 3) &&& 1 := by rw [Nat.and_assoc]; rfl
  have a2 : N &&& 2 = (N &&& 3) &&& 2 := by rw [Nat.and_assoc]; rfl
  have hm : N &&& 3 ≤ 3 := Nat.and_le_right
  rw [a1] at k1
  rw [a2] at k2
  generalize N &&& 3 = m at *
  refine ⟨m, by omega, ?_, ?_, k3⟩
  · have : m &&& 1 = m % 2 := by
      obtain rfl | rfl | rfl | rfl : m = 0 ∨ m = 1 ∨ m = 2 ∨ m = 3 := by omega
      all_goals rfl
    rw [this] at k1
    exact k1
  · have : m &&& 2 = 2 * (m / 2) := by
      obtain rfl | rfl | rfl | rfl : m = 0 ∨ m = 1 ∨ m = 2 ∨ m = 3 := by omega
      all_goals rfl
    rw [this] at k2
    exact k2

end Go.Proofs.YtmlfkbkpkgaefaaDoor.Which
