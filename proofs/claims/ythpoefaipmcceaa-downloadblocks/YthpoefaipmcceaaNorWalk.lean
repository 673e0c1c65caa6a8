/- The contracts of package nor: each call returns what the plain functions give, whatever its arguments; of what was there nothing has turned. -/
import Derived.Test.YthpoefaipmcceaaChecked
import Derived.Test.YthpoefaipmcceaaNorMath
import Derived.Test.YthpoefaipmcceaaBytes
import Derived.WalkKit
import Derived.WalkSpells
import Derived.RegionTactic
import Derived.BigQuiet
namespace Go.Proofs.Ythpoefaipmcceaa.NorWalk
open Go.Proofs.Ythpoefaipmcceaa Go.RowKit Go.Proofs.Ythpoefaipmcceaa.Bytes

def mayB (f : ByteArray) : Bool := decide (f.size = 768)
def wordB (a : Int) : Bool := decide (0 ≤ a ∧ a < 768 ∧ a % 4 = 0)
theorem ret_bool {a b : Bool} (h : a = b) : Ending.returned (.bool a) = .returned (.bool b) := by rw [h]
theorem ret_text {k : IntKind} {a b : ByteArray} {c d : Int} (h : a = b) (g : c = d) : Ending.returned (.tuple #[.string a, .int k c]) = .returned (.tuple #[.string b, .int k d]) := by rw [h, g]

theorem step_u8 (c b : UInt8) (r : Nat) (h : r < 8) : bits .andNot .u8 (c.toNat : Int) (bits .and .u8 (bits .xor .u8 (if IntKind.u8.signed = true then -1 else IntKind.u8.max) (b.toNat : Int)) (2 ^ r % 256)) = ((Nor.bitStep c b r).toNat : Int) := by
  have e1 : (if IntKind.u8.signed = true then (-1 : Int) else IntKind.u8.max) = ((255 : Nat) : Int) := rfl
  have e2 : ((2 : Int) ^ r % 256) = ((2 ^ r : Nat) : Int) := by
    obtain rfl | rfl | rfl | rfl | rfl | rfl | rfl | rfl : r = 0 ∨ r = 1 ∨ r = 2 ∨ r = 3 ∨ r = 4 ∨ r = 5 ∨ r = 6 ∨ r = 7 := by omega
    all_goals rfl
  have hp : 2 ^ r < 256 := Nat.pow_lt_pow_right (by omega) h
  rw [e1, e2, u8_xor_nat 255 _ (by omega) b.toNat_lt, u8_and_nat _ _ (Nat.xor_lt_two_pow (n := 8) (by omega) b.toNat_lt) hp, u8_andNot_nat _ _ c.toNat_lt (Nat.lt_of_le_of_lt Nat.and_le_right hp)]
  have h0 : ∀ n : Fin 256, ∀ r : Fin 8, (~~~(~~~(UInt8.ofNat n.val) &&& (1 <<< UInt8.ofNat (r.val % 8)))).toNat = 255 - ((255 ^^^ n.val) &&& 2 ^ r.val) := by decide +kernel
  have h1 := h0 ⟨b.toNat, b.toNat_lt⟩ ⟨r, h⟩
  simp only [UInt8.ofNat_toNat] at h1
  unfold Nor.bitStep
  rw [UInt8.toNat_and, h1]

theorem may_any (f : ByteArray) (w : World) : Calls Try.prog 20 #[.string f] w fun e w' => e = .returned (.bool (mayB f)) ∧ w' = w := by
  go_enter Try.func20, Try.ntmps20
  go_wp2
  go_ret
  exact ⟨ret_bool (by unfold mayB; rw [Bool.eq_iff_iff]; simp; omega), rfl⟩

end Go.Proofs.Ythpoefaipmcceaa.NorWalk
