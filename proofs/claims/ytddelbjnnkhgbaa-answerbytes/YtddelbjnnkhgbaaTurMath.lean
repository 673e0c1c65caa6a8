/- A text of which one byte is turned. No program is named here. -/
import Derived.Test.YtddelbjnnkhgbaaNorMath
import Derived.Test.YtddelbjnnkhgbaaBytes
import Derived.Test.YtddelbjnnkhgbaaCrcMath
namespace Go.Proofs.Ytddelbjnnkhgbaa.Tur
open Go.Proofs.Ytddelbjnnkhgbaa Go.Proofs.Ytddelbjnnkhgbaa.Bytes

theorem xor_ne (a c : UInt8) (h : ¬ c = 0) : ¬ a ^^^ c = a := fun e => h (Crc.xor_self_zero a c e.symm)
/-- A row of bytes, its byte k turned by c. -/
def turnL (l : List UInt8) (k : Nat) (c : UInt8) : List UInt8 := l.set k (l.getD k 0 ^^^ c)
def turnS (f : ByteArray) (k : Nat) (c : UInt8) : ByteArray := ⟨(turnL f.data.toList k c).toArray⟩
theorem list_turnS (f : ByteArray) (k : Nat) (c : UInt8) : (turnS f k c).data.toList = turnL f.data.toList k c := by unfold turnS; simp
theorem size_turnS (f : ByteArray) (k : Nat) (c : UInt8) : (turnS f k c).size = f.size := by
  rw [← Nor.size_list, list_turnS, ← Nor.size_list]
  unfold turnL
  rw [List.length_set]
theorem turn_ne (f : ByteArray) (k : Nat) (c : UInt8) (hk : k < f.size) (hc : ¬ c = 0) : ¬ turnS f k c = f := fun e => by
  have h := congrArg (fun x => x.data.toList[k]?) e
  have hl : k < f.data.toList.length := by rw [Nor.size_list]; exact hk
  simp only [list_turnS] at h
  unfold turnL at h
  rw [List.getElem?_set_self hl, List.getElem?_eq_getElem hl, List.getD_eq_getElem?_getD, List.getElem?_eq_getElem hl, Option.getD_some] at h
  exact xor_ne _ c hc (Option.some.inj h)
/-- The byte '1 + y' is none that leaves. -/
def oneMore (y : Nat) : UInt8 := UInt8.ofNat (1 + y)
theorem oneMore_nat (y : Nat) (h : y ≤ 127) : (1 + (y : Int)) = ((oneMore y).toNat : Int) := by
  unfold oneMore
  rw [UInt8.toNat_ofNat']
  omega
theorem oneMore_ne (y : Nat) (h : y ≤ 127) : ¬ oneMore y = 0 := fun e => by
  have := oneMore_nat y h
  rw [e, show (((0 : UInt8).toNat : Nat) : Int) = 0 from rfl] at this
  omega
end Go.Proofs.Ytddelbjnnkhgbaa.Tur
