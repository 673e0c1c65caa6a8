/- A flash of which one byte is turned: its images, and their sums. No program is named here. -/
import Derived.Test.YthpoefaipmcceaaImgHeld
namespace Go.Proofs.Ythpoefaipmcceaa.Turn
open Go.Proofs.Ythpoefaipmcceaa Go.Proofs.Ythpoefaipmcceaa.Bytes Go.Proofs.Ythpoefaipmcceaa.Ent Go.Proofs.Ythpoefaipmcceaa.Ops Go.Proofs.Ythpoefaipmcceaa.Jou Go.Proofs.Ythpoefaipmcceaa.Act Go.Proofs.Ythpoefaipmcceaa.Held

theorem sum_set (l : List UInt8) (i : Nat) (h : i < l.length) (b : UInt8) (he : Crc.sum (l.set i b) = Crc.sum l) : b = l[i] := by
  have e1 : l.set i b = l.take i ++ b :: l.drop (i + 1) := by rw [List.set_eq_take_append_cons_drop, if_pos h]
  have e2 : l = l.take i ++ l[i] :: l.drop (i + 1) := by rw [← List.drop_eq_getElem_cons h, List.take_append_drop]
  have h1 : Crc.rest 4294967295 (l.set i b) = Crc.rest 4294967295 l := Crc.xor_inj_right _ _ 4294967295 he
  rw [e1] at h1
  generalize l[i] = a at *
  rw [e2, Crc.rest_append, Crc.rest_append, Crc.rest_cons, Crc.rest_cons] at h1
  have hr : Crc.rest 4294967295 (l.take i) < 4294967296 := Crc.rest_lt _ _ (by omega)
  have e3 : (l.take i ++ a :: l.drop (i + 1)).take i = l.take i := by
    rw [List.take_append_of_le_length (by rw [List.length_take]; omega), List.take_take, Nat.min_self]
  have e4 : (l.take i ++ a :: l.drop (i + 1)).drop (i + 1) = l.drop (i + 1) := by rw [← e2]
  rw [e3, e4] at h1
  have h2 := Crc.rest_inj _ _ _ (Crc.byte1_lt _ _ hr) (Crc.byte1_lt _ _ hr) h1
  have h3 := Crc.bitN_inj 8 _ _ (Crc.xor_lt _ _ hr (Crc.u8_lt b)) (Crc.xor_lt _ _ hr (Crc.u8_lt a)) h2
  have h4 : b.toNat = a.toNat := by
    rw [Nat.xor_comm, Nat.xor_comm _ a.toNat] at h3
    exact Crc.xor_inj_right _ _ _ h3
  exact UInt8.toNat_inj.1 h4
theorem xor_ne (a c : UInt8) (h : ¬ c = 0) : ¬ a ^^^ c = a := fun e => h (Crc.xor_self_zero a c e.symm)

/-- f, its byte k turned by c. -/
def turnL (l : List UInt8) (k : Nat) (c : UInt8) : List UInt8 := l.set k (l.getD k 0 ^^^ c)
def turnS (f : ByteArray) (k : Nat) (c : UInt8) : ByteArray := ⟨(turnL f.data.toList k c).toArray⟩
theorem list_turnS (f : ByteArray) (k : Nat) (c : UInt8) : (turnS f k c).data.toList = turnL f.data.toList k c := by unfold turnS; simp
theorem size_turnS (f : ByteArray) (k : Nat) (c : UInt8) : (turnS f k c).size = f.size := by
  rw [← Nor.size_list, list_turnS, ← Nor.size_list]
  unfold turnL
  rw [List.length_set]
theorem cut_out (f : ByteArray) (k : Nat) (c : UInt8) (t z : Int) (h : k < 192 + 288 * t.toNat ∨ 192 + 288 * t.toNat + z.toNat ≤ k) : cutI (turnS f k c) t z = cutI f t z := by
  refine cut_eq fun i h1 h2 => ?_
  rw [list_turnS]
  unfold turnL
  rw [List.getElem?_set_ne (by omega)]
theorem cut_in (f : ByteArray) (k : Nat) (c : UInt8) (t z : Int) (h1 : 192 + 288 * t.toNat ≤ k) (h2 : k < 192 + 288 * t.toNat + z.toNat) : (cutI (turnS f k c) t z).data.toList = turnL (cutI f t z).data.toList (k - (192 + 288 * t.toNat)) c := by
  unfold cutI turnL
  generalize 192 + 288 * t.toNat = p at *
  rw [list_extract, list_extract, list_turnS]
  unfold turnL
  rw [List.drop_set, if_neg (by omega), List.take_set]
  congr 1
  congr 1
  rw [List.getD_eq_getElem?_getD, List.getD_eq_getElem?_getD, List.getElem?_take, if_pos (by omega), List.getElem?_drop, show p + (k - p) = k from by omega]
theorem sum_in (f : ByteArray) (k : Nat) (c : UInt8) (hc : ¬ c = 0) (t z : Int) (h1 : 192 + 288 * t.toNat ≤ k) (h2 : k < 192 + 288 * t.toNat + z.toNat) (h3 : 192 + 288 * t.toNat + z.toNat ≤ f.size) : ¬ sumI (turnS f k c) t z = sumI f t z := by
  unfold sumI
  intro he
  have he := Int.ofNat_inj.1 he
  rw [cut_in f k c t z h1 h2] at he
  have hl : k - (192 + 288 * t.toNat) < (cutI f t z).data.toList.length := by
    rw [Nor.size_list]
    unfold cutI
    rw [ByteArray.size_extract]
    omega
  have := sum_set _ _ hl _ he
  rw [List.getD_eq_getElem?_getD, List.getElem?_eq_getElem hl, Option.getD_some] at this
  exact xor_ne _ c hc this
theorem cut_ne (f : ByteArray) (k : Nat) (c : UInt8) (hc : ¬ c = 0) (t z : Int) (h1 : 192 + 288 * t.toNat ≤ k) (h2 : k < 192 + 288 * t.toNat + z.toNat) (h3 : 192 + 288 * t.toNat + z.toNat ≤ f.size) : ¬ cutI (turnS f k c) t z = cutI f t z := fun e => sum_in f k c hc t z h1 h2 h3 (by unfold sumI; rw [e])
theorem imgOk_turn (f : ByteArray) (k : Nat) (c : UInt8) (q t z m : Int) : imgOk (turnS f k c) q t z m = imgOk f q t z m := by
  unfold imgOk mayF
  rw [size_turnS]
/-- The byte '1 + y' is none that leaves. -/
def oneMore (y : Nat) : UInt8 := UInt8.ofNat (1 + y)
theorem oneMore_nat (y : Nat) (h : y ≤ 127) : (1 + (y : Int)) = ((oneMore y).toNat : Int) := by
  unfold oneMore
  rw [UInt8.toNat_ofNat']
  omega
theorem oneMore_ne (y : Nat) (h : y ≤ 127) : ¬ oneMore y = 0 := fun e => by
  have := oneMore_nat y h
  rw [e, show (((0 : UInt8).toNat : Nat) : Int) = 0 from rfl] at this
  omega
end Go.Proofs.Ythpoefaipmcceaa.Turn
