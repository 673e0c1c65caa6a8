/- Numbers in bytes, the lowest first; a record's bytes and their complement, on lists and texts. No program is named here. -/
import Derived.Test.YthpoefaipmcceaaNorMath
import Derived.Test.YthpoefaipmcceaaBytes
namespace Go.Proofs.Ythpoefaipmcceaa.Ent
open Go.Proofs.Ythpoefaipmcceaa Go.Proofs.Ythpoefaipmcceaa.Bytes

def byteAt (x i : Nat) : UInt8 := UInt8.ofNat (x / 256 ^ i)
def lowL (x k : Nat) : List UInt8 := (List.range k).map (byteAt x)
def ofL : List UInt8 → Nat
  | [] => 0
  | b :: l => b.toNat + 256 * ofL l
theorem length_lowL (x k : Nat) : (lowL x k).length = k := by simp [lowL]
theorem lowL_succ (x k : Nat) : lowL x (k + 1) = lowL x k ++ [byteAt x k] := by unfold lowL; rw [List.range_succ, List.map_append]; rfl
theorem toNat_byteAt (x i : Nat) : (byteAt x i).toNat = x / 256 ^ i % 256 := by unfold byteAt; rw [UInt8.toNat_ofNat']
theorem ofL_append (l m : List UInt8) : ofL (l ++ m) = ofL l + 256 ^ l.length * ofL m := by
  induction l with
  | nil => simp [ofL]
  | cons b l ih =>
    show b.toNat + 256 * ofL (l ++ m) = b.toNat + 256 * ofL l + 256 ^ (l.length + 1) * ofL m
    rw [ih, Nat.pow_succ, Nat.mul_add, Nat.mul_comm (256 ^ l.length) 256, Nat.mul_assoc]
    omega
theorem ofL_lt (l : List UInt8) : ofL l < 256 ^ l.length := by
  induction l with
  | nil => simp [ofL]
  | cons b l ih =>
    show b.toNat + 256 * ofL l < 256 ^ (l.length + 1)
    have := b.toNat_lt
    rw [Nat.pow_succ]
    omega
theorem of_low (x k : Nat) : ofL (lowL x k) = x % 256 ^ k := by
  induction k with
  | zero => simp [lowL, ofL, Nat.mod_one]
  | succ k ih =>
    rw [lowL_succ, ofL_append, ih, length_lowL]
    show _ + _ * ((byteAt x k).toNat + 256 * 0) = _
    rw [toNat_byteAt, Nat.mul_zero, Nat.add_zero, Nat.pow_succ, Nat.mod_mul]
theorem of_low_lt {x k : Nat} (h : x < 256 ^ k) : ofL (lowL x k) = x := by rw [of_low, Nat.mod_eq_of_lt h]

def compL (l : List UInt8) : List UInt8 := l.map (fun b => ~~~b)
theorem length_compL (l : List UInt8) : (compL l).length = l.length := by simp [compL]
def headL (q t z m : Nat) : List UInt8 := lowL q 4 ++ lowL t 1 ++ [0] ++ lowL z 2 ++ lowL m 4
theorem length_headL (q t z m : Nat) : (headL q t z m).length = 12 := by simp [headL, length_lowL]
def putL (q t z m : Nat) : List UInt8 := headL q t z m ++ compL (headL q t z m)
theorem length_putL (q t z m : Nat) : (putL q t z m).length = 24 := by simp [putL, length_compL, length_headL]

def recMay (q t z m : Int) : Bool := decide (1 ≤ q ∧ q ≤ 1048576 ∧ 0 ≤ t ∧ t ≤ 1 ∧ 1 ≤ z ∧ z ≤ 288 ∧ 0 ≤ m ∧ m ≤ 4294967295)
theorem recMay_parts {q t z m : Int} : recMay q t z m = true ↔ 1 ≤ q ∧ q ≤ 1048576 ∧ 0 ≤ t ∧ t ≤ 1 ∧ 1 ≤ z ∧ z ≤ 288 ∧ 0 ≤ m ∧ m ≤ 4294967295 := by unfold recMay; exact decide_eq_true_iff
def errE (ok : Bool) : Int := if ok then 0 else 400
theorem errE_t {ok : Bool} (h : ok = true) : errE ok = 0 := by rw [h]; rfl
theorem errE_f {ok : Bool} (h : ok = false) : errE ok = 400 := by rw [h]; rfl
def putS (q t z m : Int) : ByteArray := if recMay q t z m then ⟨(putL q.toNat t.toNat z.toNat m.toNat).toArray⟩ else ⟨#[]⟩
theorem putS_ok {q t z m : Int} (h : recMay q t z m = true) : putS q t z m = ⟨(putL q.toNat t.toNat z.toNat m.toNat).toArray⟩ := by unfold putS; rw [if_pos h]
theorem putS_no {q t z m : Int} (h : recMay q t z m = false) : putS q t z m = ⟨#[]⟩ := by unfold putS; rw [h]; rfl
theorem list_putS {q t z m : Int} (h : recMay q t z m = true) : (putS q t z m).data.toList = putL q.toNat t.toNat z.toNat m.toNat := by rw [putS_ok h]
theorem size_putS {q t z m : Int} (h : recMay q t z m = true) : (putS q t z m).size = 24 := by
  rw [← Nor.size_list, list_putS h, length_putL]

def fq (l : List UInt8) : Nat := ofL (l.take 4)
def ft (l : List UInt8) : Nat := ofL ((l.drop 4).take 1)
def fz (l : List UInt8) : Nat := ofL ((l.drop 6).take 2)
def fm (l : List UInt8) : Nat := ofL ((l.drop 8).take 4)
def getOk (s : ByteArray) : Bool := decide (s.size = 24 ∧ recMay (fq s.data.toList) (ft s.data.toList) (fz s.data.toList) (fm s.data.toList) = true ∧ putL (fq s.data.toList) (ft s.data.toList) (fz s.data.toList) (fm s.data.toList) = s.data.toList)
theorem getOk_parts {s : ByteArray} : getOk s = true ↔ s.size = 24 ∧ recMay (fq s.data.toList) (ft s.data.toList) (fz s.data.toList) (fm s.data.toList) = true ∧ putL (fq s.data.toList) (ft s.data.toList) (fz s.data.toList) (fm s.data.toList) = s.data.toList := by unfold getOk; exact decide_eq_true_iff
def gq (s : ByteArray) : Int := if getOk s then (fq s.data.toList : Int) else 0
def gt (s : ByteArray) : Int := if getOk s then (ft s.data.toList : Int) else 0
def gz (s : ByteArray) : Int := if getOk s then (fz s.data.toList : Int) else 0
def gm (s : ByteArray) : Int := if getOk s then (fm s.data.toList : Int) else 0
theorem get_no {s : ByteArray} (h : getOk s = false) : gq s = 0 ∧ gt s = 0 ∧ gz s = 0 ∧ gm s = 0 := by
  unfold gq gt gz gm
  rw [h]
  exact ⟨rfl, rfl, rfl, rfl⟩
theorem get_ok {s : ByteArray} (h : getOk s = true) : gq s = (fq s.data.toList : Int) ∧ gt s = (ft s.data.toList : Int) ∧ gz s = (fz s.data.toList : Int) ∧ gm s = (fm s.data.toList : Int) := by
  unfold gq gt gz gm
  rw [h]
  exact ⟨rfl, rfl, rfl, rfl⟩
/-- What is got, put, is the text. -/
theorem put_get {s : ByteArray} (h : getOk s = true) : recMay (gq s) (gt s) (gz s) (gm s) = true ∧ putS (gq s) (gt s) (gz s) (gm s) = s := by
  obtain ⟨e1, e2, e3, e4⟩ := get_ok h
  obtain ⟨_, h2, h3⟩ := getOk_parts.1 h
  rw [e1, e2, e3, e4]
  refine ⟨h2, ba_ext ?_⟩
  rw [list_putS h2]
  exact h3
theorem fields (q t z m : Nat) (rest : List UInt8) (hq : q < 256 ^ 4) (ht : t < 256 ^ 1) (hz : z < 256 ^ 2) (hm : m < 256 ^ 4) :
    fq (headL q t z m ++ rest) = q ∧ ft (headL q t z m ++ rest) = t ∧ fz (headL q t z m ++ rest) = z ∧ fm (headL q t z m ++ rest) = m := by
  have lq := length_lowL q 4
  have lt := length_lowL t 1
  have lz := length_lowL z 2
  have lm := length_lowL m 4
  have eq := of_low_lt hq
  have et := of_low_lt ht
  have ez := of_low_lt hz
  have em := of_low_lt hm
  unfold fq ft fz fm headL
  generalize lowL q 4 = A at *
  generalize lowL t 1 = B at *
  generalize lowL z 2 = C at *
  generalize lowL m 4 = D at *
  match A, B, C, D, lq, lt, lz, lm with
  | [_, _, _, _], [_], [_, _], [_, _, _, _], _, _, _, _ => exact ⟨eq, et, ez, em⟩
/-- What is put, got, is the record. -/
theorem get_put {q t z m : Int} (h : recMay q t z m = true) : getOk (putS q t z m) = true ∧ gq (putS q t z m) = q ∧ gt (putS q t z m) = t ∧ gz (putS q t z m) = z ∧ gm (putS q t z m) = m := by
  have hp := recMay_parts.1 h
  have e := list_putS h
  obtain ⟨e1, e2, e3, e4⟩ := fields q.toNat t.toNat z.toNat m.toNat (compL (headL q.toNat t.toNat z.toNat m.toNat)) (by omega) (by omega) (by omega) (by omega)
  have c1 : (q.toNat : Int) = q := by omega
  have c2 : (t.toNat : Int) = t := by omega
  have c3 : (z.toNat : Int) = z := by omega
  have c4 : (m.toNat : Int) = m := by omega
  have e5 : putL q.toNat t.toNat z.toNat m.toNat = headL q.toNat t.toNat z.toNat m.toNat ++ compL (headL q.toNat t.toNat z.toNat m.toNat) := rfl
  have hok : getOk (putS q t z m) = true := by
    rw [getOk_parts, e]
    refine ⟨size_putS h, ?_, ?_⟩
    · rw [e5, e1, e2, e3, e4, c1, c2, c3, c4]; exact h
    · rw [e5, e1, e2, e3, e4]; exact e5
  obtain ⟨g1, g2, g3, g4⟩ := get_ok hok
  rw [g1, g2, g3, g4, e, e5, e1, e2, e3, e4]
  exact ⟨hok, c1, c2, c3, c4⟩
/-- Unlike records have unlike bytes. -/
theorem put_inj {q t z m q' t' z' m' : Int} (h : recMay q t z m = true) (h' : recMay q' t' z' m' = true) (e : putS q t z m = putS q' t' z' m') : q = q' ∧ t = t' ∧ z = z' ∧ m = m' := by
  obtain ⟨_, a1, a2, a3, a4⟩ := get_put h
  obtain ⟨_, b1, b2, b3, b4⟩ := get_put h'
  rw [e] at a1 a2 a3 a4
  exact ⟨a1.symm.trans b1, a2.symm.trans b2, a3.symm.trans b3, a4.symm.trans b4⟩

/-- Each byte of the second half is the first one's complement. -/
theorem comp_of (l : List UInt8) (i : Nat) (h : i < l.length) : (l ++ compL l)[i + l.length]? = ((l ++ compL l)[i]?).map (fun b => ~~~b) := by
  rw [List.getElem?_append_right (by omega), List.getElem?_append_left h, show i + l.length - l.length = i from by omega]
  simp [compL]
theorem comp_putL (q t z m i : Nat) (h : i < 12) : (putL q t z m)[i + 12]? = ((putL q t z m)[i]?).map (fun b => ~~~b) := by
  have := comp_of (headL q t z m) i (by rw [length_headL]; exact h)
  rw [length_headL] at this
  exact this
theorem comp_get {s : ByteArray} (h : getOk s = true) (i : Nat) (hi : i < 12) (h1 : i < s.size) (h2 : i + 12 < s.size) : s[i + 12] = ~~~s[i] := by
  obtain ⟨_, _, e⟩ := getOk_parts.1 h
  have := comp_putL (fq s.data.toList) (ft s.data.toList) (fz s.data.toList) (fm s.data.toList) i hi
  rw [e, Nor.ba_get _ _ h1, Nor.ba_get _ _ h2] at this
  exact Option.some.inj this
theorem xor_comp (b : UInt8) : b ^^^ ~~~b = 255 := by
  have h : ∀ n : Fin 256, UInt8.ofNat n.val ^^^ ~~~(UInt8.ofNat n.val) = 255 := by decide +kernel
  have := h ⟨b.toNat, b.toNat_lt⟩
  simpa only [UInt8.ofNat_toNat] using this
/-- A text that has at least the bits of a record's bytes, and is one, is that record's. -/
theorem over_byte (a b : UInt8) (h1 : a &&& b = b) (h2 : (~~~a) &&& (~~~b) = ~~~b) : a = b := by
  apply UInt8.toBitVec_inj.1
  have h1' := congrArg UInt8.toBitVec h1
  have h2' := congrArg UInt8.toBitVec h2
  simp only [UInt8.toBitVec_and, UInt8.toBitVec_not] at h1' h2'
  ext i hi
  have k1 := congrArg (fun x => x.getLsbD i) h1'
  have k2 := congrArg (fun x => x.getLsbD i) h2'
  simp [hi] at k1 k2
  cases ha : a.toBitVec[i] <;> cases hb : b.toBitVec[i] <;> simp_all
theorem only_itself {s m : ByteArray} (hs : getOk s = true) (hm : getOk m = true) (h : ∀ i (h1 : i < s.size) (h2 : i < m.size), m[i] &&& s[i] = s[i]) : m = s := by
  have zs := (getOk_parts.1 hs).1
  have zm := (getOk_parts.1 hm).1
  have low : ∀ i, i < 12 → ∀ (h1 : i < s.size) (h2 : i < m.size), m[i] = s[i] := fun i hi h1 h2 => by
    have a := h i h1 h2
    have b := h (i + 12) (by omega) (by omega)
    rw [comp_get hs i hi h1 (by omega), comp_get hm i hi h2 (by omega)] at b
    exact over_byte _ _ a b
  apply ByteArray.ext_getElem (by omega)
  intro i h2 h1
  by_cases hi : i < 12
  · exact low i hi h1 h2
  · obtain ⟨j, rfl⟩ : ∃ j, i = j + 12 := ⟨i - 12, by omega⟩
    rw [comp_get hs j (by omega) (by omega) h1, comp_get hm j (by omega) (by omega) h2, low j (by omega) (by omega) (by omega)]
/-- One byte turned: no record. -/
theorem turned {s m : ByteArray} (hs : getOk s = true) (hz : m.size = s.size) (k : Nat) (hk : k < s.size) (hk' : k < m.size) (hne : m[k] ≠ s[k]) (h : ∀ i (h1 : i < s.size) (h2 : i < m.size), i ≠ k → m[i] = s[i]) : getOk m = false := by
  cases hm : getOk m with
  | false => rfl
  | true =>
    exfalso
    have zs := (getOk_parts.1 hs).1
    by_cases hi : k < 12
    · have a := comp_get hs k hi (by omega) (by omega)
      have b := comp_get hm k hi (by omega) (by omega)
      rw [h (k + 12) (by omega) (by omega) (by omega), a] at b
      apply hne
      have := congrArg (fun x => ~~~x) b
      simpa using this.symm
    · obtain ⟨j, rfl⟩ : ∃ j, k = j + 12 := ⟨k - 12, by omega⟩
      have a := comp_get hs j (by omega) (by omega) (by omega)
      have b := comp_get hm j (by omega) (by omega) (by omega)
      rw [h j (by omega) (by omega) (by omega), ← a] at b
      exact hne b
end Go.Proofs.Ythpoefaipmcceaa.Ent
