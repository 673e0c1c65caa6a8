/- Numbers in bytes, the lowest first; a record's bytes and their complement, on lists and texts. No program is named here. -/
import Derived.Test.YtgkmallikomnaaaBagNor
import Derived.Laws.IdiomCopy
import Derived.Laws.AppendOwn
import Derived.Deep.AppendLies
import Derived.Deep.RegionWith
import Derived.Deep.DrawnRows
import Derived.Deep.RegionHeld3
import Derived.Laws.Closers25
import Derived.Laws.Tables
namespace Go.Proofs.Ytgkmallikomnaaa.Ent
open Go.Proofs.Ytgkmallikomnaaa Go.Proofs.Ytgkmallikomnaaa.Bytes

def byteAt (x i : Nat) : UInt8 := UInt8.ofNat (x / 256 ^ i)
def lowL (x k : Nat) : List UInt8 := (List.range k).map (byteAt x)
def ofL : List UInt8 → Nat
  | [] => 0
  | b :: l => b.toNat + 256 * ofL l
theorem length_lowL (x k : Nat) : (lowL x k).length = k := by simp [lowL]
theorem lowL_succ (x k : Nat) : lowL x (k + 1) = lowL x k ++ [byteAt x k] := by unfold lowL; rw [List.range_succ, List.map_append]; rfl
theorem toNat_byteAt (x i : Nat) : (byteAt x i).toNat = x / 256 ^ i % 256 := by unfold byteAt; rw [UInt8.toNat_ofNat']
theorem ofL_append (l m : List UInt8) : ofL (l ++ m) = ofL l + 256 ^ l.length * ofL m := by
  induction l with
  | nil => simp [ofL]
  | cons b l ih =>
    show b.toNat + 256 * ofL (l ++ m) = b.toNat + 256 * ofL l + 256 ^ (l.length + 1) * ofL m
    rw [ih, Nat.pow_succ, Nat.mul_add, Nat.mul_comm (256 ^ l.length) 256, Nat.mul_assoc]
    omega
theorem ofL_lt (l : List UInt8) : ofL l < 256 ^ l.length := by
  induction l with
  | nil => simp [ofL]
  | cons b l ih =>
    show b.toNat + 256 * ofL l < 256 ^ (l.length + 1)
    have := b.toNat_lt
    rw [Nat.pow_succ]
    omega
theorem of_low (x k : Nat) : ofL (lowL x k) = x % 256 ^ k := by
  induction k with
  | zero => simp [lowL, ofL, Nat.mod_one]
  | succ k ih =>
    rw [lowL_succ, ofL_append, ih, length_lowL]
    show _ + _ * ((byteAt x k).toNat + 256 * 0) = _
    rw [toNat_byteAt, Nat.mul_zero, Nat.add_zero, Nat.pow_succ, Nat.mod_mul]
theorem of_low_lt {x k : Nat} (h : x < 256 ^ k) : ofL (lowL x k) = x := by rw [of_low, Nat.mod_eq_of_lt h]

def compL (l : List UInt8) : List UInt8 := l.map (fun b => ~~~b)
theorem length_compL (l : List UInt8) : (compL l).length = l.length := by simp [compL]
def headL (q t z m : Nat) : List UInt8 := lowL q 4 ++ lowL t 1 ++ [0] ++ lowL z 2 ++ lowL m 4
theorem length_headL (q t z m : Nat) : (headL q t z m).length = 12 := by simp [headL, length_lowL]
def putL (q t z m : Nat) : List UInt8 := headL q t z m ++ compL (headL q t z m)
theorem length_putL (q t z m : Nat) : (putL q t z m).length = 24 := by simp [putL, length_compL, length_headL]

def recMay (q t z m : Int) : Bool := decide (1 ≤ q ∧ q ≤ 1048576 ∧ 0 ≤ t ∧ t ≤ 1 ∧ 1 ≤ z ∧ z ≤ 288 ∧ 0 ≤ m ∧ m ≤ 4294967295)
theorem recMay_parts {q t z m : Int} : recMay q t z m = true ↔ 1 ≤ q ∧ q ≤ 1048576 ∧ 0 ≤ t ∧ t ≤ 1 ∧ 1 ≤ z ∧ z ≤ 288 ∧ 0 ≤ m ∧ m ≤ 4294967295 := by unfold recMay; exact decide_eq_true_iff
def errE (ok : Bool) : Int := if ok then 0 else 400
theorem errE_t {ok : Bool} (h : ok = true) : errE ok = 0 := by rw [h]; rfl
theorem errE_f {ok : Bool} (h : ok = false) : errE ok = 400 := by rw [h]; rfl
def putS (q t z m : Int) : ByteArray := if recMay q t z m then ⟨(putL q.toNat t.toNat z.toNat m.toNat).toArray⟩ else ⟨#[]⟩
theorem putS_ok {q t z m : Int} (h : recMay q t z m = true) : putS q t z m = ⟨(putL q.toNat t.toNat z.toNat m.toNat).toArray⟩ := by unfold putS; rw [if_pos h]
theorem putS_no {q t z m : Int} (h : recMay q t z m = false) : putS q t z m = ⟨#[]⟩ := by unfold putS; rw [h]; rfl
theorem list_putS {q t z m : Int} (h : recMay q t z m = true) : (putS q t z m).data.toList = putL q.toNat t.toNat z.toNat m.toNat := by rw [putS_ok h]
theorem size_putS {q t z m : Int} (h : recMay q t z m = true) : (putS q t z m).size = 24 := by
  rw [← Nor.size_list, list_putS h, length_putL]

def fq (l : List UInt8) : Nat := ofL (l.take 4)
def ft (l : List UInt8) : Nat := ofL ((l.drop 4).take 1)
def fz (l : List UInt8) : Nat := ofL ((l.drop 6).take 2)
def fm (l : List UInt8) : Nat := ofL ((l.drop 8).take 4)
def getOk (s : ByteArray) : Bool := decide (s.size = 24 ∧ recMay (fq s.data.toList) (ft s.data.toList) (fz s.data.toList) (fm s.data.toList) = true ∧ putL (fq s.data.toList) (ft s.data.toList) (fz s.data.toList) (fm s.data.toList) = s.data.toList)
theorem getOk_parts {s : ByteArray} : getOk s = true ↔ s.size = 24 ∧ recMay (fq s.data.toList) (ft s.data.toList) (fz s.data.toList) (fm s.data.toList) = true ∧ putL (fq s.data.toList) (ft s.data.toList) (fz s.data.toList) (fm s.data.toList) = s.data.toList := by unfold getOk; exact decide_eq_true_iff
def gq (s : ByteArray) : Int := if getOk s then (fq s.data.toList : Int) else 0
def gt (s : ByteArray) : Int := if getOk s then (ft s.data.toList : Int) else 0
def gz (s : ByteArray) : Int := if getOk s then (fz s.data.toList : Int) else 0
def gm (s : ByteArray) : Int := if getOk s then (fm s.data.toList : Int) else 0
theorem get_no {s : ByteArray} (h : getOk s = false) : gq s = 0 ∧ gt s = 0 ∧ gz s = 0 ∧ gm s = 0 := by
  unfold gq gt gz gm
  rw [h]
  exact ⟨rfl, rfl, rfl, rfl⟩
theorem get_ok {s : ByteArray} (h : getOk s = true) : gq s = (fq s.data.toList : Int) ∧ gt s = (ft s.data.toList : Int) ∧ gz s = (fz s.data.toList : Int) ∧ gm s = (fm s.data.toList : Int) := by
  unfold gq gt gz gm
  rw [h]
  exact ⟨rfl, rfl, rfl, rfl⟩
/-- What is got, put, is the text. -/
theorem put_get {s : ByteArray} (h : getOk s = true) : recMay (gq s) (gt s) (gz s) (gm s) = true ∧ putS (gq s) (gt s) (gz s) (gm s) = s := by
  obtain ⟨e1, e2, e3, e4⟩ := get_ok h
  obtain ⟨_, h2, h3⟩ := getOk_parts.1 h
  rw [e1, e2, e3, e4]
  refine ⟨h2, ba_ext ?_⟩
  rw [list_putS h2]
  exact h3
theorem fields (q t z m : Nat) (rest : List UInt8) (hq : q < 256 ^ 4) (ht : t < 256 ^ 1) (hz : z < 256 ^ 2) (hm : m < 256 ^ 4) :
    fq (headL q t z m ++ rest) = q ∧ ft (headL q t z m ++ rest) = t ∧ fz (headL q t z m ++ rest) = z ∧ fm (headL q t z m ++ rest) = m := by
  have lq := length_lowL q 4
  have lt := length_lowL t 1
  have lz := length_lowL z 2
  have lm := length_lowL m 4
  have eq := of_low_lt hq
  have et := of_low_lt ht
  have ez := of_low_lt hz
  have em := of_low_lt hm
  unfold fq ft fz fm headL
  generalize lowL q 4 = A at *
  generalize lowL t 1 = B at *
  generalize lowL z 2 = C at *
  generalize lowL m 4 = D at *
  match A, B, C, D, lq, lt, lz, lm with
  | [_, _, _, _], [_], [_, _], [_, _, _, _], _, _, _, _ => exact ⟨eq, et, ez, em⟩
/-- What is put, got, is the record. -/
theorem get_put {q t z m : Int} (h : recMay q t z m = true) : getOk (putS q t z m) = true ∧ gq (putS q t z m) = q ∧ gt (putS q t z m) = t ∧ gz (putS q t z m) = z ∧ gm (putS q t z m) = m := by
  have hp := recMay_parts.1 h
  have e := list_putS h
  obtain ⟨e1, e2, e3, e4⟩ := fields q.toNat t.toNat z.toNat m.toNat (compL (headL q.toNat t.toNat z.toNat m.toNat)) (by omega) (by omega) (by omega) (by omega)
  have c1 : (q.toNat : Int) = q := by omega
  have c2 : (t.toNat : Int) = t := by omega
  have c3 : (z.toNat : Int) = z := by omega
  have c4 : (m.toNat : Int) = m := by omega
  have e5 : putL q.toNat t.toNat z.toNat m.toNat = headL q.toNat t.toNat z.toNat m.toNat ++ compL (headL q.toNat t.toNat z.toNat m.toNat) := rfl
  have hok : getOk (putS q t z m) = true := by
    rw [getOk_parts, e]
    refine ⟨size_putS h, ?_, ?_⟩
    · rw [e5, e1, e2, e3, e4, c1, c2, c3, c4]; exact h
    · rw [e5, e1, e2, e3, e4]; exact e5
  obtain ⟨g1, g2, g3, g4⟩ := get_ok hok
  rw [g1, g2, g3, g4, e, e5, e1, e2, e3, e4]
  exact ⟨hok, c1, c2, c3, c4⟩
/-- Unlike records have unlike bytes. -/
theorem put_inj {q t z m q' t' z' m' : Int} (h : recMay q t z m = true) (h' : recMay q' t' z' m' = true) (e : putS q t z m = putS q' t' z' m') : q = q' ∧ t = t' ∧ z = z' ∧ m = m' := by
  obtain ⟨_, a1, a2, a3, a4⟩ := get_put h
  obtain ⟨_, b1, b2, b3, b4⟩ := get_put h'
  rw [e] at a1 a2 a3 a4
  exact ⟨a1.symm.trans b1, a2.symm.trans b2, a3.symm.trans b3, a4.symm.trans b4⟩

/-- Each byte of the second half is the first one's complement. -/
theorem comp_of (l : List UInt8) (i : Nat) (h : i < l.length) : (l ++ compL l)[i + l.length]? = ((l ++ compL l)[i]?).map (fun b => ~~~b) := by
  rw [List.getElem?_append_right (by omega), List.getElem?_append_left h, show i + l.length - l.length = i from by omega]
  simp [compL]
theorem comp_putL (q t z m i : Nat) (h : i < 12) : (putL q t z m)[i + 12]? = ((putL q t z m)[i]?).map (fun b => ~~~b) := by
  have := comp_of (headL q t z m) i (by rw [length_headL]; exact h)
  rw [length_headL] at this
  exact this
theorem comp_get {s : ByteArray} (h : getOk s = true) (i : Nat) (hi : i < 12) (h1 : i < s.size) (h2 : i + 12 < s.size) : s[i + 12] = ~~~s[i] := by
  obtain ⟨_, _, e⟩ := getOk_parts.1 h
  have := comp_putL (fq s.data.toList) (ft s.data.toList) (fz s.data.toList) (fm s.data.toList) i hi
  rw [e, Nor.ba_get _ _ h1, Nor.ba_get _ _ h2] at this
  exact Option.some.inj this
theorem xor_comp (b : UInt8) : b ^^^ ~~~b = 255 := by
  have h : ∀ n : Fin 256, UInt8.ofNat n.val ^^^ ~~~(UInt8.ofNat n.val) = 255 := by decide +kernel
  have := h ⟨b.toNat, b.toNat_lt⟩
  simpa only [UInt8.ofNat_toNat] using this
/-- A text that has at least the bits of a record's bytes, and is one, is that record's. -/
theorem over_byte (a b : UInt8) (h1 : a &&& b = b) (h2 : (~~~a) &&& (~~~b) = ~~~b) : a = b := by
  apply UInt8.toBitVec_inj.1
  have h1' := congrArg UInt8.toBitVec h1
  have h2' := congrArg UInt8.toBitVec h2
  simp only [UInt8.toBitVec_and, UInt8.toBitVec_not] at h1' h2'
  ext i hi
  have k1 := congrArg (fun x => x.getLsbD i) h1'
  have k2 := congrArg (fun x => x.getLsbD i) h2'
  simp [hi] at k1 k2
  cases ha : a.toBitVec[i] <;> cases hb : b.toBitVec[i] <;> simp_all
theorem only_itself {s m : ByteArray} (hs : getOk s = true) (hm : getOk m = true) (h : ∀ i (h1 : i < s.size) (h2 : i < m.size), m[i] &&& s[i] = s[i]) : m = s := by
  have zs := (getOk_parts.1 hs).1
  have zm := (getOk_parts.1 hm).1
  have low : ∀ i, i < 12 → ∀ (h1 : i < s.size) (h2 : i < m.size), m[i] = s[i] := fun i hi h1 h2 => by
    have a := h i h1 h2
    have b := h (i + 12) (by omega) (by omega)
    rw [comp_get hs i hi h1 (by omega), comp_get hm i hi h2 (by omega)] at b
    exact over_byte _ _ a b
  apply ByteArray.ext_getElem (by omega)
  intro i h2 h1
  by_cases hi : i < 12
  · exact low i hi h1 h2
  · obtain ⟨j, rfl⟩ : ∃ j, i = j + 12 := ⟨i - 12, by omega⟩
    rw [comp_get hs j (by omega) (by omega) h1, comp_get hm j (by omega) (by omega) h2, low j (by omega) (by omega) (by omega)]
/-- One byte turned: no record. -/
theorem turned {s m : ByteArray} (hs : getOk s = true) (hz : m.size = s.size) (k : Nat) (hk : k < s.size) (hk' : k < m.size) (hne : m[k] ≠ s[k]) (h : ∀ i (h1 : i < s.size) (h2 : i < m.size), i ≠ k → m[i] = s[i]) : getOk m = false := by
  cases hm : getOk m with
  | false => rfl
  | true =>
    exfalso
    have zs := (getOk_parts.1 hs).1
    by_cases hi : k < 12
    · have a := comp_get hs k hi (by omega) (by omega)
      have b := comp_get hm k hi (by omega) (by omega)
      rw [h (k + 12) (by omega) (by omega) (by omega), a] at b
      apply hne
      have := congrArg (fun x => ~~~x) b
      simpa using this.symm
    · obtain ⟨j, rfl⟩ : ∃ j, k = j + 12 := ⟨k - 12, by omega⟩
      have a := comp_get hs j (by omega) (by omega) (by omega)
      have b := comp_get hm j (by omega) (by omega) (by omega)
      rw [h j (by omega) (by omega) (by omega), ← a] at b
      exact hne b
end Go.Proofs.Ytgkmallikomnaaa.Ent

/- A row of bytes that grows by 'append', wherever it began (none yet, or '[]byte(s)'); a struct of four cells in a block of its own. No program is named here. -/
namespace Go.Proofs.Ytgkmallikomnaaa.EntRow
open Go.Proofs.Ytgkmallikomnaaa Go.RowKit Go.Proofs.Ytgkmallikomnaaa.Bytes

/-- How the walk says that two texts are unlike. -/
theorem text_ne {a b : ByteArray} (h : ¬ a = b) : (a.toList == b.toList) = false := by
  rw [beq_eq_false_iff_ne, ByteArray.toList_eq, ByteArray.toList_eq]
  exact fun e => h (ba_ext e)
/-- The bytes l lie in block g, which has room for cap of them; the room may be written. -/
structure BufAt (w : World) (base g cap : Nat) (l : List UInt8) : Prop where
  above : base ≤ g
  lt : g < w.heap.size
  fits : l.length ≤ cap
  max : cap ≤ maxLen
  row : Row w g l
  room : ∀ j, l.length ≤ j → j < cap → (w.cell? ⟨g, j, none⟩).isSome = true ∧ w.frozen? ⟨g, j, none⟩ = false
def Buf (w : World) (base : Nat) (v : Value) (l : List UInt8) : Prop := (v = .slice none 0 0 ∧ l = []) ∨ ∃ g cap, v = .slice (some ⟨g, 0, none⟩) l.length cap ∧ BufAt w base g cap l
theorem BufAt.below {w w' : World} {base g cap : Nat} {l : List UInt8} (h : BufAt w base g cap l) (hb : Below w.heap.size w w') : BufAt w' base g cap l :=
  ⟨h.above, Nat.lt_of_lt_of_le h.lt hb.size, h.fits, h.max, h.row.below hb h.lt, fun j h1 h2 => by rw [hb.cell (p := ⟨g, j, none⟩) h.lt, hb.frozen (p := ⟨g, j, none⟩) h.lt]; exact h.room j h1 h2⟩
theorem Buf.below {w w' : World} {base : Nat} {v : Value} {l : List UInt8} (h : Buf w base v l) (hb : Below w.heap.size w w') : Buf w' base v l := by
  rcases h with h | ⟨g, cap, h1, h2⟩
  · exact .inl h
  · exact .inr ⟨g, cap, h1, h2.below hb⟩
theorem Buf.alloc {w : World} {base : Nat} {v : Value} {l : List UInt8} (h : Buf w base v l) (o : Obj) : Buf (w.alloc o) base v l := h.below ((Below.refl _ _).alloc (Nat.le_refl _) o)
theorem buf_nil (w : World) (base : Nat) : Buf w base (.slice none 0 0) [] := .inl ⟨rfl, rfl⟩
def bytes1 (l : List UInt8) : List Value := l.map fun b => .int .u8 (b.toNat : Int)
theorem get_bytes1 (l : List UInt8) (j : Nat) : (bytes1 l)[j]? = l[j]?.map fun b => .int .u8 (b.toNat : Int) := by simp [bytes1]
theorem length_bytes1 (l : List UInt8) : (bytes1 l).length = l.length := by simp [bytes1]
theorem bufAt_of_cells {w : World} {base g cap : Nat} {e : TypeId} {fr : Nat × Nat} {cur : Array Value} {l : List UInt8} (hg : base ≤ g) (hb : w.heap[g]? = some (.cells cur e fr)) (hfr : ∀ j, j < cap → w.frozen? ⟨g, j, none⟩ = false) (h1 : l.length ≤ cap) (h2 : cap ≤ maxLen) (h3 : cap ≤ cur.size) (h4 : ∀ j, j < l.length → cur[j]? = (bytes1 l)[j]?) : BufAt w base g cap l := by
  have hc := fun j => cell_of_row w g j cur e fr hb
  refine ⟨hg, (Array.getElem?_eq_some_iff.1 hb).1, h1, h2, ⟨fun j hj => ?_, fun j hj => hfr j (by omega)⟩, fun j _ h6 => ⟨?_, hfr j h6⟩⟩
  · rw [hc j, h4 j hj, get_bytes1, List.getElem?_eq_getElem hj]
    rfl
  · rw [hc j, Array.getElem?_eq_getElem (by omega)]
    rfl
theorem bufAt_of_owns {w : World} {base : Nat} {e : TypeId} {g cap n : Nat} {l : List UInt8} (h : w.ownsRow base e 1 (.slice (some ⟨g, 0, none⟩) n cap) n (bytes1 l)) : BufAt w base g cap l := by
  have hn : l.length = n := by have := h.1; rw [length_bytes1] at this; omega
  have hfz := h.frozenAt
  rcases h.2 with ⟨h0, _⟩ | ⟨g', cap', cur, hv, hb, hc, h1, h2, h3, h4⟩
  · cases h0
  · simp only [Value.slice.injEq, Option.some.injEq, Addr.mk.injEq] at hv
    obtain ⟨⟨rfl, _, _⟩, _, rfl⟩ := hv
    refine bufAt_of_cells (fr := (0, 0)) hb hc (fun j _ => hfz j) (by omega) h2 (by omega) fun j hj => ?_
    rw [← h4, List.getElem?_take_of_lt (by omega), Array.getElem?_toList]
/-- '[]byte(s)'. -/
theorem buf_of_string (w : World) (base : Nat) (e : TypeId) (s : ByteArray) (cap : Nat) (hb : base ≤ w.heap.size) (hcap : s.size ≤ cap) (hmax : cap ≤ maxLen) : BufAt (w.alloc (.cells (bytesRow s cap) e ((bytesRow s cap).size, (bytesRow s cap).size + 1))) base w.heap.size cap s.data.toList := by
  have hs : (bytesRow s cap).size = cap := by
    have h1 : s.data.size = s.size := rfl
    unfold bytesRow
    rw [Array.size_append, Array.size_map, Array.size_replicate]
    omega
  have hl : s.data.toList.length = s.size := by rw [Array.length_toList]; rfl
  refine bufAt_of_cells hb (heap_alloc_new w _) (fun j hj => ?_) (by omega) hmax (by omega) fun j hj => ?_
  · rw [World.frozen?_alloc_mark, hs, decide_eq_false (by omega), Bool.false_and]
  · have hj' : j < s.data.size := by simpa using hj
    rw [bytesRow_at s cap j hj', get_bytes1, List.getElem?_eq_getElem hj]
    simp

/-- 'append(b, x)', x one byte: in its room, or in a new row. -/
theorem run_append_buf {P : Program} {w : World} {base : Nat} {t ty e : TypeId} {i : TypeInfo} (ht : P.underlying t = some (.slice e)) (hi : P.info? e = some i) (hz : i.zero = some (.int .u8 0)) (hs : i.size = 1) (hby : i.bytes = 1)
    {v : Value} {l : List UInt8} (hb : Buf w base v l) (hbase : base ≤ w.heap.size) (B c : Nat) (b : UInt8) (hn : w.cell? ⟨B, 0, none⟩ = some (.int .u8 (b.toNat : Int))) (hl : l.length + 1 ≤ 1000000) :
    ∃ g cap w', (Builtin.append_ #[t, t] ty #[v, .slice (some ⟨B, 0, none⟩) 1 c]).run P w = .ok (.slice (some ⟨g, 0, none⟩) (l.length + 1) cap) w' ∧ BufAt w' base g cap (l ++ [b]) ∧ Below base w w' := by
  have hnews : ∀ j u, ([Value.int .u8 (b.toNat : Int)] : List Value)[j]? = some u → w.cell? ((⟨B, 0, none⟩ : Addr).add j) = some u := by
    intro j u hu
    match j, hu with
    | 0, hu => simp at hu; subst hu; simpa [Addr.add] using hn
    | j + 1, hu => simp at hu
  have h1 : ∀ u ∈ ([Value.int .u8 (b.toNat : Int)] : List Value), u.oneCell' = true := by intro u hu; simp at hu; subst hu; rfl
  have hap : bytes1 (l ++ [b]) = bytes1 l ++ [.int .u8 (b.toNat : Int)] := by simp [bytes1]
  rcases hb with ⟨rfl, rfl⟩ | ⟨g, cap, rfl, hb⟩
  · obtain ⟨g, cap, w', hr, h2, h3, _, _⟩ := run_append_lies (P := P) w t ty base e i _ 1 1 ht hi hz hs hby rfl (by omega) (.slice none 0 0) 0 [] (World.ownsRow_nil w base e 1) ⟨B, 0, none⟩ 1 c _ rfl hnews h1 (by omega) (by simp [maxLen]) (by omega) hbase w.heap.size rfl
    exact ⟨g, cap, w', hr, bufAt_of_owns (l := [b]) h2, (Below.refl _ _).grown h3 hbase (fun k hk => by simp [Value.ownBlock] at hk)⟩
  · by_cases hroom : l.length + 1 ≤ cap
    · have hf := run_firstCells_some (P := P) w i.size 1 ⟨B, 0, none⟩ 1 c [.int .u8 (b.toNat : Int)] (by rw [hs]; rfl) hnews
      obtain ⟨r1, r2⟩ := hb.room l.length (Nat.le_refl _) (by omega)
      have hst := run_storeCells_cells (P := P) g (l.length * i.size) [.int .u8 (b.toNat : Int)] 0 w
        (fun j hj => by simp at hj; subst hj; rw [hs]; simpa using r1) (fun j hj => by simp at hj; subst hj; rw [hs]; simpa using r2) h1
      refine ⟨g, cap, w.setCell ⟨g, l.length, none⟩ (.int .u8 (b.toNat : Int)), ?_, ?_, (Below.refl _ _).setCell (p := ⟨g, l.length, none⟩) hb.above _⟩
      · rw [hs] at hf
        simp only [Nat.add_zero, hs, Nat.mul_one] at hst
        simp [Builtin.append_, run_underlying ht, sizeOf, typeInfo, hi, Builtin.lenOf, hroom, hf, Addr.add_lit, hst, hs]
        rfl
      · obtain ⟨u, hu⟩ := Option.isSome_iff_exists.1 r1
        refine ⟨hb.above, by simpa [World.setCell] using hb.lt, by simp; omega, hb.max, ⟨fun j hj => ?_, fun j hj => ?_⟩, fun j j1 j2 => ?_⟩
        · by_cases e : j < l.length
          · rw [World.cell?_setCell_other w _ _ _ (by intro hc; injection hc; omega), hb.row.cell j e, List.getElem_append_left e]
          · obtain rfl : j = l.length := by simp at hj; omega
            rw [World.cell?_setCell_same w _ _ hu]
            simp
        · rw [World.frozen?_setCell]
          by_cases e : j < l.length
          · exact hb.row.free j e
          · exact (hb.room j (by omega) (by simp at hj; omega)).2
        · simp at j1
          rw [World.frozen?_setCell, World.cell?_setCell_other w _ _ _ (by intro hc; injection hc; omega)]
          exact hb.room j (by omega) j2
    · have holds : ∀ j u, (bytes1 l)[j]? = some u → w.cell? ((⟨g, 0, none⟩ : Addr).add j) = some u := by
        intro j u hu
        have hj : j < l.length := by have := (List.getElem?_eq_some_iff.1 hu).1; rw [length_bytes1] at this; exact this
        rw [get_bytes1, List.getElem?_eq_getElem hj] at hu
        have hadd : (⟨g, 0, none⟩ : Addr).add j = ⟨g, j, none⟩ := by unfold Addr.add; split <;> simp_all
        rw [hadd, hb.row.cell j hj]
        exact hu
      have hr := run_append_grow (P := P) w t ty e i _ ht hi hz ⟨g, 0, none⟩ l.length cap (bytes1 l) (by rw [length_bytes1, hs]; omega) holds ⟨B, 0, none⟩ 1 c [.int .u8 (b.toNat : Int)] (by rw [hs]; rfl) hnews (by omega) (by omega) (growslice_fits (by omega) (by rw [hby]; omega))
      have hge := grownCap_ge w (l.length + 1) cap e
      have hcm : grownCap w (l.length + 1) cap e ≤ maxLen := grownCap_le_maxLen w (l.length + 1) cap e (by simp only [maxLen]; omega)
      refine ⟨_, _, _, hr, ?_, ?_⟩
      · refine bufAt_of_cells (fr := (0, 0)) hbase (heap_alloc_new w.drew _) (fun j _ => World.frozen?_alloc_at _ e _ j rfl) (by simp; omega) hcm ?_ fun j hj => ?_
        · rw [Array.size_append, Array.size_append, List.size_toArray, List.size_toArray, size_zeroCells, length_bytes1]
          simp only [Value.cells, List.length_cons, List.length_nil]
          simp
          omega
        · rw [hap, Array.getElem?_append_left (by simp [length_bytes1] at hj ⊢; omega)]
          simp
      · exact ((Below.refl _ _).drew).alloc (by simpa using hbase) _
theorem wpList_append_buf {P : Program} {w : World} {ops : Array Oper} {rest : List Oper} {o : Oper} {a : Act} {Q : Exit → Act → World → Prop} (hgd : o.guard = none) (s x : Operand) (t : TypeId)
    (ho : o.op = .call { callee := .builtin .append, args := #[s, x], argTypes := #[t, t] })
    (base : Nat) (e : TypeId) (i : TypeInfo) (ht : P.underlying t = some (.slice e)) (hi : P.info? e = some i) (hz : i.zero = some (.int .u8 0)) (hs : i.size = 1) (hby : i.bytes = 1)
    (v : Value) (l : List UInt8) (hv : a.eval s = v) (hb : Buf w base v l) (hbase : base ≤ w.heap.size) (B c : Nat) (b : UInt8) (hx : a.eval x = .slice (some ⟨B, 0, none⟩) 1 c) (hn : w.cell? ⟨B, 0, none⟩ = some (.int .u8 (b.toNat : Int))) (hl : l.length + 1 ≤ 1000000)
    (h : ∀ g cap w', BufAt w' base g cap (l ++ [b]) → Below base w w' → wpList P ops Q rest (a.put o.dst (.slice (some ⟨g, 0, none⟩) (l.length + 1) cap)) w') : wpList P ops Q (o :: rest) a w := by
  refine wpList_plain hgd fun K hK => ?_
  obtain ⟨g, cap, w', hr, h2, h3⟩ := run_append_buf (P := P) (ty := o.type) ht hi hz hs hby hb hbase B c b hn hl
  unfold Oper.wp execOp
  simp only [ho, resolve, invoke, builtin, Sem.run_bind, Sem.run_pure, Result.andThen_ok, List.map_toArray, List.map_cons, List.map_nil, hv, hx, hr]
  exact hK _ _ (h g cap w' h2 h3)

/-- A struct of four cells in a block of its own, and behind a call that leaves what was there. -/
theorem boxB {w w' : World} {B : Nat} {x y z u : Value} (h : B < w.heap.size ∧ w.cell? ⟨B, 0, none⟩ = some x ∧ w.cell? ⟨B, 1, none⟩ = some y ∧ w.cell? ⟨B, 2, none⟩ = some z ∧ w.cell? ⟨B, 3, none⟩ = some u) (hb : Below w.heap.size w w') :
    B < w'.heap.size ∧ w'.cell? ⟨B, 0, none⟩ = some x ∧ w'.cell? ⟨B, 1, none⟩ = some y ∧ w'.cell? ⟨B, 2, none⟩ = some z ∧ w'.cell? ⟨B, 3, none⟩ = some u := by
  obtain ⟨h0, h1, h2, h3, h4⟩ := h
  exact ⟨Nat.lt_of_lt_of_le h0 hb.size, by rw [hb.cell (p := ⟨B, 0, none⟩) h0]; exact h1, by rw [hb.cell (p := ⟨B, 1, none⟩) h0]; exact h2, by rw [hb.cell (p := ⟨B, 2, none⟩) h0]; exact h3, by rw [hb.cell (p := ⟨B, 3, none⟩) h0]; exact h4⟩
theorem boxM (w : World) (x y z u : Value) (e : TypeId) : w.heap.size < (w.alloc (.cells #[x, y, z, u] e)).heap.size ∧ (w.alloc (.cells #[x, y, z, u] e)).cell? ⟨w.heap.size, 0, none⟩ = some x ∧ (w.alloc (.cells #[x, y, z, u] e)).cell? ⟨w.heap.size, 1, none⟩ = some y ∧ (w.alloc (.cells #[x, y, z, u] e)).cell? ⟨w.heap.size, 2, none⟩ = some z ∧ (w.alloc (.cells #[x, y, z, u] e)).cell? ⟨w.heap.size, 3, none⟩ = some u :=
  ⟨by simp, by rw [World.cell?_alloc_at _ e _ 0 rfl]; rfl, by rw [World.cell?_alloc_at _ e _ 1 rfl]; rfl, by rw [World.cell?_alloc_at _ e _ 2 rfl]; rfl, by rw [World.cell?_alloc_at _ e _ 3 rfl]; rfl⟩
theorem size_alloc1 (w : World) (o : Obj) : w.heap.size < (w.alloc o).heap.size := by simp
theorem thenD {w a a' b : World} (hb : Below a'.heap.size a' b) (h : Below w.heap.size w a) (e1 : a'.os = a.os) (e2 : a'.tape = a.tape) (e3 : a'.output = a.output) (e4 : a'.heap = a.heap) : Below w.heap.size w b := by
  have hs : w.heap.size ≤ a'.heap.size := by rw [e4]; exact h.size
  refine Below.trans ⟨e1.trans h.os, e2.trans h.tape, e3.trans h.output, hs, fun k hk => by rw [e4]; exact h.block k hk⟩ (hb.mono hs)
theorem boxD {w w' : World} {B : Nat} {x y z u : Value} (hb : Below w.heap.size w w') (h : B < w.heap.size ∧ w.cell? ⟨B, 0, none⟩ = some x ∧ w.cell? ⟨B, 1, none⟩ = some y ∧ w.cell? ⟨B, 2, none⟩ = some z ∧ w.cell? ⟨B, 3, none⟩ = some u) :
    B < w'.heap.size ∧ w'.cell? ⟨B, 0, none⟩ = some x ∧ w'.cell? ⟨B, 1, none⟩ = some y ∧ w'.cell? ⟨B, 2, none⟩ = some z ∧ w'.cell? ⟨B, 3, none⟩ = some u := boxB h hb
end Go.Proofs.Ytgkmallikomnaaa.EntRow

/- The contracts of package lowest, of a text's complement, and of the document's own numbers in bytes. -/
namespace Go.Proofs.Ytgkmallikomnaaa.EntLow
open Go.Proofs.Ytgkmallikomnaaa Go.RowKit Go.Proofs.Ytgkmallikomnaaa.Bytes Go.Proofs.Ytgkmallikomnaaa.NorWalk Go.Proofs.Ytgkmallikomnaaa.Ent Go.Proofs.Ytgkmallikomnaaa.EntRow

theorem info_u8 : (Try.prog.info? 5).map (fun i => (i.zero, i.size, i.bytes)) = some (some (.int .u8 0), 1, 1) := by kernel_rfl
def lowS (x k : Nat) : ByteArray := ⟨(lowL x k).toArray⟩
theorem list_lowS (x k : Nat) : (lowS x k).data.toList = lowL x k := rfl
theorem size_lowS (x k : Nat) : (lowS x k).size = k := by rw [← Nor.size_list, list_lowS, length_lowL]
theorem pow_8 (j : Nat) : 2 ^ (8 * j) = 256 ^ j := by rw [Nat.pow_mul]
theorem byte_shr (x j s : Nat) (hs : s = 8 * j) : IntKind.u8.wrap ((x : Int) / 2 ^ s) = ((byteAt x j).toNat : Int) := by
  have e : ((x : Int) / 2 ^ s) = ((x / 256 ^ j : Nat) : Int) := by rw [hs, ← pow_8, Int.natCast_ediv, Int.natCast_pow]; rfl
  rw [e, toNat_byteAt]
  simp [IntKind.wrap, IntKind.bits, IntKind.signed]

set_option maxHeartbeats 1000000 in
theorem lowPut_any (x k : Nat) (w : World) (hk : 1 ≤ k) (hk7 : k ≤ 7) : Calls Try.prog 72 #[.int .i64 (x : Int), .int .i64 (k : Int)] w fun e w' => e = .returned (.string (lowS x k)) ∧ Below w.heap.size w w' := by
  obtain ⟨i, hi, hz0, hz1, hz2⟩ := info_parts info_u8
  go_enter Try.func72, Try.ntmps72
  go_wp2
  go_loopw [5, 8] (fun v y wr => ∃ j : Nat, j ≤ k ∧ y = .int .i64 j ∧ Below w.heap.size w wr ∧ Buf wr w.heap.size v (lowL x j)) (fun _ y _ => k - (intOf y).toNat)
  case atStart => exact ⟨0, Nat.zero_le _, rfl, Below.refl _ _, buf_nil _ _⟩
  case round =>
    obtain ⟨j, hj, rfl, hbel, hbuf⟩ := hrel
    by_cases hlt : j < k
    · obtain ⟨s, hs⟩ : ∃ s : Nat, s = 8 * j := ⟨_, rfl⟩
      have hs1 : (8 : Int) * (j : Int) = (s : Int) := by omega
      have hs2 : s < 64 := by omega
      have hby := byte_shr x j s hs
      have HB : Hid (IntKind.u8.wrap ((x : Int) / 2 ^ s) = ((byteAt x j).toNat : Int)) := hby
      clear hs
      have s1 := hbel.size
      go_wp2_with (at_builtin; go_loud (refine wpList_append_buf rfl _ _ _ rfl w.heap.size 5 i Try.underlying55 hi hz0 hz1 hz2 _ _ rfl (hbuf.alloc _) (by simp; omega) wr.heap.size 1 (byteAt x j) rfl (by rw [World.cell?_alloc_at _ _ _ 0 rfl]; rfl) (by rw [length_lowL]; omega) ?_; intro g cap w1 hb1 hg1))
      refine ⟨⟨j + 1, by omega, by go_num, ?_, ?_⟩, by simp [intOf]; omega⟩
      · exact (hbel.alloc s1 _).trans hg1
      · rw [lowL_succ]
        exact .inr ⟨g, cap, by simp, hb1⟩
    · obtain rfl : j = k := by omega
      rcases hbuf with ⟨_, h0⟩ | ⟨g, cap, rfl, hb1⟩
      · have := congrArg List.length h0
        rw [length_lowL] at this
        simp at this
        omega
      have hcv := hb1.row.text (P := Try.prog) 55 9 5 cap (lowL x j).length rfl Try.underlying55 Try.underlying5 Try.underlying9
      have HL : Hid (lowS x j = ⟨(lowL x j).toArray⟩) := rfl
      generalize lowL x j = L at *
      go_wp2
      go_ret
      exact ⟨by rw [HL.out]; rfl, hbel⟩
theorem or_i64 (a b : Nat) (ha : a < 9223372036854775808) (hb : b < 9223372036854775808) : bits .or .i64 (a : Int) (b : Int) = ((a ||| b : Nat) : Int) := by
  show IntKind.i64.wrap ((BitVec.ofInt 64 (a : Int) ||| BitVec.ofInt 64 (b : Int)).toNat : Int) = _
  rw [BitVec.toNat_or, ofInt_u64 a (by omega), ofInt_u64 b (by omega), IntKind.wrap_i64]
  have h : a ||| b < 2 ^ 63 := Nat.or_lt_two_pow (by omega) (by omega)
  omega
theorem of_take (l : List UInt8) (j : Nat) (h : j < l.length) : ofL (l.take (j + 1)) = ofL (l.take j) + 256 ^ j * l[j].toNat := by
  rw [List.take_succ_eq_append_getElem h, ofL_append, List.length_take, Nat.min_eq_left (by omega)]
  show _ + _ * (_ + 256 * 0) = _
  rw [Nat.mul_zero, Nat.add_zero]
theorem of_take_lt (l : List UInt8) (j : Nat) : ofL (l.take j) < 256 ^ j := Nat.lt_of_lt_of_le (ofL_lt _) (Nat.pow_le_pow_right (by omega) (by rw [List.length_take]; omega))
theorem or_step (l : List UInt8) (j : Nat) (h : j < l.length) (hj : j < 7) : bits .or .i64 ((ofL (l.take j) : Nat) : Int) ((l[j].toNat * 256 ^ j : Nat) : Int) = ((ofL (l.take (j + 1)) : Nat) : Int) := by
  have h1 := of_take_lt l j
  have h2 := l[j].toNat_lt
  have h3 : 256 ^ j ≤ 256 ^ 6 := Nat.pow_le_pow_right (by omega) (by omega)
  have h4 : l[j].toNat * 256 ^ j ≤ 255 * 256 ^ 6 := Nat.mul_le_mul (by omega) h3
  rw [or_i64 _ _ (by omega) (by omega), of_take l j h]
  congr 1
  rw [← pow_8] at *
  rw [Nat.or_comm, Nat.mul_comm, ← Nat.two_pow_add_eq_or_of_lt h1, Nat.add_comm]
theorem or_stepS (s : ByteArray) (j m : Nat) (h : j < s.size) (hj : j < 7) (hm : m = 8 * j) : bits .or .i64 ((ofL (s.data.toList.take j) : Nat) : Int) (wrap64 (wrap64 (s[j].toNat : Int) * 2 ^ m)) = ((ofL (s.data.toList.take (j + 1)) : Nat) : Int) := by
  have hl : j < s.data.toList.length := by rw [Nor.size_list]; exact h
  have e := or_step s.data.toList j hl hj
  have e1 : s.data.toList[j] = s[j] := by rw [Array.getElem_toList]; rfl
  rw [e1] at e
  rw [← e]
  have h2 := s[j].toNat_lt
  have h3 : 256 ^ j ≤ 256 ^ 6 := Nat.pow_le_pow_right (by omega) (by omega)
  have h4 : s[j].toNat * 256 ^ j ≤ 255 * 256 ^ 6 := Nat.mul_le_mul (by omega) h3
  have e2 : wrap64 (s[j].toNat : Int) = (s[j].toNat : Int) := by unfold wrap64; omega
  have e3 : (s[j].toNat : Int) * 2 ^ m = ((s[j].toNat * 256 ^ j : Nat) : Int) := by rw [hm, ← pow_8, Int.natCast_mul, Int.natCast_pow]; rfl
  rw [e2, e3]
  congr 1
  generalize s[j].toNat * 256 ^ j = q at h4
  unfold wrap64
  omega

set_option maxHeartbeats 1000000 in
theorem lowGet_any (s : ByteArray) (w : World) (h7 : s.size ≤ 7) : Calls Try.prog 66 #[.string s] w fun e w' => e = .returned (.int .i64 ((ofL s.data.toList : Nat) : Int)) ∧ w' = w := by
  have HS : Hid (s.data.toList.length = s.size) := Nor.size_list s
  go_enter Try.func66, Try.ntmps66
  go_wp2
  go_loopw [3, 7] (fun v y wr => ∃ j : Nat, j ≤ s.size ∧ y = .int .i64 j ∧ v = .int .i64 ((ofL (s.data.toList.take j) : Nat) : Int) ∧ wr = w) (fun _ y _ => s.size - (intOf y).toNat)
  case atStart => exact ⟨0, Nat.zero_le _, rfl, rfl, rfl⟩
  case round =>
    obtain ⟨j, hj, rfl, rfl, rfl⟩ := hrel
    by_cases hlt : j < s.size
    · obtain ⟨m, hm⟩ : ∃ m : Nat, m = 8 * j := ⟨_, rfl⟩
      have hs1 : (8 : Int) * (j : Int) = (m : Int) := by omega
      have hs2 : m < 64 := by omega
      have HO := hide (or_stepS s j m hlt (by omega) hm)
      clear hm
      go_wp2
      exact ⟨⟨j + 1, by omega, by go_num, by rw [HO.out], trivial⟩, by simp [intOf]; omega⟩
    · obtain rfl : j = s.size := by omega
      have HT : Hid (s.data.toList.take s.size = s.data.toList) := List.take_of_length_le (by rw [HS.out]; exact Nat.le_refl _)
      go_wp2
      go_ret
      exact ⟨by rw [HT.out]; rfl, rfl⟩

theorem not_u8 (b : UInt8) : bits .xor .u8 (if IntKind.u8.signed = true then -1 else IntKind.u8.max) (b.toNat : Int) = ((~~~b).toNat : Int) := by
  have h0 : ∀ n : Fin 256, bits .xor .u8 (if IntKind.u8.signed = true then -1 else IntKind.u8.max) (n.val : Int) = ((~~~(UInt8.ofNat n.val)).toNat : Int) := by decide +kernel
  have := h0 ⟨b.toNat, b.toNat_lt⟩
  simpa only [UInt8.ofNat_toNat] using this
set_option maxHeartbeats 1000000 in
theorem refLow_any (x k : Nat) (w : World) (hk7 : k ≤ 7) : Calls Try.prog 33 #[.int .i64 (x : Int), .int .i64 (k : Int)] w fun e w' => e = .returned (.string (lowS x k)) ∧ Below w.heap.size w w' := by
  have hmk := fun w => run_make_bytes (P := Try.prog) w 55 5 Try.underlying55 info_u8 k (by omega)
  have HFULL : Hid (fillTo (byteAt x) k k = lowL x k) := fillTo_full _ _
  go_enter Try.func33, Try.ntmps33
  go_wp2
  clear hmk
  go_loopw [6] (fun i wr => ∃ j : Nat, j ≤ k ∧ i = .int .i64 j ∧ Below w.heap.size w wr ∧ w.heap.size < wr.heap.size ∧ Row wr w.heap.size (fillTo (byteAt x) k j)) (fun i _ => k - (intOf i).toNat)
  case atStart => exact ⟨0, Nat.zero_le _, rfl, (Below.refl _ _).alloc (Nat.le_refl _) _, by simp, row_made _ _ _⟩
  case round =>
    obtain ⟨j, hj, rfl, hbel, hsz, hrow⟩ := hrel
    have hlen := length_fillTo (byteAt x) k j
    by_cases hlt : j < k
    · obtain ⟨y, hc⟩ : ∃ y, wr.cell? ⟨w.heap.size, j, none⟩ = some y := ⟨_, hrow.cell j (by omega)⟩
      have hfr := hrow.free j (by omega)
      have HL : Hid ((fillTo (byteAt x) k j).length = k) := hlen
      clear hlen
      obtain ⟨s, hs⟩ : ∃ s : Nat, s = 8 * j := ⟨_, rfl⟩
      have hs1 : (8 : Int) * (j : Int) = (s : Int) := by omega
      have hs2 : s < 64 := by omega
      have hby := byte_shr x j s hs
      clear hs
      go_wp2
      refine ⟨⟨j + 1, by omega, by go_num, hbel.setCell (Nat.le_refl _) _, by simpa using hsz, ?_⟩, by simp [intOf]; omega⟩
      exact hrow.set j (byteAt x j) (by rw [HL.out]; omega)
    · obtain rfl : j = k := by omega
      rw [HFULL.out] at hrow
      have hcv := hrow.text (P := Try.prog) 55 9 5 j j (by rw [length_lowL]) Try.underlying55 Try.underlying5 Try.underlying9
      clear hlen
      have HL : Hid (lowS x j = ⟨(lowL x j).toArray⟩) := rfl
      generalize lowL x j = R at *
      go_wp2
      go_ret
      exact ⟨by rw [HL.out]; rfl, hbel⟩

theorem of_drop (l : List UInt8) (j : Nat) (h : j < l.length) : ofL (l.drop j) = l[j].toNat + 256 * ofL (l.drop (j + 1)) := by
  rw [List.drop_eq_getElem_cons h]
  rfl
theorem of_drop_lt (l : List UInt8) (j : Nat) (h : l.length ≤ 7) : ofL (l.drop j) < 256 ^ 7 := Nat.lt_of_lt_of_le (ofL_lt _) (Nat.pow_le_pow_right (by omega) (by rw [List.length_drop]; omega))
theorem or_stepD (s : ByteArray) (j : Nat) (h : j < s.size) (h7 : s.size ≤ 7) : bits .or .i64 (wrap64 (((ofL (s.data.toList.drop (j + 1)) : Nat) : Int) * 256)) (wrap64 (s[j].toNat : Int)) = ((ofL (s.data.toList.drop j) : Nat) : Int) := by
  have hl : j < s.data.toList.length := by rw [Nor.size_list]; exact h
  have e := of_drop s.data.toList j hl
  have e1 : s.data.toList[j] = s[j] := by rw [Array.getElem_toList]; rfl
  have h0 := of_drop_lt s.data.toList j (by rw [Nor.size_list]; exact h7)
  have h2 := s[j].toNat_lt
  rw [e1] at e
  have e2 : wrap64 (s[j].toNat : Int) = (s[j].toNat : Int) := by unfold wrap64; omega
  have e3 : wrap64 (((ofL (s.data.toList.drop (j + 1)) : Nat) : Int) * 256) = ((2 ^ 8 * ofL (s.data.toList.drop (j + 1)) : Nat) : Int) := by unfold wrap64; omega
  rw [e2, e3, or_i64 _ _ (by omega) (by omega), ← Nat.two_pow_add_eq_or_of_lt (by omega), e]
  congr 1
  omega
set_option maxHeartbeats 1000000 in
theorem refOf_any (s : ByteArray) (w : World) (h7 : s.size ≤ 7) : Calls Try.prog 61 #[.string s] w fun e w' => e = .returned (.int .i64 ((ofL s.data.toList : Nat) : Int)) ∧ w' = w := by
  have HE : Hid (s.data.toList.drop s.size = []) := List.drop_of_length_le (by rw [Nor.size_list]; exact Nat.le_refl _)
  go_enter Try.func61, Try.ntmps61
  go_wp2
  go_loopw [3, 4] (fun v y wr => ∃ j : Nat, j ≤ s.size ∧ y = .int .i64 ((j : Int) - 1) ∧ v = .int .i64 ((ofL (s.data.toList.drop j) : Nat) : Int) ∧ wr = w) (fun _ y _ => (intOf y + 1).toNat)
  case atStart => exact ⟨s.size, Nat.le_refl _, rfl, by rw [HE.out]; rfl, rfl⟩
  case round =>
    obtain ⟨j, hj, rfl, rfl, rfl⟩ := hrel
    by_cases hlt : j = 0
    · subst hlt
      go_wp2
      go_ret
      exact ⟨rfl, rfl⟩
    · obtain ⟨i, rfl⟩ : ∃ i, j = i + 1 := ⟨j - 1, by omega⟩
      have hi1 : ((i + 1 : Nat) : Int) - 1 = (i : Int) := by omega
      have HO := hide (or_stepD s i (by omega) h7)
      rw [hi1]
      go_wp2
      exact ⟨⟨i, by omega, rfl, by rw [HO.out], trivial⟩, by simp [intOf]⟩
end Go.Proofs.Ytgkmallikomnaaa.EntLow

/- The contracts of package entry: each call returns what the plain functions give, whatever its arguments; of what was there nothing has turned. -/
namespace Go.Proofs.Ytgkmallikomnaaa.EntWalk
open Go.Proofs.Ytgkmallikomnaaa Go.RowKit Go.Proofs.Ytgkmallikomnaaa.Bytes Go.Proofs.Ytgkmallikomnaaa.NorWalk Go.Proofs.Ytgkmallikomnaaa.Ent Go.Proofs.Ytgkmallikomnaaa.EntRow Go.Proofs.Ytgkmallikomnaaa.EntLow
attribute [local go_sem ↓] Go.wp_at_zero Go.wp_at_succ

theorem recMay_f {q t z m : Int} (h : recMay q t z m = false) : ¬ 1 ≤ q ∨ (1 ≤ q ∧ ¬ q ≤ 1048576) ∨ (1 ≤ q ∧ q ≤ 1048576 ∧ ¬ t = 0 ∧ ¬ t = 1) ∨ (1 ≤ q ∧ q ≤ 1048576 ∧ (t = 0 ∨ t = 1) ∧ ¬ 1 ≤ z) ∨ (1 ≤ q ∧ q ≤ 1048576 ∧ (t = 0 ∨ t = 1) ∧ 1 ≤ z ∧ ¬ z ≤ 288) ∨ (1 ≤ q ∧ q ≤ 1048576 ∧ (t = 0 ∨ t = 1) ∧ 1 ≤ z ∧ z ≤ 288 ∧ ¬ 0 ≤ m) ∨ (1 ≤ q ∧ q ≤ 1048576 ∧ (t = 0 ∨ t = 1) ∧ 1 ≤ z ∧ z ≤ 288 ∧ 0 ≤ m ∧ ¬ m ≤ 4294967295) := by
  unfold recMay at h
  have := of_decide_eq_false h
  omega
/-- lowest.Put where the number may be one. -/
def lowT (X K : Int) : ByteArray := lowS X.toNat K.toNat
theorem lowT_any (X K : Int) (w : World) (h0 : 0 ≤ X) (h1 : 1 ≤ K) (h7 : K ≤ 7) : Calls Try.prog 72 #[.int .i64 X, .int .i64 K] w fun e w' => e = .returned (.string (lowT X K)) ∧ Below w.heap.size w w' := by
  obtain ⟨x, rfl⟩ := Int.eq_ofNat_of_zero_le h0
  obtain ⟨k, rfl⟩ := Int.eq_ofNat_of_zero_le (show 0 ≤ K by omega)
  exact lowPut_any x k w (by omega) (by omega)
theorem size_lowT (X K : Int) : (lowT X K).size ≤ K.toNat := by unfold lowT; rw [size_lowS]; exact Nat.le_refl _
theorem list_lowT (X K : Int) : (lowT X K).data.toList = lowL X.toNat K.toNat := rfl
/-- A text's number. -/
def numS (s : ByteArray) : Int := ((ofL s.data.toList : Nat) : Int)
theorem num_low (s : ByteArray) (w : World) (h : s.size ≤ 7) : Calls Try.prog 66 #[.string s] w fun e w' => e = .returned (.int .i64 (numS s)) ∧ w' = w := lowGet_any s w h
theorem ext_le (s : ByteArray) (a b : Nat) (h : b - a ≤ 7) : (s.extract a b).size ≤ 7 := by rw [ByteArray.size_extract]; omega
theorem num_fields (s : ByteArray) : numS (s.extract 0 4) = (fq s.data.toList : Int) ∧ numS (s.extract 4 5) = (ft s.data.toList : Int) ∧ numS (s.extract 6 8) = (fz s.data.toList : Int) ∧ numS (s.extract 8 12) = (fm s.data.toList : Int) := by
  unfold numS fq ft fz fm
  rw [list_extract, list_extract, list_extract, list_extract]
  exact ⟨rfl, rfl, rfl, rfl⟩
/-- A text of 24 bytes: no record's numbers; numbers of one, but other bytes; one. -/
theorem getOk_c {s : ByteArray} (h1 : s.size = 24) : (recMay (numS (s.extract 0 4)) (numS (s.extract 4 5)) (numS (s.extract 6 8)) (numS (s.extract 8 12)) = false ∧ getOk s = false) ∨ (recMay (numS (s.extract 0 4)) (numS (s.extract 4 5)) (numS (s.extract 6 8)) (numS (s.extract 8 12)) = true ∧ ¬ putS (numS (s.extract 0 4)) (numS (s.extract 4 5)) (numS (s.extract 6 8)) (numS (s.extract 8 12)) = s ∧ getOk s = false) ∨ (recMay (numS (s.extract 0 4)) (numS (s.extract 4 5)) (numS (s.extract 6 8)) (numS (s.extract 8 12)) = true ∧ putS (numS (s.extract 0 4)) (numS (s.extract 4 5)) (numS (s.extract 6 8)) (numS (s.extract 8 12)) = s ∧ getOk s = true) := by
  obtain ⟨e1, e2, e3, e4⟩ := num_fields s
  rw [e1, e2, e3, e4]
  cases h2 : recMay (fq s.data.toList) (ft s.data.toList) (fz s.data.toList) (fm s.data.toList) with
  | false =>
    refine .inl ⟨rfl, ?_⟩
    unfold getOk
    exact decide_eq_false (fun h => by rw [h2] at h; exact absurd h.2.1 (by decide))
  | true =>
    by_cases h3 : putS (fq s.data.toList) (ft s.data.toList) (fz s.data.toList) (fm s.data.toList) = s
    · exact .inr (.inr ⟨rfl, h3, getOk_parts.2 ⟨h1, h2, (list_putS h2).symm.trans (congrArg (fun x => x.data.toList) h3)⟩⟩)
    · refine .inr (.inl ⟨rfl, h3, ?_⟩)
      unfold getOk
      refine decide_eq_false (fun h => h3 (ba_ext ?_))
      rw [list_putS h2]
      exact h.2.2
/-- A struct of four cells in a block of its own that may be written. -/
theorem resM (w : World) (x y z u : Value) (e : TypeId) : w.heap.size < (w.alloc (.cells #[x, y, z, u] e)).heap.size ∧ (w.alloc (.cells #[x, y, z, u] e)).cell? ⟨w.heap.size, 0, none⟩ = some x ∧ (w.alloc (.cells #[x, y, z, u] e)).cell? ⟨w.heap.size, 1, none⟩ = some y ∧ (w.alloc (.cells #[x, y, z, u] e)).cell? ⟨w.heap.size, 2, none⟩ = some z ∧ (w.alloc (.cells #[x, y, z, u] e)).cell? ⟨w.heap.size, 3, none⟩ = some u ∧ ∀ i, (w.alloc (.cells #[x, y, z, u] e)).frozen? ⟨w.heap.size, i, none⟩ = false := by
  obtain ⟨h1, h2, h3, h4, h5⟩ := boxM w x y z u e
  exact ⟨h1, h2, h3, h4, h5, fun i => World.frozen?_alloc_at _ e _ i rfl⟩
theorem resB {w w' : World} {B : Nat} {x y z u : Value} (h : B < w.heap.size ∧ w.cell? ⟨B, 0, none⟩ = some x ∧ w.cell? ⟨B, 1, none⟩ = some y ∧ w.cell? ⟨B, 2, none⟩ = some z ∧ w.cell? ⟨B, 3, none⟩ = some u ∧ ∀ i, w.frozen? ⟨B, i, none⟩ = false) (hb : Below w.heap.size w w') :
    B < w'.heap.size ∧ w'.cell? ⟨B, 0, none⟩ = some x ∧ w'.cell? ⟨B, 1, none⟩ = some y ∧ w'.cell? ⟨B, 2, none⟩ = some z ∧ w'.cell? ⟨B, 3, none⟩ = some u ∧ ∀ i, w'.frozen? ⟨B, i, none⟩ = false := by
  obtain ⟨h0, h1, h2, h3, h4, h5⟩ := h
  obtain ⟨g0, g1, g2, g3, g4⟩ := boxB ⟨h0, h1, h2, h3, h4⟩ hb
  exact ⟨g0, g1, g2, g3, g4, fun i => by rw [hb.frozen (p := ⟨B, i, none⟩) h0]; exact h5 i⟩
theorem ret_rec {a b c d e a' b' c' d' e' : Int} (h : a = a' ∧ b = b' ∧ c = c' ∧ d = d' ∧ e = e') : Ending.returned (.tuple #[.agg #[.int .i64 a, .int .i64 b, .int .i64 c, .int .i64 d], .int .i64 e]) = .returned (.tuple #[.agg #[.int .i64 a', .int .i64 b', .int .i64 c', .int .i64 d'], .int .i64 e']) := by
  obtain ⟨rfl, rfl, rfl, rfl, rfl⟩ := h
  rfl
theorem zero_rec {s : ByteArray} (h : getOk s = false) : (0 : Int) = gq s ∧ (0 : Int) = gt s ∧ (0 : Int) = gz s ∧ (0 : Int) = gm s ∧ (400 : Int) = errE (getOk s) := by
  obtain ⟨g1, g2, g3, g4⟩ := Ent.get_no h
  exact ⟨g1.symm, g2.symm, g3.symm, g4.symm, (errE_f h).symm⟩
theorem some_rec {s : ByteArray} (h : getOk s = true) : numS (s.extract 0 4) = gq s ∧ numS (s.extract 4 5) = gt s ∧ numS (s.extract 6 8) = gz s ∧ numS (s.extract 8 12) = gm s ∧ (0 : Int) = errE (getOk s) := by
  obtain ⟨g1, g2, g3, g4⟩ := Ent.get_ok h
  obtain ⟨f1, f2, f3, f4⟩ := num_fields s
  exact ⟨f1.trans g1.symm, f2.trans g2.symm, f3.trans g3.symm, f4.trans g4.symm, (errE_t h).symm⟩
end Go.Proofs.Ytgkmallikomnaaa.EntWalk
