/- A row of bytes that a call has made: what its cells hold, and how a store, a draw and new memory leave it. No program is named here. -/
import Derived.WalkKit
import Derived.Laws.IdiomStrings
import Derived.Laws.MakeOwn
import Derived.Below
import Derived.OwnWalk
import Derived.Laws.BitsAllLaws
import Derived.Deep.QuietTactic
namespace Go.Proofs.Ythpoefaipmcceaa.Bytes
open Go.RowKit

/-- Block B of the world holds the bytes l from its first cell on, and they may be written. -/
structure Row (w : World) (B : Nat) (l : List UInt8) : Prop where
  cell : ∀ j (h : j < l.length), w.cell? ⟨B, j, none⟩ = some (.int .u8 (l[j].toNat : Int))
  free : ∀ j, j < l.length → w.frozen? ⟨B, j, none⟩ = false

theorem Row.drew {w : World} {B : Nat} {l : List UInt8} (h : Row w B l) : Row w.drew B l := ⟨h.cell, h.free⟩
theorem Row.drewN {w : World} {B : Nat} {l : List UInt8} (h : Row w B l) (n : Nat) : Row (w.drewN n) B l :=
  ⟨fun j hj => by have := h.cell j hj; simpa using this, fun j hj => by have := h.free j hj; simpa using this⟩
theorem Row.alloc {w : World} {B : Nat} {l : List UInt8} (h : Row w B l) (hB : B < w.heap.size) (o : Obj) : Row (w.alloc o) B l :=
  ⟨fun j hj => by rw [World.cell?_alloc_past o B j hB]; exact h.cell j hj, fun j hj => by rw [World.frozen?_alloc_past o B j hB]; exact h.free j hj⟩
theorem Row.set {w : World} {B : Nat} {l : List UInt8} (h : Row w B l) (i : Nat) (b : UInt8) (hi : i < l.length) : Row (w.setCell ⟨B, i, none⟩ (.int .u8 (b.toNat : Int))) B (l.set i b) := by
  refine ⟨fun j hj => ?_, fun j hj => ?_⟩
  · simp only [List.length_set] at hj
    by_cases e : i = j
    · subst e
      rw [World.cell?_setCell_same w _ _ (h.cell i hi)]
      simp
    · rw [World.cell?_setCell_other w _ _ _ (by intro hc; injection hc; exact e ‹_›), h.cell j hj, List.getElem_set_ne e]
  · simp only [List.length_set] at hj
    rw [World.frozen?_setCell]
    exact h.free j hj
theorem Row.below {w w' : World} {B : Nat} {l : List UInt8} (h : Row w B l) (hb : Below w.heap.size w w') (hB : B < w.heap.size) : Row w' B l :=
  ⟨fun j hj => by rw [hb.cell (p := ⟨B, j, none⟩) hB]; exact h.cell j hj, fun j hj => by rw [hb.frozen (p := ⟨B, j, none⟩) hB]; exact h.free j hj⟩

/-- 'make([]byte, n)'. -/
def madeBytes (n : Nat) : Array Value := madeCells #[Value.int .u8 0] (n * 1)
theorem run_make_bytes {P : Program} (w : World) (t e : TypeId) (h1 : P.underlying t = some (.slice e)) (hinfo : (P.info? e).map (fun i => (i.zero, i.size, i.bytes)) = some (some (.int .u8 0), 1, 1)) (n : Nat) (hn : n ≤ 281474976710656) :
    (Instr.makeSlice t (.int .i64 (n : Int)) (.int .i64 (n : Int))).run P w = .ok (.slice (some ⟨w.heap.size, 0, none⟩) n n) (w.alloc (.cells (madeBytes n) e)) := by
  obtain ⟨i, hi, hz, hs, hb⟩ := info_parts hinfo
  have h := run_make w t e i _ h1 hi hz .i64 .i64 (n : Int) (n : Int) (by omega) (Int.le_refl _) (by rw [hb]; omega) (by omega)
  rw [h, hs, Int.toNat_natCast]
  rfl
theorem row_made (w : World) (e : TypeId) (n : Nat) : Row (w.alloc (.cells (madeBytes n) e)) w.heap.size (List.replicate n 0) := by
  unfold madeBytes
  refine ⟨fun j hj => ?_, fun j hj => ?_⟩
  · simp only [List.length_replicate] at hj
    rw [World.cell?_alloc_at _ e _ j rfl]
    simp [madeCells, hj, Nat.mod_one]
  · exact World.frozen?_alloc_at _ e _ j rfl

/-- '[]byte(s)'. -/
theorem row_of_string (w : World) (e : TypeId) (s : ByteArray) (cap : Nat) (hcap : s.size ≤ cap) : Row (w.alloc (.cells (bytesRow s cap) e ((bytesRow s cap).size, (bytesRow s cap).size + 1))) w.heap.size s.data.toList := by
  refine ⟨fun j hj => ?_, fun j hj => ?_⟩
  · have hj' : j < s.data.size := by simpa using hj
    rw [World.cell?_alloc_mark, bytesRow_at s cap j hj']
    simp
  · have hj' : j < s.data.size := by simpa using hj
    rw [World.frozen?_alloc_mark]
    have h1 : s.data.size = s.size := rfl
    have h2 : (bytesRow s cap).size = cap := by
      unfold bytesRow
      rw [Array.size_append, Array.size_map, Array.size_replicate]
      omega
    rw [h2, decide_eq_false (by omega), Bool.false_and]

/-- 'string(b)'. -/
theorem Row.text {P : Program} {w : World} {B : Nat} {l : List UInt8} (h : Row w B l) (src dst e : TypeId) (cap n : Nat) (hn : n = l.length) (hs : P.underlying src = some (.slice e)) (he : P.underlying e = some (.int .u8)) (hd : P.underlying dst = some .string) :
    (convert src dst (.slice (some ⟨B, 0, none⟩) n cap)).run P w = .ok (.string ⟨l.toArray⟩) w := by
  subst hn
  refine run_convert_bytes_back w src dst e ⟨B, 0, none⟩ cap l hs he hd fun j hj => ?_
  have e : (⟨B, 0, none⟩ : Addr).add j = ⟨B, j, none⟩ := by
    simp only [Addr.add]
    split
    · subst_vars; rfl
    · simp
  rw [e]
  exact h.cell j hj

theorem ba_ext {a b : ByteArray} (h : a.data.toList = b.data.toList) : a = b := by
  cases a with
  | mk x => cases b with
    | mk y => exact congrArg ByteArray.mk (Array.toList_inj.1 h)
theorem list_append (a b : ByteArray) : (a ++ b).data.toList = a.data.toList ++ b.data.toList := by rw [ByteArray.data_append, Array.toList_append]
theorem list_extract (s : ByteArray) (i j : Nat) : (s.extract i j).data.toList = (s.data.toList.drop i).take (j - i) := by rw [ByteArray.data_extract, Array.toList_extract, List.extract_eq_take_drop]
theorem list_head (s : ByteArray) (j : Nat) : (s.extract 0 j).data.toList = s.data.toList.take j := by rw [list_extract, List.drop_zero, Nat.sub_zero]
theorem list_tail (s : ByteArray) (i : Nat) : (s.extract i s.size).data.toList = s.data.toList.drop i := by
  rw [list_extract, List.take_of_length_le]
  rw [List.length_drop, Array.length_toList]
  exact Nat.le_refl _
theorem mod_u64 (a : Int) (n : Nat) (h : 0 < n) (hn : n < 9223372036854775808) : ∃ k : Nat, k < n ∧ wrap64 ((IntKind.u64.wrap a).tmod (n : Int)) = (k : Int) := by
  have e : IntKind.u64.wrap a = a % 18446744073709551616 := by simp [IntKind.wrap, IntKind.bits, IntKind.signed]
  rw [e, Int.tmod_eq_emod_of_nonneg (by omega)]
  have h1 := Int.emod_nonneg (a % 18446744073709551616) (show (n : Int) ≠ 0 by omega)
  have h2 := Int.emod_lt_of_pos (a % 18446744073709551616) (show 0 < (n : Int) by omega)
  generalize a % 18446744073709551616 % (n : Int) = m at h1 h2
  refine ⟨m.toNat, by omega, ?_⟩
  unfold wrap64
  omega
theorem mask_i64 (a : Int) (m : Nat) (hm : m < 4294967296) : ∃ k : Nat, k ≤ m ∧ bits .and .i64 a (m : Int) = (k : Int) := by
  refine ⟨(BitVec.ofInt 64 a).toNat &&& m, Nat.and_le_right, ?_⟩
  show IntKind.i64.wrap ((BitVec.ofInt 64 a &&& BitVec.ofInt 64 (m : Int)).toNat : Int) = _
  have hl : (BitVec.ofInt 64 a).toNat &&& m ≤ m := Nat.and_le_right
  rw [BitVec.toNat_and, ofInt_u64 m (by omega), IntKind.wrap_i64]
  omega
theorem run_max2 {P : Program} (a b k : Nat) (h : k = max a b) (ts : Array TypeId) (t : TypeId) (w : World) : (Builtin.max_ ts t #[.int .i64 (a : Int), .int .i64 (b : Int)]).run P w = .ok (.int .i64 (k : Int)) w := by
  simp [Builtin.max_, Builtin.max2]
  subst h
  repeat split
  all_goals omega
/-- Behind a call that leaves what was there: an old block's cells read as before. -/
theorem old_cells {a b : World} (h : Below a.heap.size a b) : ∀ B o, B < a.heap.size → b.cell? ⟨B, o, none⟩ = a.cell? ⟨B, o, none⟩ := fun B o hB => h.cell (p := ⟨B, o, none⟩) hB
theorem thenB {w a b : World} (h : Below w.heap.size w a) (g : Below a.heap.size a b) : Below w.heap.size w b := h.trans (g.mono h.size)
theorem hide {p : Prop} (h : p) : Hid p := h
theorem bel_drewN {B : Nat} {a w : World} (h : Below B a w) (n : Nat) : Below B a (w.drewN n) := ⟨h.os, h.tape, h.output, h.size, h.block⟩
theorem size_mk (l : List UInt8) : (ByteArray.mk l.toArray).size = l.length := by simp [ByteArray.size]
theorem xor_u8 (a b : UInt8) : bits .xor .u8 (a.toNat : Int) (b.toNat : Int) = ((a ^^^ b).toNat : Int) := by
  rw [u8_xor_nat _ _ a.toNat_lt b.toNat_lt, UInt8.toNat_xor]
theorem and_u8 (a b c : UInt8) (h : a &&& b = c) : bits .and .u8 (a.toNat : Int) (b.toNat : Int) = (c.toNat : Int) := by
  rw [u8_and_nat _ _ a.toNat_lt b.toNat_lt, ← UInt8.toNat_and, h]
theorem xor_i64 (a b : Nat) (ha : a < 9223372036854775808) (hb : b < 9223372036854775808) : bits .xor .i64 (a : Int) (b : Int) = ((a ^^^ b : Nat) : Int) := by
  show IntKind.i64.wrap ((BitVec.ofInt 64 (a : Int) ^^^ BitVec.ofInt 64 (b : Int)).toNat : Int) = _
  rw [BitVec.toNat_xor, ofInt_u64 a (by omega), ofInt_u64 b (by omega), IntKind.wrap_i64]
  have h : a ^^^ b < 2 ^ 63 := Nat.xor_lt_two_pow (by omega) (by omega)
  omega

/-- The list x 0, x 1, .. up to k places, filled one by one from zeros. -/
def fillTo (x : Nat → UInt8) (k : Nat) : Nat → List UInt8
  | 0 => List.replicate k 0
  | j + 1 => (fillTo x k j).set j (x j)
theorem length_fillTo (x : Nat → UInt8) (k j : Nat) : (fillTo x k j).length = k := by
  induction j with
  | zero => simp [fillTo]
  | succ j ih => simp [fillTo, ih]
theorem get_fillTo (x : Nat → UInt8) (k j i : Nat) (hj : j ≤ k) (hi : i < j) : (fillTo x k j)[i]? = some (x i) := by
  induction j with
  | zero => omega
  | succ j ih =>
    show ((fillTo x k j).set j (x j))[i]? = _
    by_cases e : j = i
    · subst e
      rw [List.getElem?_set_self (by rw [length_fillTo]; omega)]
    · rw [List.getElem?_set_ne e]
      exact ih (by omega) (by omega)
theorem fillTo_full (x : Nat → UInt8) (k : Nat) : fillTo x k k = (List.range k).map x := by
  apply List.ext_getElem?
  intro i
  by_cases h : i < k
  · rw [get_fillTo x k k i (Nat.le_refl _) h]
    simp [h]
  · rw [List.getElem?_eq_none (by rw [length_fillTo]; omega), List.getElem?_eq_none (by simp; omega)]

end Go.Proofs.Ythpoefaipmcceaa.Bytes
