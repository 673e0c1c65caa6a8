/- The contracts of strings.Clone and of what it calls: a text's own bytes come back, whatever the text under a bound; of what was there nothing has turned. -/
import Derived.Test.YtgkmallikomnaaaBagEnt
import Derived.Lib.BufferWrite
import Derived.Lib.UnsafeStr
import Derived.Test.YtgkmallikomnaaaBagNor
import Derived.Test.YtgkmallikomnaaaBagOps
import Derived.SliceStrings
import Derived.SizedLaws
import Derived.WideShapes
import Derived.Laws.AppendOwnNone
import Derived.BigQuiet
import Derived.Lib.AppendStr
namespace Go.Proofs.Ytgkmallikomnaaa.ImgClone
open Go.Proofs.Ytgkmallikomnaaa Go.RowKit Go.Proofs.Ytgkmallikomnaaa.Bytes Go.Proofs.Ytgkmallikomnaaa.NorWalk Go.Proofs.Ytgkmallikomnaaa.EntRow Go.Proofs.Ytgkmallikomnaaa.EntLow

theorem cells_u8 : Try.prog.cellsOf 5 = 1 := by kernel_rfl
theorem one_u8 : (Try.prog.info? 5).map (·.size) = some 1 := by kernel_rfl
theorem size_made (n : Nat) : (madeBytes n).size = n := by
  unfold madeBytes
  rw [size_madeCells, Nat.mul_one]
set_option maxRecDepth 100000 in
set_option maxHeartbeats 1000000 in
theorem lite_any (s : ByteArray) (w : World) (hs : s.size ≤ 281474976710656) : Calls Try.prog 60 #[.string s] w fun e w' => e = .returned (.string s) ∧ Below w.heap.size w w' := by
  by_cases h0 : s.size = 0
  · obtain rfl : s = ⟨#[]⟩ := by
      apply ByteArray.ext
      exact Array.eq_empty_of_size_eq_zero h0
    go_enter Try.func60, Try.ntmps60
    go_wp2
    go_ret
    exact ⟨rfl, Below.refl _ _⟩
  · have hmk := fun w => run_make_bytes (P := Try.prog) w 55 5 Try.underlying55 info_u8 s.size hs
    have hz := size_made s.size
    generalize madeBytes s.size = M at *
    have hl : s.data.toList.length = s.size := by rw [Array.length_toList]; rfl
    have hcp := fun ty => Lib.run_copy_row_string (P := Try.prog) (w.alloc (.cells M 5)) 55 9 ty 5 w.heap.size 0 s.size s.size s M 5 Try.underlying55 one_u8 (heap_alloc_new w _) (Nat.le_refl _) (by omega)
    have hY : (M.toList.take 0 ++ Lib.byteCells s.data.toList ++ M.toList.drop (0 + s.size)).toArray.toList = Lib.byteCells s.data.toList := by
      rw [List.toList_toArray, List.take_zero, List.nil_append, List.drop_of_length_le (by rw [Array.length_toList]; omega), List.append_nil]
    generalize (M.toList.take 0 ++ Lib.byteCells s.data.toList ++ M.toList.drop (0 + s.size)).toArray = Y at *
    have hYs : Y.size = s.size := by rw [← Array.length_toList, hY, Lib.byteCells_length, hl]
    have hg : ((w.alloc (.cells M 5)).setRow w.heap.size Y).heap[w.heap.size]? = some (.cells Y 5 (0, 0)) := setRow_heap _ _ M _ 5 (0, 0) (heap_alloc_new w _)
    have hne : s.data.toList ≠ [] := fun e => h0 (by rw [← hl, e]; rfl)
    have hus := fun it ty => Lib.run_unsafeString_row (P := Try.prog) ((w.alloc (.cells M 5)).setRow w.heap.size Y) 87 it ty 5 Try.underlying87 cells_u8 w.heap.size Y.size (by unfold World.shape?; rw [hg]) s.data.toList hne (by omega) (by omega)
      (fun j x hx => Lib.cells_of_row hg Y.size j _ (by rw [List.take_of_length_le (by rw [Array.length_toList]; exact Nat.le_refl _), hY]; simp [Lib.byteCells, hx]))
    rw [hl] at hus
    have HB : Hid (Below w.heap.size w (((w.alloc (.cells M 5)).setRow w.heap.size Y).freeze ⟨w.heap.size, 0, none⟩ s.size)) := by
      have b1 : Below w.heap.size w (w.alloc (.cells M 5)) := (Below.refl _ w).alloc (Nat.le_refl _) _
      have b2 : Below w.heap.size (w.alloc (.cells M 5)) ((w.alloc (.cells M 5)).setRow w.heap.size Y) := ⟨rfl, rfl, rfl, by simp, fun k hk => setRow_other _ _ _ _ (by omega)⟩
      exact Lib.below_freeze (b1.trans b2) (p := ⟨w.heap.size, 0, none⟩) (Nat.le_refl _) _
    clear hY hg hne
    go_enter Try.func60, Try.ntmps60
    go_wp2
    go_ret
    exact ⟨rfl, HB.out⟩
theorem clone_any (s : ByteArray) (w : World) (hs : s.size ≤ 281474976710656) : Calls Try.prog 41 #[.string s] w fun e w' => e = .returned (.string s) ∧ Below w.heap.size w w' := by
  have hB : Below w.heap.size w w := Below.refl _ _
  go_enter Try.func41, Try.ntmps41
  go_wp2_with (go_at_call 60; refine (lite_any _ _ hs).mono ?_; rintro e w' ⟨rfl, hb⟩; replace hB := hB.trans (hb.mono hB.size); clear hb)
  go_ret
  exact ⟨rfl, hB⟩
end Go.Proofs.Ytgkmallikomnaaa.ImgClone

/- Pieces of a text, and pieces laid together again, on lists. No program is named here. -/
namespace Go.Proofs.Ytgkmallikomnaaa.Blo
open Go.RowKit Go.Proofs.Ytgkmallikomnaaa.Bytes

def splitOk (s : ByteArray) : Bool := decide (1 ≤ s.size ∧ s.size ≤ 288)
def errB (b : Bool) : Int := if b then 0 else 1000
def pieceS (s : ByteArray) (j : Nat) : ByteArray := s.extract (32 * j) (min (32 * j + 32) s.size)
def piecesTo (s : ByteArray) (n : Nat) : List ByteArray := (List.range n).map (pieceS s)
def nP (s : ByteArray) : Nat := (s.size + 31) / 32
def splitL (s : ByteArray) : List ByteArray := if splitOk s then piecesTo s (nP s) else []
theorem splitL_ok {s : ByteArray} (h : splitOk s = true) : splitL s = piecesTo s (nP s) := by unfold splitL; rw [h]; rfl
theorem splitL_no {s : ByteArray} (h : splitOk s = false) : splitL s = [] := by unfold splitL; rw [h]; rfl
theorem piecesTo_succ (s : ByteArray) (n : Nat) : piecesTo s (n + 1) = piecesTo s n ++ [pieceS s n] := by unfold piecesTo; rw [List.range_succ, List.map_append]; rfl
theorem length_piecesTo (s : ByteArray) (n : Nat) : (piecesTo s n).length = n := by simp [piecesTo]
theorem get_piecesTo (s : ByteArray) (n i : Nat) (h : i < (piecesTo s n).length) : (piecesTo s n)[i] = pieceS s i := by simp [piecesTo]
theorem size_piece (s : ByteArray) (j : Nat) : (pieceS s j).size = min (32 * j + 32) s.size - 32 * j := by
  unfold pieceS
  rw [ByteArray.size_extract]
  omega
theorem nP_pos {s : ByteArray} (h : splitOk s = true) : 1 ≤ nP s ∧ nP s ≤ 9 := by
  have := of_decide_eq_true h
  unfold nP
  omega
/-- A piece of a text: whole but for the last one. -/
theorem size_whole {s : ByteArray} {j : Nat} (h : j + 1 < nP s) : (pieceS s j).size = 32 := by
  rw [size_piece]
  unfold nP at h
  omega
theorem size_each {s : ByteArray} {j : Nat} (h : j < nP s) : 1 ≤ (pieceS s j).size ∧ (pieceS s j).size ≤ 32 := by
  rw [size_piece]
  unfold nP at h
  omega

def joinTo (l : List ByteArray) : Nat → ByteArray
  | 0 => ⟨#[]⟩
  | n + 1 => joinTo l n ++ l.getD n ⟨#[]⟩
theorem joinTo_succ (l : List ByteArray) (j : Nat) (h : j < l.length) : joinTo l (j + 1) = joinTo l j ++ l[j] := by
  show joinTo l j ++ l.getD j ⟨#[]⟩ = _
  rw [List.getD_eq_getElem?_getD, List.getElem?_eq_getElem h]
  rfl
/-- The first n of them are as pieces are. -/
def Good (l : List ByteArray) (n : Nat) : Prop := ∀ i (h : i < l.length), i < n → 1 ≤ l[i].size ∧ l[i].size ≤ 32 ∧ (i + 1 < l.length → l[i].size = 32)
def JoinOk (l : List ByteArray) : Prop := 1 ≤ l.length ∧ l.length ≤ 9 ∧ Good l l.length
/-- Piece i of these is as pieces are. -/
def pieceOk (l : List ByteArray) (i : Nat) : Bool := decide (1 ≤ (l.getD i ⟨#[]⟩).size) && (decide ((l.getD i ⟨#[]⟩).size ≤ 32) && (decide (l.length ≤ i + 1) || decide ((l.getD i ⟨#[]⟩).size = 32)))
def joinB (l : List ByteArray) : Bool := decide (1 ≤ l.length) && (decide (l.length ≤ 9) && (List.range l.length).all (pieceOk l))
def joinS (l : List ByteArray) : ByteArray := if joinB l then joinTo l l.length else ⟨#[]⟩
theorem getD_at (l : List ByteArray) (i : Nat) (h : i < l.length) : l.getD i ⟨#[]⟩ = l[i] := by
  rw [List.getD_eq_getElem?_getD, List.getElem?_eq_getElem h]
  rfl
theorem pieceOk_iff (l : List ByteArray) (i : Nat) (h : i < l.length) : pieceOk l i = true ↔ 1 ≤ l[i].size ∧ l[i].size ≤ 32 ∧ (i + 1 < l.length → l[i].size = 32) := by
  unfold pieceOk
  rw [getD_at l i h]
  simp only [Bool.and_eq_true, Bool.or_eq_true, decide_eq_true_eq]
  constructor
  · rintro ⟨h1, h2, h3⟩
    exact ⟨h1, h2, fun h4 => by omega⟩
  · rintro ⟨h1, h2, h3⟩
    exact ⟨h1, h2, by omega⟩
theorem joinB_iff (l : List ByteArray) : joinB l = true ↔ JoinOk l := by
  unfold joinB JoinOk Good
  rw [Bool.and_eq_true, Bool.and_eq_true, decide_eq_true_eq, decide_eq_true_eq, List.all_eq_true]
  constructor
  · rintro ⟨h1, h2, h3⟩
    exact ⟨h1, h2, fun i hi _ => (pieceOk_iff l i hi).1 (h3 i (List.mem_range.2 hi))⟩
  · rintro ⟨h1, h2, h3⟩
    exact ⟨h1, h2, fun i hi => (pieceOk_iff l i (List.mem_range.1 hi)).2 (h3 i (List.mem_range.1 hi) (List.mem_range.1 hi))⟩
theorem joinB_t {l : List ByteArray} (h : JoinOk l) : joinB l = true := (joinB_iff l).2 h
theorem joinB_of {l : List ByteArray} (h : joinB l = true) : JoinOk l := (joinB_iff l).1 h
theorem joinB_f {l : List ByteArray} (h : ¬ JoinOk l) : joinB l = false := by
  cases e : joinB l with
  | false => rfl
  | true => exact absurd (joinB_of e) h
theorem joinB_not {l : List ByteArray} (h : joinB l = false) : ¬ JoinOk l := fun g => by rw [joinB_t g] at h; cases h
theorem joinS_t {l : List ByteArray} (h : joinB l = true) : joinS l = joinTo l l.length := by unfold joinS; rw [h]; rfl
theorem joinS_f {l : List ByteArray} (h : joinB l = false) : joinS l = ⟨#[]⟩ := by unfold joinS; rw [h]; rfl
theorem Good.zero (l : List ByteArray) : Good l 0 := fun i _ h => by omega
theorem Good.succ {l : List ByteArray} {n : Nat} (h : Good l n) (hn : n < l.length) (h1 : 1 ≤ l[n].size) (h2 : l[n].size ≤ 32) (h3 : n + 1 < l.length → l[n].size = 32) : Good l (n + 1) := fun i hi hin => by
  by_cases e : i = n
  · subst e
    exact ⟨h1, h2, h3⟩
  · exact h i hi (by omega)
theorem size_good {l : List ByteArray} : ∀ {n : Nat}, Good l n → n < l.length → (joinTo l n).size = 32 * n
  | 0, _, _ => rfl
  | n + 1, h, hn => by
    rw [joinTo_succ l n (by omega), ByteArray.size_append, size_good (n := n) (fun i hi hin => h i hi (by omega)) (by omega), (h n (by omega) (by omega)).2.2 hn]
    omega
theorem size_end {l : List ByteArray} {n : Nat} (h : Good l (n + 1)) (hn : n < l.length) : 32 * n + 1 ≤ (joinTo l (n + 1)).size ∧ (joinTo l (n + 1)).size ≤ 32 * n + 32 := by
  rw [joinTo_succ l n hn, ByteArray.size_append, size_good (n := n) (fun i hi hin => h i hi (by omega)) hn]
  have := h n hn (by omega)
  omega
theorem ok_end {l : List ByteArray} (h : Good l l.length) : JoinOk l ↔ 1 ≤ (joinTo l l.length).size ∧ (joinTo l l.length).size ≤ 288 := by
  unfold JoinOk
  by_cases e : l.length = 0
  · rw [e]
    show _ ↔ 1 ≤ (0 : Nat) ∧ _
    omega
  · obtain ⟨n, hn⟩ : ∃ n, l.length = n + 1 := ⟨l.length - 1, by omega⟩
    rw [hn] at h ⊢
    have := size_end h (by omega)
    constructor
    · rintro ⟨_, h2, _⟩; omega
    · rintro ⟨_, h2⟩; exact ⟨by omega, by omega, h⟩
theorem not_good {l : List ByteArray} {j : Nat} (hj : j < l.length) (h : ¬ (1 ≤ l[j].size ∧ l[j].size ≤ 32 ∧ (j + 1 < l.length → l[j].size = 32))) : joinB l = false :=
  joinB_f fun g => h (g.2.2 j hj hj)
theorem not_many {l : List ByteArray} (h : l.length < 1 ∨ 9 < l.length) : joinB l = false :=
  joinB_f fun g => by have := g.1; have := g.2.1; omega
theorem size_joinS {l : List ByteArray} (h : joinB l = true) : (joinS l).size ≤ 288 := by
  rw [joinS_t h]
  exact ((ok_end (joinB_of h).2.2).1 (joinB_of h)).2

theorem head_piece (s : ByteArray) (j : Nat) (h : 32 * j ≤ s.size) : s.extract 0 (32 * j) ++ pieceS s j = s.extract 0 (min (32 * j + 32) s.size) := by
  apply ba_ext
  unfold pieceS
  rw [list_append, list_head, list_extract, list_head, ← List.take_add]
  congr 1
  omega
theorem join_pieces (s : ByteArray) (n : Nat) : ∀ j, j ≤ n → 32 * j < s.size + 32 → joinTo (piecesTo s n) j = s.extract 0 (min (32 * j) s.size)
  | 0, _, _ => by
    apply ba_ext
    rw [list_head]
    show [] = _
    simp
  | j + 1, hj, hs => by
    rw [joinTo_succ _ j (by rw [length_piecesTo]; omega), get_piecesTo, join_pieces s n j (by omega) (by omega), show min (32 * j) s.size = 32 * j from by omega, head_piece s j (by omega)]
    rfl
/-- What is split comes back. -/
theorem split_good {s : ByteArray} (h : splitOk s = true) : joinB (splitL s) = true := by
  have hn := nP_pos h
  rw [splitL_ok h]
  refine joinB_t ⟨by rw [length_piecesTo]; omega, by rw [length_piecesTo]; omega, fun i hi _ => ?_⟩
  rw [length_piecesTo] at hi
  rw [get_piecesTo, length_piecesTo]
  exact ⟨(size_each hi).1, (size_each hi).2, fun g => size_whole g⟩
theorem join_split {s : ByteArray} (h : splitOk s = true) : joinS (splitL s) = s := by
  rw [joinS_t (split_good h), splitL_ok h, length_piecesTo, join_pieces s _ _ (Nat.le_refl _) (by unfold nP; omega)]
  apply ba_ext
  rw [list_head, List.take_of_length_le]
  rw [Array.length_toList, show s.data.size = s.size from rfl]
  unfold nP
  omega
/-- Byte k of a text: in piece k / 32, at k modulo 32. -/
theorem get_piece (s : ByteArray) (k : Nat) (h : k < s.size) (h' : k % 32 < (pieceS s (k / 32)).size) : (pieceS s (k / 32))[k % 32] = s[k] := by
  have e : (pieceS s (k / 32)).data.toList[k % 32]? = s.data.toList[k]? := by
    unfold pieceS
    rw [list_extract, List.getElem?_take_of_lt (by omega), List.getElem?_drop]
    congr 1
    omega
  have h1 : k % 32 < (pieceS s (k / 32)).data.toList.length := by rw [Array.length_toList]; exact h'
  have h2 : k < s.data.toList.length := by rw [Array.length_toList]; exact h
  rw [List.getElem?_eq_getElem h1, List.getElem?_eq_getElem h2] at e
  simp at e
  exact e
end Go.Proofs.Ytgkmallikomnaaa.Blo

/- Texts in memory: a row of them that a call has made or reads, one cell each. No program is named here. -/
namespace Go.Proofs.Ytgkmallikomnaaa.TxtRow
open Go.Proofs.Ytgkmallikomnaaa Go.RowKit Go.ChangeShapes Go.Proofs.Ytgkmallikomnaaa.Bytes

def txC (l : List ByteArray) : List Value := l.map .string
theorem txC_append (a b : List ByteArray) : txC (a ++ b) = txC a ++ txC b := by unfold txC; rw [List.map_append]
theorem length_txC (l : List ByteArray) : (txC l).length = l.length := by simp [txC]
theorem txC_get (l : List ByteArray) (i : Nat) (h : i < l.length) : (txC l)[i]? = some (.string l[i]) := by simp [txC, h]
theorem txC_oneCell (l : List ByteArray) : ∀ u ∈ txC l, u.oneCell' = true := by
  intro u hu
  unfold txC at hu
  rw [List.mem_map] at hu
  obtain ⟨_, _, rfl⟩ := hu
  rfl

/-- The texts l lie in block b, from cell o on. -/
def TxIn (w : World) (b o : Nat) (l : List ByteArray) : Prop := ∀ i (h : i < l.length), w.cell? ⟨b, o + i, none⟩ = some (.string l[i])
/-- The value v is a slice of the texts l. -/
def IsTx (w : World) (v : Value) (l : List ByteArray) : Prop := ∃ a cap, v = .slice a l.length cap ∧ (a = none → cap = 0) ∧ (l = [] ∨ ∃ b o, a = some ⟨b, o, none⟩ ∧ l.length ≤ cap ∧ cap ≤ maxLen ∧ b < w.heap.size ∧ TxIn w b o l)
theorem TxIn.below {w w' : World} {b o : Nat} {l : List ByteArray} (h : TxIn w b o l) {B : Nat} (hb : Below B w w') (hg : b < B) : TxIn w' b o l :=
  fun i hi => by rw [hb.cell (p := ⟨b, o + i, none⟩) hg]; exact h i hi
theorem IsTx.below {w w' : World} {v : Value} {l : List ByteArray} (h : IsTx w v l) (hb : Below w.heap.size w w') : IsTx w' v l := by
  obtain ⟨a, cap, rfl, h0, h⟩ := h
  refine ⟨a, cap, rfl, h0, ?_⟩
  rcases h with h | ⟨b, o, rfl, h1, h2, h3, h4⟩
  · exact .inl h
  · exact .inr ⟨b, o, rfl, h1, h2, Nat.lt_of_lt_of_le h3 hb.size, h4.below hb h3⟩
theorem ownsT_in {w : World} {base : Nat} {e : TypeId} {g cap n : Nat} {l : List ByteArray} (h : w.ownsRow base e 1 (.slice (some ⟨g, 0, none⟩) n cap) n (txC l)) : n = l.length ∧ g < w.heap.size ∧ TxIn w g 0 l := by
  have hn : n = l.length := by have := h.1; rw [length_txC] at this; omega
  subst hn
  refine ⟨rfl, (h.lt g rfl).2, fun i hi => ?_⟩
  have := h.cellAt i (by omega)
  rw [Nat.zero_add, this]
  exact txC_get l i hi
theorem ownsT_is {w : World} {base : Nat} {e : TypeId} {v : Value} {n : Nat} {l : List ByteArray} (h : w.ownsRow base e 1 v n (txC l)) : IsTx w v l := by
  have hn : n = l.length := by have := h.1; rw [length_txC] at this; omega
  subst hn
  rcases h.2 with ⟨rfl, h0⟩ | ⟨g, cap, cur, rfl, _, _, h1, h2, _⟩
  · exact ⟨none, 0, by rw [h0], fun _ => rfl, .inl (List.length_eq_zero_iff.1 h0)⟩
  · obtain ⟨_, h3, h4⟩ := ownsT_in h
    exact ⟨_, cap, rfl, fun h => (by cases h), .inr ⟨g, 0, rfl, h1, h2, h3, h4⟩⟩
theorem owns_cap {w : World} {base : Nat} {e : TypeId} {size g cap n m : Nat} {xs : List Value} (h : w.ownsRow base e size (.slice (some ⟨g, 0, none⟩) n cap) m xs) : n ≤ cap ∧ cap ≤ maxLen ∧ base ≤ g := by
  rcases h.2 with ⟨h0, _⟩ | ⟨g, cap, cur, h0, h1, _, h2, h3, _⟩
  · cases h0
  · injection h0 with h4 h5 h6
    injection h4 with h4
    injection h4 with h7
    subst h5 h6 h7
    exact ⟨h2, h3, h1⟩
theorem ownsT_nil (w : World) (base : Nat) (e : TypeId) : w.ownsRow base e 1 (.slice none 0 0) 0 (txC []) := ⟨rfl, .inl ⟨rfl, rfl⟩⟩
/-- A slice of texts written out: one block. -/
theorem made_is (w : World) (l : List ByteArray) (e : TypeId) (n : Nat) (hn : n = l.length) (hl : l.length ≤ maxLen) : IsTx (w.alloc (.cells (txC l).toArray e)) (.slice (some ⟨w.heap.size, 0, none⟩) n n) l := by
  subst hn
  refine ⟨_, _, rfl, fun h => (by cases h), .inr ⟨_, _, rfl, Nat.le_refl _, hl, by simp, fun i hi => ?_⟩⟩
  rw [Nat.zero_add, World.cell?_alloc_at _ e _ i rfl]
  simpa using txC_get l i hi

/-- What a call was lent: the texts l, and behind them two more in the same block. -/
def LentTx (w : World) (base : Nat) (v : Value) (l : List ByteArray) (x y : ByteArray) : Prop := ∃ g cap, v = .slice (some ⟨g, 0, none⟩) l.length cap ∧ base ≤ g ∧ g < w.heap.size ∧ l.length + 2 ≤ cap ∧ cap ≤ maxLen ∧ TxIn w g 0 (l ++ [x, y])
theorem LentTx.below {w w' : World} {base : Nat} {v : Value} {l : List ByteArray} {x y : ByteArray} (h : LentTx w base v l x y) (hb : Below w.heap.size w w') : LentTx w' base v l x y := by
  obtain ⟨g, cap, rfl, h1, h2, h3, h4, h5⟩ := h
  exact ⟨g, cap, rfl, h1, Nat.lt_of_lt_of_le h2 hb.size, h3, h4, h5.below hb h2⟩
theorem LentTx.is {w : World} {base : Nat} {v : Value} {l : List ByteArray} {x y : ByteArray} (h : LentTx w base v l x y) : IsTx w v l := by
  obtain ⟨g, cap, rfl, h1, h2, h3, h4, h5⟩ := h
  refine ⟨_, _, rfl, fun h => (by cases h), .inr ⟨g, 0, rfl, by omega, h4, h2, fun i hi => ?_⟩⟩
  rw [h5 i (by simp; omega), List.getElem_append_left hi]

/-- A slice of texts that came in: what it holds, how long it may be. -/
theorem open_tx {H : Type} {enc : TypeId × Value → H} {P : Program} {W : World} {spare : Nat → Bool} {held : Bool} {base b0 : Nat} {r : Reach} {t e : TypeId} {v : Value} {d : DataW H} {p : List MemPlace} (ht : P.underlying t = some (.slice e)) (he : P.underlying e = some .string) (hc : P.cellsOf e = 1) (hby : P.bytesOf e = 16)
    (hv : Value.okWide P W r b0 t v) (h : DataW.Trod enc P W base spare held t v d p) (hlt : ∀ x ∈ p, x.block < W.heap.size)
    {ts : List TypeId} {ds : List (DataW H)} {j : Nat} (hsz : (DataW.weightsEach P ts ds).all (· ≤ reachBytes) = true) (htj : ts[j]? = some t) (hdj : ds[j]? = some d) :
    ∃ l, IsTx W v l ∧ l.length * 16 ≤ 140737488351232 ∧ ∀ s ∈ l, s.size ≤ maxLen := by
  obtain ⟨a0, len, cap, rfl⟩ := Go.WideShapes.okWide_slice ht hv
  obtain ⟨fuel, hf⟩ := h
  rcases open_strings ht he hc hf with ⟨hcs, hx⟩ | ⟨a, len', cap', ss, hcs, _, hl, hm, hz, hx, hcell, hws⟩
  · simp [Value.cells] at hcs
    obtain ⟨rfl, rfl, rfl⟩ := hcs
    exact ⟨[], ⟨none, 0, rfl, fun _ => rfl, .inl rfl⟩, by simp, by simp⟩
  · simp [Value.cells] at hcs
    obtain ⟨rfl, rfl, rfl⟩ := hcs
    simp only [Prod.mk.injEq] at hx
    obtain ⟨rfl, rfl⟩ := hx
    have hls : len ≤ ss.length := by rw [hz]; split <;> omega
    have hlen : (ss.take len).length = len := by rw [List.length_take]; omega
    refine ⟨ss.take len, ⟨some a, cap, by rw [hlen], fun h => (by cases h), ?_⟩, ?_, fun s hs => hws s (List.mem_of_mem_take hs)⟩
    · by_cases hl0 : len = 0
      · left; rw [hl0]; rfl
      · right
        obtain ⟨b, off, spot⟩ := a
        have hspot : spot = none := by simpa [Addr.add] using World.cell?_spot (hcell 0 (by omega))
        subst hspot
        have hbW : b < W.heap.size := hlt (.cell b off) (MemPlace.mem_row.2 ⟨0, by omega, by simp⟩)
        refine ⟨b, off, rfl, by rw [hlen]; exact hl, hm, hbW, fun i hi => ?_⟩
        rw [← Go.WideShapes.add_plain, hcell i (by omega), List.getElem_take, List.getD_eq_getElem?_getD, List.getElem?_eq_getElem (by omega)]
        rfl
    · have := sized_slice hsz htj hdj ht
      rw [hby] at this
      simp only [strs, List.length_map, List.length_take, List.length_drop, reachBytes] at this
      rw [hlen]
      omega
end Go.Proofs.Ytgkmallikomnaaa.TxtRow

/- The contracts of the laws' helpers on rows of texts, and of an error's number. -/
namespace Go.Proofs.Ytgkmallikomnaaa.TxtHelp
open Go.Proofs.Ytgkmallikomnaaa Go.RowKit Go.Proofs.Ytgkmallikomnaaa.Bytes Go.Proofs.Ytgkmallikomnaaa.TxtRow Go.Proofs.Ytgkmallikomnaaa.OpsRow

theorem numB_any (n : Int) (w : World) : Calls Try.prog 11 #[.int .i64 n] w fun e w' => e = .returned (.int .i64 n) ∧ w' = w := by
  go_enter Try.func11, Try.ntmps11
  go_wp2
  go_ret
  exact ⟨rfl, rfl⟩
theorem info_str : (Try.prog.info? 9).map (fun i => (i.zero, i.size, i.bytes)) = some (some (.string ⟨#[]⟩), 1, 16) := by kernel_rfl
def roomS : ByteArray := ⟨#[126, 114, 111, 111, 109]⟩
def behindS : ByteArray := ⟨#[126, 98, 101, 104, 105, 110, 100]⟩
end Go.Proofs.Ytgkmallikomnaaa.TxtHelp

/- The contracts of package blocks: the pieces of a text, a row that is owned; the text of some pieces; whatever the arguments. Of what was there nothing has turned. -/
namespace Go.Proofs.Ytgkmallikomnaaa.BloWalk
open Go.Proofs.Ytgkmallikomnaaa Go.RowKit Go.Proofs.Ytgkmallikomnaaa.Bytes Go.Proofs.Ytgkmallikomnaaa.NorWalk Go.Proofs.Ytgkmallikomnaaa.EntRow Go.Proofs.Ytgkmallikomnaaa.EntLow Go.Proofs.Ytgkmallikomnaaa.ImgClone Go.Proofs.Ytgkmallikomnaaa.TxtRow Go.Proofs.Ytgkmallikomnaaa.TxtHelp Go.Proofs.Ytgkmallikomnaaa.Blo

theorem run_min2 {P : Program} (a b k : Int) (h : k = min a b) (ts : Array TypeId) (t : TypeId) (w : World) : (Builtin.min_ ts t #[.int .i64 a, .int .i64 b]).run P w = .ok (.int .i64 k) w := by
  simp [Builtin.min_, Builtin.min2]
  subst h
  repeat split
  all_goals omega
set_option maxRecDepth 100000 in
set_option maxHeartbeats 400000 in
theorem split_no (s : ByteArray) (w : World) (h : splitOk s = false) : Calls Try.prog 52 #[.string s] w fun e w' => e = .returned (.tuple #[.slice none 0 0, .int .i64 1000]) ∧ w' = w := by
  have h' := of_decide_eq_false h
  clear h
  by_cases h1 : (s.size : Int) < 1
  · clear h'
    go_enter Try.func52, Try.ntmps52
    go_wp2
    go_ret2
    exact ⟨rfl, rfl⟩
  · have h2 : (288 : Int) < (s.size : Int) := by omega
    clear h'
    go_enter Try.func52, Try.ntmps52
    go_wp2
    go_ret2
    exact ⟨rfl, rfl⟩
set_option maxRecDepth 100000 in
set_option maxHeartbeats 1000000 in
theorem split_yes (s : ByteArray) (w : World) (h : splitOk s = true) : Calls Try.prog 52 #[.string s] w fun e w' => ∃ v, e = .returned (.tuple #[v, .int .i64 0]) ∧ w'.ownsRow w.heap.size 9 1 v (nP s) (txC (piecesTo s (nP s))) ∧ Below w.heap.size w w' := by
  have h' := of_decide_eq_true h
  obtain ⟨hs1, hs2⟩ := h'
  obtain ⟨i, hi, hz0, hz1, hz2⟩ := info_parts info_str
  have HN : Hid (nP s = (s.size + 31) / 32) := rfl
  clear h
  generalize hN : nP s = N at *
  clear hN
  go_enter Try.func52, Try.ntmps52
  go_wp2
  go_loopw [4, 5] (fun v x wr => ∃ j p : Nat, j ≤ N ∧ Hid (p = 32 * j) ∧ x = .int .i64 (p : Int) ∧ wr.ownsRow w.heap.size 9 1 v j (txC (piecesTo s j)) ∧ Below w.heap.size w wr) (fun _ x _ => 32 * N - (intOf x).toNat)
  case atStart => exact ⟨0, 0, Nat.zero_le _, rfl, rfl, ownsT_nil _ _ _, Below.refl _ _⟩
  case round =>
    obtain ⟨j, p, hj, HP, rfl, hown, hbel⟩ := hrel
    have hN := HN.out
    have hp := HP.out
    by_cases hlt : j < N
    · have hpl : (p : Int) < (s.size : Int) := by omega
      obtain ⟨q, hq⟩ : ∃ q : Nat, q = min (32 * j + 32) s.size := ⟨_, rfl⟩
      have hmn := fun ts t w => run_min2 (P := Try.prog) ((p : Int) + 32) (s.size : Int) (q : Int) (by omega) ts t w
      have hq1 : q ≤ s.size := by omega
      have hq2 : p ≤ q := by omega
      have hp9 : p ≤ 288 := by omega
      have HX : Hid (s.extract p q = pieceS s j) := by subst hq hp; rfl
      have s1 := hbel.size
      have b1 : j + 1 ≤ maxLen := by unfold maxLen; omega
      have b2 : (j + 1) * 16 ≤ 140737488355328 := by omega
      have hXs : (s.extract p q).size ≤ 281474976710656 := by rw [ByteArray.size_extract]; omega
      have HC := hide (fun w => clone_any (s.extract p q) w hXs)
      have HQ : Hid (p + 32 = 32 * (j + 1)) := by show p + 32 = 32 * (j + 1); omega
      clear hq hp hN hXs
      go_wp2_with (first | (go_at_call 41; refine (HC.out _).mono ?_; rintro e w1 ⟨rfl, hb1⟩; have s2 := hb1.size) | (at_builtin; refine wpList_append_lies _ rfl _ _ _ rfl w.heap.size 9 i _ 1 16 Try.underlying44 hi hz0 hz1 hz2 rfl (by omega) u4 j _ rfl ((OpsRow.owns_below hown hb1).alloc _) ⟨w1.heap.size, 0, none⟩ 1 1 _ rfl rfl (World.news_of_block (heap_alloc_new w1 _)) (txC_oneCell [_]) (by omega) b1 b2 (by simp; omega) _ rfl ?_; intro g cap w2 hown1 hgrow hat hlt1))
      refine ⟨⟨j + 1, p + 32, by omega, HQ, by go_num, ?_, ?_⟩, by simp [intOf]; have := HQ.out; omega⟩
      · rw [piecesTo_succ, txC_append, ← HX.out]
        exact hown1
      · exact (((thenB hbel hb1)).alloc (by omega) _).grown hgrow (by simp; omega) (fun k hk => (hown.lt k hk).1)
    · obtain rfl : j = N := by omega
      have hpl : ¬ (p : Int) < (s.size : Int) := by omega
      clear hN hp hj hlt
      go_wp2
      go_ret2
      exact ⟨_, rfl, hown, hbel⟩
theorem split_any (s : ByteArray) (w : World) : Calls Try.prog 52 #[.string s] w fun e w' => ∃ v, e = .returned (.tuple #[v, .int .i64 (errB (splitOk s))]) ∧ w'.ownsRow w.heap.size 9 1 v (splitL s).length (txC (splitL s)) ∧ Below w.heap.size w w' := by
  cases h : splitOk s with
  | false =>
    rw [splitL_no h]
    refine (split_no s w h).mono ?_
    rintro e w' ⟨rfl, rfl⟩
    exact ⟨_, rfl, ownsT_nil _ _ _, Below.refl _ _⟩
  | true =>
    rw [splitL_ok h, length_piecesTo]
    exact split_yes s w h
theorem str_empty : Lib.strCells ⟨#[]⟩ = [] := rfl
theorem strCells_append (a b : ByteArray) : Lib.strCells (a ++ b) = Lib.strCells a ++ Lib.strCells b := by
  unfold Lib.strCells
  rw [list_append, List.map_append]
theorem owned_text {P : Program} {w : World} {base : Nat} {e : TypeId} {g cap : Nat} {s : ByteArray} (h : w.ownsRow base e 1 (.slice (some ⟨g, 0, none⟩) s.size cap) s.size (Lib.strCells s)) (src dst : TypeId) (hs : P.underlying src = some (.slice e)) (he : P.underlying e = some (.int .u8)) (hd : P.underlying dst = some .string) :
    (convert src dst (.slice (some ⟨g, 0, none⟩) s.size cap)).run P w = .ok (.string s) w := by
  have hr : Row w g s.data.toList := by
    refine ⟨fun j hj => ?_, fun j _ => h.frozenAt j⟩
    have hj' : j < s.size := by rw [Array.length_toList] at hj; exact hj
    rw [h.cellAt j (by omega)]
    unfold Lib.strCells
    rw [List.getElem?_map, List.getElem?_eq_getElem hj]
    rfl
  have := hr.text (P := P) src dst e cap s.size (by rw [Array.length_toList]; rfl) hs he hd
  rw [this]
end Go.Proofs.Ytgkmallikomnaaa.BloWalk
