/- Pieces of a text, and pieces laid together again, on lists. No program is named here. -/
import Derived.Test.YtpoigakjhhkifaaBytes
namespace Go.Proofs.Ytpoigakjhhkifaa.Blo
open Go.RowKit Go.Proofs.Ytpoigakjhhkifaa.Bytes

def splitOk (s : ByteArray) : Bool := decide (1 ≤ s.size ∧ s.size ≤ 288)
def errB (b : Bool) : Int := if b then 0 else 1000
def pieceS (s : ByteArray) (j : Nat) : ByteArray := s.extract (32 * j) (min (32 * j + 32) s.size)
def piecesTo (s : ByteArray) (n : Nat) : List ByteArray := (List.range n).map (pieceS s)
def nP (s : ByteArray) : Nat := (s.size + 31) / 32
def splitL (s : ByteArray) : List ByteArray := if splitOk s then piecesTo s (nP s) else []
theorem splitL_ok {s : ByteArray} (h : splitOk s = true) : splitL s = piecesTo s (nP s) := by unfold splitL; rw [h]; rfl
theorem splitL_no {s : ByteArray} (h : splitOk s = false) : splitL s = [] := by unfold splitL; rw [h]; rfl
theorem piecesTo_succ (s : ByteArray) (n : Nat) : piecesTo s (n + 1) = piecesTo s n ++ [pieceS s n] := by unfold piecesTo; rw [List.range_succ, List.map_append]; rfl
theorem length_piecesTo (s : ByteArray) (n : Nat) : (piecesTo s n).length = n := by simp [piecesTo]
theorem get_piecesTo (s : ByteArray) (n i : Nat) (h : i < (piecesTo s n).length) : (piecesTo s n)[i] = pieceS s i := by simp [piecesTo]
theorem size_piece (s : ByteArray) (j : Nat) : (pieceS s j).size = min (32 * j + 32) s.size - 32 * j := by
  unfold pieceS
  rw [ByteArray.size_extract]
  omega
theorem nP_pos {s : ByteArray} (h : splitOk s = true) : 1 ≤ nP s ∧ nP s ≤ 9 := by
  have := of_decide_eq_true h
  unfold nP
  omega
/-- A piece of a text: whole but for the last one. -/
theorem size_whole {s : ByteArray} {j : Nat} (h : j + 1 < nP s) : (pieceS s j).size = 32 := by
  rw [size_piece]
  unfold nP at h
  omega
theorem size_each {s : ByteArray} {j : Nat} (h : j < nP s) : 1 ≤ (pieceS s j).size ∧ (pieceS s j).size ≤ 32 := by
  rw [size_piece]
  unfold nP at h
  omega

def joinTo (l : List ByteArray) : Nat → ByteArray
  | 0 => ⟨#[]⟩
  | n + 1 => joinTo l n ++ l.getD n ⟨#[]⟩
theorem joinTo_succ (l : List ByteArray) (j : Nat) (h : j < l.length) : joinTo l (j + 1) = joinTo l j ++ l[j] := by
  show joinTo l j ++ l.getD j ⟨#[]⟩ = _
  rw [List.getD_eq_getElem?_getD, List.getElem?_eq_getElem h]
  rfl
/-- The first n of them are as pieces are. -/
def Good (l : List ByteArray) (n : Nat) : Prop := ∀ i (h : i < l.length), i < n → 1 ≤ l[i].size ∧ l[i].size ≤ 32 ∧ (i + 1 < l.length → l[i].size = 32)
def JoinOk (l : List ByteArray) : Prop := 1 ≤ l.length ∧ l.length ≤ 9 ∧ Good l l.length
/-- Piece i of these is as pieces are. -/
def pieceOk (l : List ByteArray) (i : Nat) : Bool := decide (1 ≤ (l.getD i ⟨#[]⟩).size) && (decide ((l.getD i ⟨#[]⟩).size ≤ 32) && (decide (l.length ≤ i + 1) || decide ((l.getD i ⟨#[]⟩).size = 32)))
def joinB (l : List ByteArray) : Bool := decide (1 ≤ l.length) && (decide (l.length ≤ 9) && (List.range l.length).all (pieceOk l))
def joinS (l : List ByteArray) : ByteArray := if joinB l then joinTo l l.length else ⟨#[]⟩
theorem getD_at (l : List ByteArray) (i : Nat) (h : i < l.length) : l.getD i ⟨#[]⟩ = l[i] := by
  rw [List.getD_eq_getElem?_getD, List.getElem?_eq_getElem h]
  rfl
theorem pieceOk_iff (l : List ByteArray) (i : Nat) (h : i < l.length) : pieceOk l i = true ↔ 1 ≤ l[i].size ∧ l[i].size ≤ 32 ∧ (i + 1 < l.length → l[i].size = 32) := by
  unfold pieceOk
  rw [getD_at l i h]
  simp only [Bool.and_eq_true, Bool.or_eq_true, decide_eq_true_eq]
  constructor
  · rintro ⟨h1, h2, h3⟩
    exact ⟨h1, h2, fun h4 => by omega⟩
  · rintro ⟨h1, h2, h3⟩
    exact ⟨h1, h2, by omega⟩
theorem joinB_iff (l : List ByteArray) : joinB l = true ↔ JoinOk l := by
  unfold joinB JoinOk Good
  rw [Bool.and_eq_true, Bool.and_eq_true, decide_eq_true_eq, decide_eq_true_eq, List.all_eq_true]
  constructor
  · rintro ⟨h1, h2, h3⟩
    exact ⟨h1, h2, fun i hi _ => (pieceOk_iff l i hi).1 (h3 i (List.mem_range.2 hi))⟩
  · rintro ⟨h1, h2, h3⟩
    exact ⟨h1, h2, fun i hi => (pieceOk_iff l i (List.mem_range.1 hi)).2 (h3 i (List.mem_range.1 hi) (List.mem_range.1 hi))⟩
theorem joinB_t {l : List ByteArray} (h : JoinOk l) : joinB l = true := (joinB_iff l).2 h
theorem joinB_of {l : List ByteArray} (h : joinB l = true) : JoinOk l := (joinB_iff l).1 h
theorem joinB_f {l : List ByteArray} (h : ¬ JoinOk l) : joinB l = false := by
  cases e : joinB l with
  | false => rfl
  | true => exact absurd (joinB_of e) h
theorem joinB_not {l : List ByteArray} (h : joinB l = false) : ¬ JoinOk l := fun g => by rw [joinB_t g] at h; cases h
theorem joinS_t {l : List ByteArray} (h : joinB l = true) : joinS l = joinTo l l.length := by unfold joinS; rw [h]; rfl
theorem joinS_f {l : List ByteArray} (h : joinB l = false) : joinS l = ⟨#[]⟩ := by unfold joinS; rw [h]; rfl
theorem Good.zero (l : List ByteArray) : Good l 0 := fun i _ h => by omega
theorem Good.succ {l : List ByteArray} {n : Nat} (h : Good l n) (hn : n < l.length) (h1 : 1 ≤ l[n].size) (h2 : l[n].size ≤ 32) (h3 : n + 1 < l.length → l[n].size = 32) : Good l (n + 1) := fun i hi hin => by
  by_cases e : i = n
  · subst e
    exact ⟨h1, h2, h3⟩
  · exact h i hi (by omega)
theorem size_good {l : List ByteArray} : ∀ {n : Nat}, Good l n → n < l.length → (joinTo l n).size = 32 * n
  | 0, _, _ => rfl
  | n + 1, h, hn => by
    rw [joinTo_succ l n (by omega), ByteArray.size_append, size_good (n := n) (fun i hi hin => h i hi (by omega)) (by omega), (h n (by omega) (by omega)).2.2 hn]
    omega
theorem size_end {l : List ByteArray} {n : Nat} (h : Good l (n + 1)) (hn : n < l.length) : 32 * n + 1 ≤ (joinTo l (n + 1)).size ∧ (joinTo l (n + 1)).size ≤ 32 * n + 32 := by
  rw [joinTo_succ l n hn, ByteArray.size_append, size_good (n := n) (fun i hi hin => h i hi (by omega)) hn]
  have := h n hn (by omega)
  omega
theorem ok_end {l : List ByteArray} (h : Good l l.length) : JoinOk l ↔ 1 ≤ (joinTo l l.length).size ∧ (joinTo l l.length).size ≤ 288 := by
  unfold JoinOk
  by_cases e : l.length = 0
  · rw [e]
    show _ ↔ 1 ≤ (0 : Nat) ∧ _
    omega
  · obtain ⟨n, hn⟩ : ∃ n, l.length = n + 1 := ⟨l.length - 1, by omega⟩
    rw [hn] at h ⊢
    have := size_end h (by omega)
    constructor
    · rintro ⟨_, h2, _⟩; omega
    · rintro ⟨_, h2⟩; exact ⟨by omega, by omega, h⟩
theorem not_good {l : List ByteArray} {j : Nat} (hj : j < l.length) (h : ¬ (1 ≤ l[j].size ∧ l[j].size ≤ 32 ∧ (j + 1 < l.length → l[j].size = 32))) : joinB l = false :=
  joinB_f fun g => h (g.2.2 j hj hj)
theorem not_many {l : List ByteArray} (h : l.length < 1 ∨ 9 < l.length) : joinB l = false :=
  joinB_f fun g => by have := g.1; have := g.2.1; omega
theorem size_joinS {l : List ByteArray} (h : joinB l = true) : (joinS l).size ≤ 288 := by
  rw [joinS_t h]
  exact ((ok_end (joinB_of h).2.2).1 (joinB_of h)).2

theorem head_piece (s : ByteArray) (j : Nat) (h : 32 * j ≤ s.size) : s.extract 0 (32 * j) ++ pieceS s j = s.extract 0 (min (32 * j + 32) s.size) := by
  apply ba_ext
  unfold pieceS
  rw [list_append, list_head, list_extract, list_head, ← List.take_add]
  congr 1
  omega
theorem join_pieces (s : ByteArray) (n : Nat) : ∀ j, j ≤ n → 32 * j < s.size + 32 → joinTo (piecesTo s n) j = s.extract 0 (min (32 * j) s.size)
  | 0, _, _ => by
    apply ba_ext
    rw [list_head]
    show [] = _
    simp
  | j + 1, hj, hs => by
    rw [joinTo_succ _ j (by rw [length_piecesTo]; omega), get_piecesTo, join_pieces s n j (by omega) (by omega), show min (32 * j) s.size = 32 * j from by omega, head_piece s j (by omega)]
    rfl
/-- What is split comes back. -/
theorem split_good {s : ByteArray} (h : splitOk s = true) : joinB (splitL s) = true := by
  have hn := nP_pos h
  rw [splitL_ok h]
  refine joinB_t ⟨by rw [length_piecesTo]; omega, by rw [length_piecesTo]; omega, fun i hi _ => ?_⟩
  rw [length_piecesTo] at hi
  rw [get_piecesTo, length_piecesTo]
  exact ⟨(size_each hi).1, (size_each hi).2, fun g => size_whole g⟩
theorem join_split {s : ByteArray} (h : splitOk s = true) : joinS (splitL s) = s := by
  rw [joinS_t (split_good h), splitL_ok h, length_piecesTo, join_pieces s _ _ (Nat.le_refl _) (by unfold nP; omega)]
  apply ba_ext
  rw [list_head, List.take_of_length_le]
  rw [Array.length_toList, show s.data.size = s.size from rfl]
  unfold nP
  omega
/-- Byte k of a text: in piece k / 32, at k modulo 32. -/
theorem get_piece (s : ByteArray) (k : Nat) (h : k < s.size) (h' : k % 32 < (pieceS s (k / 32)).size) : (pieceS s (k / 32))[k % 32] = s[k] := by
  have e : (pieceS s (k / 32)).data.toList[k % 32]? = s.data.toList[k]? := by
    unfold pieceS
    rw [list_extract, List.getElem?_take_of_lt (by omega), List.getElem?_drop]
    congr 1
    omega
  have h1 : k % 32 < (pieceS s (k / 32)).data.toList.length := by rw [Array.length_toList]; exact h'
  have h2 : k < s.data.toList.length := by rw [Array.length_toList]; exact h
  rw [List.getElem?_eq_getElem h1, List.getElem?_eq_getElem h2] at e
  simp at e
  exact e
end Go.Proofs.Ytpoigakjhhkifaa.Blo
