/- Records with their places in memory: a row of them that a call has made or reads, five cells each; one of them in a block of its own. No program is named here. -/
import Derived.Test.YthpoefaipmcceaaJouMath
import Derived.Test.YthpoefaipmcceaaOpsRow
import Derived.Test.YthpoefaipmcceaaEntRow
namespace Go.Proofs.Ythpoefaipmcceaa.JouRow
open Go.Proofs.Ythpoefaipmcceaa Go.RowKit Go.Proofs.Ythpoefaipmcceaa.Bytes Go.Proofs.Ythpoefaipmcceaa.Jou

def cellsP (p : FPl) : List Value := [.int .i64 p.pa, .int .i64 p.pq, .int .i64 p.pt, .int .i64 p.pz, .int .i64 p.pm]
def flatP (l : List FPl) : List Value := l.flatMap cellsP
theorem flatP_append (a b : List FPl) : flatP (a ++ b) = flatP a ++ flatP b := by unfold flatP; rw [List.flatMap_append]
theorem length_flatP (l : List FPl) : (flatP l).length = l.length * 5 := by
  induction l with
  | nil => rfl
  | cons o l ih =>
    show (cellsP o ++ flatP l).length = _
    rw [List.length_append, ih]
    show 5 + l.length * 5 = (l.length + 1) * 5
    omega
theorem flatP_get : ∀ (l : List FPl) (i j : Nat) (h : i < l.length), j < 5 → (flatP l)[i * 5 + j]? = (cellsP l[i])[j]?
  | o :: l, 0, j, _, hj => by
    show (cellsP o ++ flatP l)[0 * 5 + j]? = _
    rw [Nat.zero_mul, Nat.zero_add, List.getElem?_append_left (by show j < 5; exact hj)]
    rfl
  | o :: l, i + 1, j, h, hj => by
    show (cellsP o ++ flatP l)[(i + 1) * 5 + j]? = _
    rw [List.getElem?_append_right (by show 5 ≤ _; omega), show (i + 1) * 5 + j - (cellsP o).length = i * 5 + j from by show _ - 5 = _; omega, flatP_get l i j (by simpa using h) hj]
    rfl
theorem flatP_oneCell (l : List FPl) : ∀ u ∈ flatP l, u.oneCell' = true := by
  intro u hu
  unfold flatP at hu
  rw [List.mem_flatMap] at hu
  obtain ⟨o, _, ho⟩ := hu
  unfold cellsP at ho
  simp at ho
  rcases ho with rfl | rfl | rfl | rfl | rfl <;> rfl

/-- The records l lie in block g, from its first cell on. -/
structure PlIn (w : World) (g : Nat) (l : List FPl) : Prop where
  pa : ∀ i (h : i < l.length), w.cell? ⟨g, i * 5, none⟩ = some (.int .i64 l[i].pa)
  pq : ∀ i (h : i < l.length), w.cell? ⟨g, i * 5 + 1, none⟩ = some (.int .i64 l[i].pq)
  pt : ∀ i (h : i < l.length), w.cell? ⟨g, i * 5 + 2, none⟩ = some (.int .i64 l[i].pt)
  pz : ∀ i (h : i < l.length), w.cell? ⟨g, i * 5 + 3, none⟩ = some (.int .i64 l[i].pz)
  pm : ∀ i (h : i < l.length), w.cell? ⟨g, i * 5 + 4, none⟩ = some (.int .i64 l[i].pm)
/-- The value v is a slice of the records l. -/
def IsPl (w : World) (v : Value) (l : List FPl) : Prop := ∃ a cap, v = .slice a l.length cap ∧ (l = [] ∨ ∃ g, a = some ⟨g, 0, none⟩ ∧ g < w.heap.size ∧ PlIn w g l)
theorem PlIn.below {w w' : World} {g : Nat} {l : List FPl} (h : PlIn w g l) {B : Nat} (hb : Below B w w') (hg : g < B) : PlIn w' g l :=
  ⟨fun i hi => by rw [hb.cell (p := ⟨g, i * 5, none⟩) hg]; exact h.pa i hi, fun i hi => by rw [hb.cell (p := ⟨g, i * 5 + 1, none⟩) hg]; exact h.pq i hi, fun i hi => by rw [hb.cell (p := ⟨g, i * 5 + 2, none⟩) hg]; exact h.pt i hi, fun i hi => by rw [hb.cell (p := ⟨g, i * 5 + 3, none⟩) hg]; exact h.pz i hi, fun i hi => by rw [hb.cell (p := ⟨g, i * 5 + 4, none⟩) hg]; exact h.pm i hi⟩
theorem IsPl.below {w w' : World} {v : Value} {l : List FPl} (h : IsPl w v l) (hb : Below w.heap.size w w') : IsPl w' v l := by
  obtain ⟨a, cap, rfl, h⟩ := h
  refine ⟨a, cap, rfl, ?_⟩
  rcases h with h | ⟨g, rfl, hg, ho⟩
  · exact .inl h
  · exact .inr ⟨g, rfl, Nat.lt_of_lt_of_le hg hb.size, ho.below hb hg⟩
theorem ownsP_in {w : World} {base : Nat} {e : TypeId} {g cap n : Nat} {l : List FPl} (h : w.ownsRow base e 5 (.slice (some ⟨g, 0, none⟩) n cap) n (flatP l)) : n = l.length ∧ g < w.heap.size ∧ PlIn w g l := by
  have hn : n = l.length := by have := h.1; rw [length_flatP] at this; omega
  subst hn
  refine ⟨rfl, (h.lt g rfl).2, ?_, ?_, ?_, ?_, ?_⟩
  · intro i hi
    rw [h.cellAt (i * 5) (by omega)]
    exact flatP_get l i 0 hi (by omega)
  · intro i hi
    rw [h.cellAt (i * 5 + 1) (by omega)]
    exact flatP_get l i 1 hi (by omega)
  · intro i hi
    rw [h.cellAt (i * 5 + 2) (by omega)]
    exact flatP_get l i 2 hi (by omega)
  · intro i hi
    rw [h.cellAt (i * 5 + 3) (by omega)]
    exact flatP_get l i 3 hi (by omega)
  · intro i hi
    rw [h.cellAt (i * 5 + 4) (by omega)]
    exact flatP_get l i 4 hi (by omega)
theorem ownsP_is {w : World} {base : Nat} {e : TypeId} {v : Value} {n : Nat} {l : List FPl} (h : w.ownsRow base e 5 v n (flatP l)) : IsPl w v l := by
  have hn : n = l.length := by have := h.1; rw [length_flatP] at this; omega
  subst hn
  have h2 := h.2
  rcases h2 with ⟨rfl, h0⟩ | ⟨g, cap, cur, rfl, _⟩
  · exact ⟨none, 0, by rw [h0], .inl (List.length_eq_zero_iff.1 h0)⟩
  · obtain ⟨_, h1, h2⟩ := ownsP_in h
    exact ⟨_, cap, rfl, .inr ⟨g, rfl, h1, h2⟩⟩
theorem ownsP_nil (w : World) (base : Nat) (e : TypeId) : w.ownsRow base e 5 (.slice none 0 0) 0 (flatP []) := ⟨rfl, .inl ⟨rfl, rfl⟩⟩
/-- Where there is one at least: the slice written out. -/
theorem ownsP_form {w : World} {base : Nat} {e : TypeId} {v : Value} {n : Nat} {l : List FPl} (h : w.ownsRow base e 5 v n (flatP l)) (hl : 0 < l.length) : ∃ g cap, v = .slice (some ⟨g, 0, none⟩) l.length cap ∧ l.length ≤ cap ∧ cap ≤ maxLen ∧ base ≤ g ∧ g < w.heap.size ∧ PlIn w g l := by
  have hn : n = l.length := by have := h.1; rw [length_flatP] at this; omega
  subst hn
  rcases h.2 with ⟨h0, h1⟩ | ⟨g, cap, cur, rfl, h1, _, h3, h4, _⟩
  · omega
  · obtain ⟨_, g1, g2⟩ := ownsP_in h
    exact ⟨g, cap, rfl, by omega, by omega, h1, g1, g2⟩

/-- A struct of five cells in a block of its own that may be written, and behind a call that leaves what was there. -/
def Box5 (w : World) (B : Nat) (a b c d e : Value) : Prop := B < w.heap.size ∧ w.cell? ⟨B, 0, none⟩ = some a ∧ w.cell? ⟨B, 1, none⟩ = some b ∧ w.cell? ⟨B, 2, none⟩ = some c ∧ w.cell? ⟨B, 3, none⟩ = some d ∧ w.cell? ⟨B, 4, none⟩ = some e ∧ ∀ i, w.frozen? ⟨B, i, none⟩ = false
theorem box5B {w w' : World} {B : Nat} {a b c d e : Value} (h : Box5 w B a b c d e) (hb : Below w.heap.size w w') : Box5 w' B a b c d e := by
  obtain ⟨h0, h1, h2, h3, h4, h5, h6⟩ := h
  exact ⟨Nat.lt_of_lt_of_le h0 hb.size, by rw [hb.cell (p := ⟨B, 0, none⟩) h0]; exact h1, by rw [hb.cell (p := ⟨B, 1, none⟩) h0]; exact h2, by rw [hb.cell (p := ⟨B, 2, none⟩) h0]; exact h3, by rw [hb.cell (p := ⟨B, 3, none⟩) h0]; exact h4, by rw [hb.cell (p := ⟨B, 4, none⟩) h0]; exact h5, fun i => by rw [hb.frozen (p := ⟨B, i, none⟩) h0]; exact h6 i⟩
theorem box5M (w : World) (a b c d e : Value) (t : TypeId) : Box5 (w.alloc (.cells #[a, b, c, d, e] t)) w.heap.size a b c d e :=
  ⟨by simp, by rw [World.cell?_alloc_at _ t _ 0 rfl]; rfl, by rw [World.cell?_alloc_at _ t _ 1 rfl]; rfl, by rw [World.cell?_alloc_at _ t _ 2 rfl]; rfl, by rw [World.cell?_alloc_at _ t _ 3 rfl]; rfl, by rw [World.cell?_alloc_at _ t _ 4 rfl]; rfl, fun i => World.frozen?_alloc_at _ t _ i rfl⟩
end Go.Proofs.Ythpoefaipmcceaa.JouRow
