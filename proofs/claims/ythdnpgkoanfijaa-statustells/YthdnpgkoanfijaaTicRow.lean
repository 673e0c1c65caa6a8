/- A slice of steps in memory of a call's own that may be written: wherever in its block it begins; its tail. No program is named here. -/
import Derived.Test.YthdnpgkoanfijaaBagDev
namespace Go.Proofs.Ythdnpgkoanfijaa.TicRow
open Go.Proofs.Ythdnpgkoanfijaa Go.RowKit Go.Proofs.Ythdnpgkoanfijaa.Bytes Go.Proofs.Ythdnpgkoanfijaa.Ops Go.Proofs.Ythdnpgkoanfijaa.OpsRow Go.Proofs.Ythdnpgkoanfijaa.DevRow Go.Proofs.Ythdnpgkoanfijaa.DevSet

/-- The value v is a slice of the steps l, in a block made since base, each cell of which may be written. -/
def OwnSt (w : World) (base : Nat) (v : Value) (l : List FOp) : Prop := ∃ a cap, v = .slice a l.length cap ∧ (a = none → cap = 0) ∧ (l = [] ∨ ∃ b o, a = some ⟨b, o, none⟩ ∧ l.length ≤ cap ∧ cap ≤ maxLen ∧ base ≤ b ∧ b < w.heap.size ∧ StIn w b o l ∧ ∀ i, w.frozen? ⟨b, i, none⟩ = false)
theorem OwnSt.is {w : World} {base : Nat} {v : Value} {l : List FOp} (h : OwnSt w base v l) : IsSt w v l := by
  obtain ⟨a, cap, rfl, h0, h⟩ := h
  refine ⟨a, cap, rfl, h0, ?_⟩
  rcases h with h | ⟨b, o, rfl, h1, h2, _, h3, h4, _⟩
  · exact .inl h
  · exact .inr ⟨b, o, rfl, h1, h2, h3, h4⟩
theorem OwnSt.below {w w' : World} {base : Nat} {v : Value} {l : List FOp} (h : OwnSt w base v l) (hb : Below w.heap.size w w') : OwnSt w' base v l := by
  obtain ⟨a, cap, rfl, h0, h⟩ := h
  refine ⟨a, cap, rfl, h0, ?_⟩
  rcases h with h | ⟨b, o, rfl, h1, h2, h3, h4, h5, h6⟩
  · exact .inl h
  · exact .inr ⟨b, o, rfl, h1, h2, h3, Nat.lt_of_lt_of_le h4 hb.size, h5.below hb h4, fun i => by rw [hb.frozen (p := ⟨b, i, none⟩) h4]; exact h6 i⟩
theorem OwnSt.mono {w : World} {base base' : Nat} {v : Value} {l : List FOp} (h : OwnSt w base v l) (hb : base' ≤ base) : OwnSt w base' v l := by
  obtain ⟨a, cap, rfl, h0, h⟩ := h
  refine ⟨a, cap, rfl, h0, ?_⟩
  rcases h with h | ⟨b, o, rfl, h1, h2, h3, rest⟩
  · exact .inl h
  · exact .inr ⟨b, o, rfl, h1, h2, Nat.le_trans hb h3, rest⟩
theorem own_none (w : World) (base : Nat) : OwnSt w base (.slice none 0 0) [] := ⟨none, 0, rfl, fun _ => rfl, .inl rfl⟩
theorem own_of {w : World} {base : Nat} {e : TypeId} {v : Value} {n : Nat} {l : List FOp} (h : w.ownsRow base e 3 v n (flat l)) : OwnSt w base v l := by
  have hn : n = l.length := by have := h.1; rw [length_flat] at this; omega
  subst hn
  rcases h.2 with ⟨rfl, h0⟩ | ⟨g, cap, cur, rfl, hg, _, h1, h2, _⟩
  · exact ⟨none, 0, by rw [h0], fun _ => rfl, .inl (List.length_eq_zero_iff.1 h0)⟩
  · obtain ⟨_, h3, h4⟩ := owns_in h
    exact ⟨_, cap, rfl, fun h => (by cases h), .inr ⟨g, 0, rfl, h1, h2, hg, h3, ⟨fun i hi => by rw [Nat.zero_add]; exact h4.er i hi, fun i hi => by rw [Nat.zero_add]; exact h4.pl i hi, fun i hi => by rw [Nat.zero_add]; exact h4.tx i hi⟩, h.frozenAt⟩⟩
theorem OwnSt.form {w : World} {base : Nat} {v : Value} {l : List FOp} (h : OwnSt w base v l) : ∃ a c, v = .slice a l.length c := by
  obtain ⟨a, cap, rfl, _⟩ := h
  exact ⟨a, cap, rfl⟩
/-- A store below the row. -/
theorem OwnSt.set {w : World} {base : Nat} {v : Value} {l : List FOp} (h : OwnSt w base v l) {B : Nat} (hB : B < base) (i : Nat) (y : Value) : OwnSt (w.setCell ⟨B, i, none⟩ y) base v l := by
  obtain ⟨a, cap, rfl, h0, h⟩ := h
  refine ⟨a, cap, rfl, h0, ?_⟩
  rcases h with h | ⟨b, o, rfl, h1, h2, h3, h4, h5, h6⟩
  · exact .inl h
  · have hne : ∀ j, (w.setCell ⟨B, i, none⟩ y).cell? ⟨b, j, none⟩ = w.cell? ⟨b, j, none⟩ := fun j => World.cell?_setCell_other w _ _ _ (ne_blk (by omega))
    exact .inr ⟨b, o, rfl, h1, h2, h3, by rw [size_set]; exact h4, ⟨fun i hi => by rw [hne]; exact h5.er i hi, fun i hi => by rw [hne]; exact h5.pl i hi, fun i hi => by rw [hne]; exact h5.tx i hi⟩, fun i => by rw [World.frozen?_setCell]; exact h6 i⟩
theorem OwnSt.set6 {w : World} {base : Nat} {v : Value} {l : List FOp} (h : OwnSt w base v l) {B : Nat} (hB : B < base) (y0 y1 y2 y3 y4 y5 : Value) : OwnSt ((((((w.setCell ⟨B, 0, none⟩ y0).setCell ⟨B, 1, none⟩ y1).setCell ⟨B, 2, none⟩ y2).setCell ⟨B, 3, none⟩ y3).setCell ⟨B, 4, none⟩ y4).setCell ⟨B, 5, none⟩ y5) base v l :=
  (((((h.set hB 0 y0).set hB 1 y1).set hB 2 y2).set hB 3 y3).set hB 4 y4).set hB 5 y5
theorem st_tail {w : World} {b o : Nat} {s : FOp} {l : List FOp} (h : StIn w b o (s :: l)) : StIn w b (o + 3) l := by
  have e : ∀ i, o + 3 + i * 3 = o + (i + 1) * 3 := fun i => by omega
  exact ⟨fun i hi => by rw [e]; exact h.er (i + 1) (by simpa using hi), fun i hi => by rw [e]; exact h.pl (i + 1) (by simpa using hi), fun i hi => by rw [e]; exact h.tx (i + 1) (by simpa using hi)⟩
/-- What is known of a row with a first step: where it lies, its first cells; the row behind it. -/
theorem OwnSt.first {w : World} {base : Nat} {v : Value} {s : FOp} {l : List FOp} (h : OwnSt w base v (s :: l)) : ∃ b o cap, v = .slice (some ⟨b, o, none⟩) (l.length + 1) cap ∧ l.length + 1 ≤ cap ∧ cap ≤ maxLen ∧ base ≤ b ∧ b < w.heap.size ∧ w.cell? ⟨b, o, none⟩ = some (.bool s.er) ∧ w.cell? ⟨b, o + 1, none⟩ = some (.int .i64 s.pl) ∧ w.cell? ⟨b, o + 2, none⟩ = some (.string s.tx) := by
  obtain ⟨a, cap, rfl, h0, h⟩ := h
  rcases h with h | ⟨b, o, rfl, h1, h2, h3, h4, h5, h6⟩
  · cases h
  · refine ⟨b, o, cap, rfl, by simpa using h1, h2, h3, h4, ?_, ?_, ?_⟩
    · have := h5.er 0 (by simp); simpa using this
    · have := h5.pl 0 (by simp); simpa using this
    · have := h5.tx 0 (by simp); simpa using this
theorem OwnSt.rest {w : World} {base n cap : Nat} {a : Option Addr} {s : FOp} {l : List FOp} (h : OwnSt w base (.slice a n cap) (s :: l)) : (cap = 1 → OwnSt w base (.slice a l.length 0) l) ∧ (¬ cap = 1 → OwnSt w base (.slice (Option.map (fun x => { block := x.block, off := x.off + 3 }) a) l.length (cap - 1)) l) := by
  obtain ⟨a0, cap0, he, h0, h⟩ := h
  injection he with e1 e2 e3
  subst e1 e3
  rcases h with h | ⟨b, o, rfl, g1, g2, g3, g4, g5, g6⟩
  · cases h
  refine ⟨fun hc => ?_, fun hc => ?_⟩
  · have hl : l = [] := by
      cases l with
      | nil => rfl
      | cons t l => simp at g1; omega
    subst hl
    exact ⟨_, 0, rfl, fun h => (by cases h), .inl rfl⟩
  · refine ⟨_, cap - 1, rfl, fun h => (by cases h), ?_⟩
    cases l with
    | nil => exact .inl rfl
    | cons t l => exact .inr ⟨b, o + 3, rfl, by simp at g1 ⊢; omega, by omega, g3, g4, st_tail g5, g6⟩
theorem news_in {w : World} {b o : Nat} {l : List FOp} (h : StIn w b o l) : ∀ j u, (flat l)[j]? = some u → w.cell? ((⟨b, o, none⟩ : Addr).add j) = some u := by
  intro j u hu
  have hj : j < l.length * 3 := by have := (List.getElem?_eq_some_iff.1 hu).1; rw [length_flat] at this; exact this
  have hq : j / 3 < l.length := by omega
  have hr : j = j / 3 * 3 + j % 3 := by omega
  have hf := flat_get l (j / 3) (j % 3) hq (by omega)
  rw [← hr, hu] at hf
  rw [Go.WideShapes.add_plain, hf]
  rcases (by omega : j % 3 = 0 ∨ j % 3 = 1 ∨ j % 3 = 2) with h' | h' | h'
  · rw [h', show o + j = o + j / 3 * 3 from by omega]; exact h.er _ hq
  · rw [h', show o + j = o + j / 3 * 3 + 1 from by omega]; exact h.pl _ hq
  · rw [h', show o + j = o + j / 3 * 3 + 2 from by omega]; exact h.tx _ hq
/-- The same, the row's block below n: what was made since is not in it. -/
def OwnIn (w : World) (base n : Nat) (v : Value) (l : List FOp) : Prop := ∃ a cap, v = .slice a l.length cap ∧ (a = none → cap = 0) ∧ (l = [] ∨ ∃ b o, a = some ⟨b, o, none⟩ ∧ l.length ≤ cap ∧ cap ≤ maxLen ∧ base ≤ b ∧ b < n ∧ b < w.heap.size ∧ StIn w b o l ∧ ∀ i, w.frozen? ⟨b, i, none⟩ = false)
theorem OwnSt.lt {w : World} {base : Nat} {v : Value} {l : List FOp} (h : OwnSt w base v l) : OwnIn w base w.heap.size v l := by
  obtain ⟨a, cap, rfl, h0, h⟩ := h
  refine ⟨a, cap, rfl, h0, ?_⟩
  rcases h with h | ⟨b, o, rfl, h1, h2, h3, h4, h5⟩
  · exact .inl h
  · exact .inr ⟨b, o, rfl, h1, h2, h3, h4, h4, h5⟩
theorem OwnIn.st {w : World} {base n : Nat} {v : Value} {l : List FOp} (h : OwnIn w base n v l) : OwnSt w base v l := by
  obtain ⟨a, cap, rfl, h0, h⟩ := h
  refine ⟨a, cap, rfl, h0, ?_⟩
  rcases h with h | ⟨b, o, rfl, h1, h2, h3, _, h4, h5⟩
  · exact .inl h
  · exact .inr ⟨b, o, rfl, h1, h2, h3, h4, h5⟩
theorem OwnIn.below {w w' : World} {base n : Nat} {v : Value} {l : List FOp} (h : OwnIn w base n v l) (hb : Below w.heap.size w w') : OwnIn w' base n v l := by
  obtain ⟨a, cap, rfl, h0, h⟩ := h
  refine ⟨a, cap, rfl, h0, ?_⟩
  rcases h with h | ⟨b, o, rfl, h1, h2, h3, h7, h4, h5, h6⟩
  · exact .inl h
  · exact .inr ⟨b, o, rfl, h1, h2, h3, h7, Nat.lt_of_lt_of_le h4 hb.size, h5.below hb h4, fun i => by rw [hb.frozen (p := ⟨b, i, none⟩) h4]; exact h6 i⟩
/-- Boxes from n on stay. -/
abbrev Boxes (n : Nat) (w w' : World) : Prop := ∀ B x0 x1 x2 x3 x4 x5, n ≤ B → Res w B x0 x1 x2 x3 x4 x5 → Res w' B x0 x1 x2 x3 x4 x5
theorem OwnSt.empty {w w' : World} {base base' : Nat} {v : Value} (h : OwnSt w base v []) : OwnSt w' base' v [] := by
  obtain ⟨a, cap, rfl, h0, _⟩ := h
  exact ⟨a, cap, rfl, h0, .inl rfl⟩
theorem OwnSt.drewS {w : World} {base : Nat} {v : Value} {l : List FOp} (h : OwnSt w base v l) : IsSt w.drew v l := h.is.heap rfl
/-- The same of a row that is only read. -/
theorem is_first {w : World} {v : Value} {s : FOp} {l : List FOp} (h : IsSt w v (s :: l)) : ∃ b o cap, v = .slice (some ⟨b, o, none⟩) (l.length + 1) cap ∧ l.length + 1 ≤ cap ∧ cap ≤ maxLen ∧ b < w.heap.size ∧ StIn w b o (s :: l) ∧ w.cell? ⟨b, o, none⟩ = some (.bool s.er) ∧ w.cell? ⟨b, o + 1, none⟩ = some (.int .i64 s.pl) ∧ w.cell? ⟨b, o + 2, none⟩ = some (.string s.tx) := by
  obtain ⟨a, cap, rfl, h0, h⟩ := h
  rcases h with h | ⟨b, o, rfl, h1, h2, h4, h5⟩
  · cases h
  · refine ⟨b, o, cap, rfl, by simpa using h1, h2, h4, h5, ?_, ?_, ?_⟩
    · have := h5.er 0 (by simp); simpa using this
    · have := h5.pl 0 (by simp); simpa using this
    · have := h5.tx 0 (by simp); simpa using this
end Go.Proofs.Ythdnpgkoanfijaa.TicRow
