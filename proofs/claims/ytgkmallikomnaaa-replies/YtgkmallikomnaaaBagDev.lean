/- Steps in memory at any place: a row of them that a call reads, three cells a step; a struct of five numbers and such a row. No program is named here. -/
import Derived.Test.YtgkmallikomnaaaBagOps
import Derived.SizedLaws
import Derived.WideShapes
import Derived.ChangeSlices
import Derived.Deep.Strs
import Derived.Test.YtgkmallikomnaaaBagAns
import Derived.Laws.AppendOwnNone
import Derived.BigQuiet
import Derived.OneCell
namespace Go.Proofs.Ytgkmallikomnaaa.DevRow
open Go.Proofs.Ytgkmallikomnaaa Go.RowKit Go.ChangeShapes Go.Proofs.Ytgkmallikomnaaa.Bytes Go.Proofs.Ytgkmallikomnaaa.Ops Go.Proofs.Ytgkmallikomnaaa.OpsRow

/-- The steps l lie in block b, from cell o on. -/
structure StIn (w : World) (b o : Nat) (l : List FOp) : Prop where
  er : ∀ i (h : i < l.length), w.cell? ⟨b, o + i * 3, none⟩ = some (.bool l[i].er)
  pl : ∀ i (h : i < l.length), w.cell? ⟨b, o + i * 3 + 1, none⟩ = some (.int .i64 l[i].pl)
  tx : ∀ i (h : i < l.length), w.cell? ⟨b, o + i * 3 + 2, none⟩ = some (.string l[i].tx)
/-- The value v is a slice of the steps l. -/
def IsSt (w : World) (v : Value) (l : List FOp) : Prop := ∃ a cap, v = .slice a l.length cap ∧ (a = none → cap = 0) ∧ (l = [] ∨ ∃ b o, a = some ⟨b, o, none⟩ ∧ l.length ≤ cap ∧ cap ≤ maxLen ∧ b < w.heap.size ∧ StIn w b o l)
theorem StIn.below {w w' : World} {b o : Nat} {l : List FOp} (h : StIn w b o l) {B : Nat} (hb : Below B w w') (hg : b < B) : StIn w' b o l :=
  ⟨fun i hi => by rw [hb.cell (p := ⟨b, o + i * 3, none⟩) hg]; exact h.er i hi, fun i hi => by rw [hb.cell (p := ⟨b, o + i * 3 + 1, none⟩) hg]; exact h.pl i hi, fun i hi => by rw [hb.cell (p := ⟨b, o + i * 3 + 2, none⟩) hg]; exact h.tx i hi⟩
theorem IsSt.below {w w' : World} {v : Value} {l : List FOp} (h : IsSt w v l) (hb : Below w.heap.size w w') : IsSt w' v l := by
  obtain ⟨a, cap, rfl, h0, h⟩ := h
  refine ⟨a, cap, rfl, h0, ?_⟩
  rcases h with h | ⟨b, o, rfl, h1, h2, h3, h4⟩
  · exact .inl h
  · exact .inr ⟨b, o, rfl, h1, h2, Nat.lt_of_lt_of_le h3 hb.size, h4.below hb h3⟩
theorem isSt_nil (w : World) : IsSt w (.slice none 0 0) [] := ⟨none, 0, rfl, fun _ => rfl, .inl rfl⟩
/-- Of two worlds that are one but for their draws. -/
theorem IsSt.heap {w w' : World} {v : Value} {l : List FOp} (h : IsSt w v l) (e : w'.heap = w.heap) : IsSt w' v l := by
  have hc : ∀ p : Addr, w'.cell? p = w.cell? p := fun p => by unfold World.cell?; rw [e]
  obtain ⟨a, cap, rfl, h0, h⟩ := h
  refine ⟨a, cap, rfl, h0, ?_⟩
  rcases h with h | ⟨b, o, rfl, h1, h2, h3, h4⟩
  · exact .inl h
  · exact .inr ⟨b, o, rfl, h1, h2, by rw [e]; exact h3, ⟨fun i hi => by rw [hc]; exact h4.er i hi, fun i hi => by rw [hc]; exact h4.pl i hi, fun i hi => by rw [hc]; exact h4.tx i hi⟩⟩
/-- Behind a call that began in a world that is the known one but for its draws. -/
theorem stD {a a' b : World} {v : Value} {l : List FOp} (hb : Below a'.heap.size a' b) (h : IsSt a v l) (e : a'.heap = a.heap) : IsSt b v l := (h.heap e).below hb
theorem ownsS_is {w : World} {base : Nat} {e : TypeId} {v : Value} {n : Nat} {l : List FOp} (h : w.ownsRow base e 3 v n (flat l)) : IsSt w v l := by
  have hn : n = l.length := by have := h.1; rw [length_flat] at this; omega
  subst hn
  rcases h.2 with ⟨rfl, h0⟩ | ⟨g, cap, cur, rfl, _, _, h1, h2, _⟩
  · exact ⟨none, 0, by rw [h0], fun _ => rfl, .inl (List.length_eq_zero_iff.1 h0)⟩
  · obtain ⟨_, h3, h4⟩ := owns_in h
    exact ⟨_, cap, rfl, fun h => (by cases h), .inr ⟨g, 0, rfl, h1, h2, h3, ⟨fun i hi => by rw [Nat.zero_add]; exact h4.er i hi, fun i hi => by rw [Nat.zero_add]; exact h4.pl i hi, fun i hi => by rw [Nat.zero_add]; exact h4.tx i hi⟩⟩⟩
/-- A slice of steps written out: one block. -/
theorem madeS_is (w : World) (l : List FOp) (e : TypeId) (n : Nat) (hn : n = l.length) (hl : l.length ≤ maxLen) : IsSt (w.alloc (.cells (flat l).toArray e)) (.slice (some ⟨w.heap.size, 0, none⟩) n n) l := by
  subst hn
  refine ⟨_, _, rfl, fun h => (by cases h), .inr ⟨_, _, rfl, Nat.le_refl _, hl, by simp, ?_, ?_, ?_⟩⟩
  all_goals
    intro i hi
    rw [Nat.zero_add, World.cell?_alloc_at _ e _ _ rfl]
  · have h := flat_get l i 0 hi (by omega); simpa [cells] using h
  · have h := flat_get l i 1 hi (by omega); simpa [cells] using h
  · have h := flat_get l i 2 hi (by omega); simpa [cells] using h
theorem IsSt.len {w : World} {v : Value} {l : List FOp} (h : IsSt w v l) : l.length ≤ maxLen := by
  obtain ⟨a, cap, rfl, h0, h⟩ := h
  rcases h with h | ⟨b, o, rfl, h1, h2, h3, h4⟩
  · rw [h]; exact Nat.zero_le _
  · omega

/-- A struct of six cells in a block of its own: five numbers and a slice. -/
structure Box (w : World) (B : Nat) (x0 x1 x2 x3 x4 x5 : Value) : Prop where
  lt : B < w.heap.size
  c0 : w.cell? ⟨B, 0, none⟩ = some x0
  c1 : w.cell? ⟨B, 1, none⟩ = some x1
  c2 : w.cell? ⟨B, 2, none⟩ = some x2
  c3 : w.cell? ⟨B, 3, none⟩ = some x3
  c4 : w.cell? ⟨B, 4, none⟩ = some x4
  c5 : w.cell? ⟨B, 5, none⟩ = some x5
theorem Box.below {w w' : World} {B : Nat} {x0 x1 x2 x3 x4 x5 : Value} (h : Box w B x0 x1 x2 x3 x4 x5) (hb : Below w.heap.size w w') : Box w' B x0 x1 x2 x3 x4 x5 :=
  ⟨Nat.lt_of_lt_of_le h.lt hb.size, by rw [hb.cell (p := ⟨B, 0, none⟩) h.lt]; exact h.c0, by rw [hb.cell (p := ⟨B, 1, none⟩) h.lt]; exact h.c1, by rw [hb.cell (p := ⟨B, 2, none⟩) h.lt]; exact h.c2, by rw [hb.cell (p := ⟨B, 3, none⟩) h.lt]; exact h.c3, by rw [hb.cell (p := ⟨B, 4, none⟩) h.lt]; exact h.c4, by rw [hb.cell (p := ⟨B, 5, none⟩) h.lt]; exact h.c5⟩
theorem box_of (w : World) (x0 x1 x2 x3 x4 x5 : Value) (e : TypeId) : Box (w.alloc (.cells #[x0, x1, x2, x3, x4, x5] e)) w.heap.size x0 x1 x2 x3 x4 x5 :=
  ⟨by simp, by rw [World.cell?_alloc_at _ e _ 0 rfl]; rfl, by rw [World.cell?_alloc_at _ e _ 1 rfl]; rfl, by rw [World.cell?_alloc_at _ e _ 2 rfl]; rfl, by rw [World.cell?_alloc_at _ e _ 3 rfl]; rfl, by rw [World.cell?_alloc_at _ e _ 4 rfl]; rfl, by rw [World.cell?_alloc_at _ e _ 5 rfl]; rfl⟩
/-- The same, told as a row of facts (what a walk reads). -/
abbrev Six (w : World) (B : Nat) (x0 x1 x2 x3 x4 x5 : Value) : Prop := B < w.heap.size ∧ w.cell? ⟨B, 0, none⟩ = some x0 ∧ w.cell? ⟨B, 1, none⟩ = some x1 ∧ w.cell? ⟨B, 2, none⟩ = some x2 ∧ w.cell? ⟨B, 3, none⟩ = some x3 ∧ w.cell? ⟨B, 4, none⟩ = some x4 ∧ w.cell? ⟨B, 5, none⟩ = some x5
theorem sixM (w : World) (x0 x1 x2 x3 x4 x5 : Value) (e : TypeId) : Six (w.alloc (.cells #[x0, x1, x2, x3, x4, x5] e)) w.heap.size x0 x1 x2 x3 x4 x5 :=
  let h := box_of w x0 x1 x2 x3 x4 x5 e
  ⟨h.lt, h.c0, h.c1, h.c2, h.c3, h.c4, h.c5⟩
theorem sixD {w w' : World} {B : Nat} {x0 x1 x2 x3 x4 x5 : Value} (hb : Below w.heap.size w w') (h : Six w B x0 x1 x2 x3 x4 x5) : Six w' B x0 x1 x2 x3 x4 x5 := by
  obtain ⟨h, h0, h1, h2, h3, h4, h5⟩ := h
  have g := Box.below (w := w) ⟨h, h0, h1, h2, h3, h4, h5⟩ hb
  exact ⟨g.lt, g.c0, g.c1, g.c2, g.c3, g.c4, g.c5⟩
theorem sixB {w w' : World} {B : Nat} {x0 x1 x2 x3 x4 x5 : Value} (h : Six w B x0 x1 x2 x3 x4 x5) (hb : Below w.heap.size w w') : Six w' B x0 x1 x2 x3 x4 x5 := sixD hb h

/-- A struct of six cells in a block of its own that may be written. -/
abbrev Res (w : World) (B : Nat) (x0 x1 x2 x3 x4 x5 : Value) : Prop := B < w.heap.size ∧ w.cell? ⟨B, 0, none⟩ = some x0 ∧ w.cell? ⟨B, 1, none⟩ = some x1 ∧ w.cell? ⟨B, 2, none⟩ = some x2 ∧ w.cell? ⟨B, 3, none⟩ = some x3 ∧ w.cell? ⟨B, 4, none⟩ = some x4 ∧ w.cell? ⟨B, 5, none⟩ = some x5 ∧ ∀ i, w.frozen? ⟨B, i, none⟩ = false
theorem resM (w : World) (x0 x1 x2 x3 x4 x5 : Value) (e : TypeId) : Res (w.alloc (.cells #[x0, x1, x2, x3, x4, x5] e)) w.heap.size x0 x1 x2 x3 x4 x5 := by
  obtain ⟨h, h0, h1, h2, h3, h4, h5⟩ := sixM w x0 x1 x2 x3 x4 x5 e
  exact ⟨h, h0, h1, h2, h3, h4, h5, fun i => World.frozen?_alloc_at _ e _ i rfl⟩
theorem resB {w w' : World} {B : Nat} {x0 x1 x2 x3 x4 x5 : Value} (h : Res w B x0 x1 x2 x3 x4 x5) (hb : Below w.heap.size w w') : Res w' B x0 x1 x2 x3 x4 x5 := by
  obtain ⟨h, h0, h1, h2, h3, h4, h5, h6⟩ := h
  obtain ⟨g, g0, g1, g2, g3, g4, g5⟩ := sixB ⟨h, h0, h1, h2, h3, h4, h5⟩ hb
  exact ⟨g, g0, g1, g2, g3, g4, g5, fun i => by rw [hb.frozen (p := ⟨B, i, none⟩) h]; exact h6 i⟩
theorem resD {w w' : World} {B : Nat} {x0 x1 x2 x3 x4 x5 : Value} (hb : Below w.heap.size w w') (h : Res w B x0 x1 x2 x3 x4 x5) : Res w' B x0 x1 x2 x3 x4 x5 := resB h hb
theorem Res.six {w : World} {B : Nat} {x0 x1 x2 x3 x4 x5 : Value} (h : Res w B x0 x1 x2 x3 x4 x5) : Six w B x0 x1 x2 x3 x4 x5 := by
  obtain ⟨h, h0, h1, h2, h3, h4, h5, h6⟩ := h
  exact ⟨h, h0, h1, h2, h3, h4, h5⟩
/-- A struct's six cells, stored. -/
theorem set6 {B0 : Nat} {w w' : World} {B : Nat} {x0 x1 x2 x3 x4 x5 : Value} (h : Below B0 w w') (hB : B0 ≤ B) : Below B0 w ((((((w'.setCell ⟨B, 0, none⟩ x0).setCell ⟨B, 1, none⟩ x1).setCell ⟨B, 2, none⟩ x2).setCell ⟨B, 3, none⟩ x3).setCell ⟨B, 4, none⟩ x4).setCell ⟨B, 5, none⟩ x5) :=
  (((((h.setCell (p := ⟨B, 0, none⟩) hB _).setCell (p := ⟨B, 1, none⟩) hB _).setCell (p := ⟨B, 2, none⟩) hB _).setCell (p := ⟨B, 3, none⟩) hB _).setCell (p := ⟨B, 4, none⟩) hB _).setCell (p := ⟨B, 5, none⟩) hB _

section
variable {H : Type} {enc : TypeId × Value → H} {P : Program} {w : World} {spare : Nat → Bool} {held : Bool} {base : Nat}
/-- The step in a datum that is one: its cells, where they were read. -/
theorem open_step {e eb ei es : TypeId} {fuel : Nat} {cs : List Value} {y : DataW H × List MemPlace} {f0 f1 f2 : Field} (he : P.underlying e = some (.struct #[f0, f1, f2])) (q0 : f0.type = eb) (q1 : f1.type = ei) (q2 : f2.type = es) (o0 : f0.offset = 0) (o1 : f1.offset = 1) (o2 : f2.offset = 2)
    (hb : P.underlying eb = some .bool) (hi : P.underlying ei = some (.int .i64)) (hs : P.underlying es = some .string) (kb : P.cellsOf eb = 1) (ki : P.cellsOf ei = 1) (ks : P.cellsOf es = 1) (hc : P.cellsOf e = 3)
    (h : DataW.trod enc P w base spare held fuel e cs = some y) : ∃ o : FOp, cs = cells o ∧ y.2 = [] ∧ (Lit.int .i64 o.pl).wf = true ∧ o.tx.size ≤ maxLen := by
  subst q0 q1 q2
  obtain ⟨y0, y1, y2, n, rfl, hl, h0, h1, h2⟩ := Go.Deep.trod_struct3 he h
  rw [hc] at hl
  rw [o0, kb] at h0
  rw [o1, ki] at h1
  rw [o2, ks] at h2
  match cs, hl with
  | [c0, c1, c2], _ =>
    obtain ⟨b, e0, r0⟩ := DataW.trod_bool hb h0
    obtain ⟨m, e1, r1, w1⟩ := DataW.trod_int hi h1
    obtain ⟨s, e2, r2, w2⟩ := DataW.trod_string hs h2
    simp at e0 e1 e2
    subst e0 e1 e2 r0 r1 r2
    exact ⟨⟨b, m, s⟩, rfl, rfl, w1, w2⟩
/-- A slice of steps that came in: what it holds, how long it may be. -/
theorem open_st {t e eb ei es : TypeId} {f0 f1 f2 : Field} {fuel : Nat} {cs : List Value} {x : DataW H × List MemPlace} (ht : P.underlying t = some (.slice e)) (he : P.underlying e = some (.struct #[f0, f1, f2])) (q0 : f0.type = eb) (q1 : f1.type = ei) (q2 : f2.type = es) (o0 : f0.offset = 0) (o1 : f1.offset = 1) (o2 : f2.offset = 2)
    (hb : P.underlying eb = some .bool) (hi : P.underlying ei = some (.int .i64)) (hs : P.underlying es = some .string) (kb : P.cellsOf eb = 1) (ki : P.cellsOf ei = 1) (ks : P.cellsOf es = 1) (hc : P.cellsOf e = 3) (hby : P.bytesOf e = 32)
    (h : DataW.trod enc P w base spare held fuel t cs = some x) (hlt : ∀ p ∈ x.2, p.block < w.heap.size) (hsz : (x.1.weights P t).all (· ≤ reachBytes) = true) :
    ∃ v l, cs = [v] ∧ IsSt w v l ∧ l.length * 32 ≤ 140737488351232 ∧ ∀ o ∈ l, (Lit.int .i64 o.pl).wf = true ∧ o.tx.size ≤ maxLen := by
  rcases DataW.trod_slice ht h with ⟨rfl, rfl⟩ | ⟨a, len, cap, elems, rest, n, _, rfl, rfl, hbb, hl, hm, hlen, hel, hsp, hns⟩
  · exact ⟨_, [], rfl, isSt_nil w, by simp, by simp⟩
  have each : ∀ i, i < len → ∃ o : FOp, w.cells? base (a.add (i * 3)) 3 = some (cells o) ∧ (Lit.int .i64 o.pl).wf = true ∧ o.tx.size ≤ maxLen := by
    intro i hi'
    have h1 := hel i hi'
    rw [hc, List.getElem?_eq_getElem (by omega), Option.bind_eq_some_iff] at h1
    obtain ⟨cs', hcs, hy⟩ := h1
    obtain ⟨o, rfl, _, w1, w2⟩ := open_step he q0 q1 q2 o0 o1 o2 hb hi hs kb ki ks hc hy
    exact ⟨o, hcs, w1, w2⟩
  obtain ⟨g, hg⟩ : ∃ g : Nat → FOp, ∀ i, i < len → w.cells? base (a.add (i * 3)) 3 = some (cells (g i)) ∧ (Lit.int .i64 (g i).pl).wf = true ∧ (g i).tx.size ≤ maxLen := by
    refine ⟨fun i => if h : i < len then Classical.choose (each i h) else ⟨false, 0, ⟨#[]⟩⟩, fun i hi' => ?_⟩
    simp only [hi', dif_pos]
    exact Classical.choose_spec (each i hi')
  have hll : ((List.range len).map g).length = len := by simp
  have hgi : ∀ i (h : i < ((List.range len).map g).length), ((List.range len).map g)[i] = g i := fun i h => by simp
  refine ⟨_, (List.range len).map g, rfl, ⟨some a, cap, by rw [hll], fun h => (by cases h), ?_⟩, ?_, ?_⟩
  · by_cases hl0 : len = 0
    · left; rw [hl0]; rfl
    · right
      obtain ⟨b, off, spot⟩ := a
      have hspot : spot = none := by
        have h1 := (World.cells?_some (hg 0 (by omega)).1).2.2 0 (by omega)
        have h2 : w.cell? ⟨b, off, spot⟩ = some (.bool (g 0).er) := by simpa [Addr.add, cells] using h1
        exact World.cell?_spot h2
      subst hspot
      have c0 : ∀ i, i < len → ∀ j, j < 3 → w.cell? ⟨b, off + i * 3 + j, none⟩ = (cells (g i))[j]? := by
        intro i hi' j hj
        have h1 := (World.cells?_some (hg i hi').1).2.2 j hj
        rwa [Go.WideShapes.add_plain, Go.WideShapes.add_plain] at h1
      have hbW : b < w.heap.size := hlt (.cell b off) (by
        apply List.mem_append_left
        exact MemPlace.mem_row.2 ⟨0, by rw [hc]; omega, by simp⟩)
      refine ⟨b, off, rfl, by rw [hll]; exact hl, hm, hbW, ?_, ?_, ?_⟩
      all_goals
        intro i hi'
        rw [hgi i hi']
        rw [hll] at hi'
      · exact c0 i hi' 0 (by omega)
      · exact c0 i hi' 1 (by omega)
      · exact c0 i hi' 2 (by omega)
  · have := List.all_eq_true.1 hsz ((elems.length + rest.length) * P.bytesOf e) (by simp [DataW.weights, ht])
    rw [hby] at this
    replace this := of_decide_eq_true this
    unfold reachBytes at this
    rw [hll, ← hlen]
    omega
  · intro o ho
    rw [List.mem_map] at ho
    obtain ⟨i, hi', rfl⟩ := ho
    exact (hg i (by simpa using hi')).2
/-- The weights of a struct's field are among the struct's. -/
theorem sized_field {t : TypeId} {fs : Array Field} {xs : List (DataW H × List MemPlace)} (ht : P.underlying t = some (.struct fs)) (hsz : ((DataW.agg (xs.map (·.1)) : DataW H).weights P t).all (· ≤ reachBytes) = true) {j : Nat} {f : Field} {y : DataW H × List MemPlace} (hf : fs[j]? = some f) (hy : xs[j]? = some y) :
    (y.1.weights P f.type).all (· ≤ reachBytes) = true := by
  rw [List.all_eq_true] at hsz ⊢
  intro n hn
  refine hsz n ?_
  simp only [DataW.weights, ht]
  exact DataW.weights_mem_each (j := j) (t := f.type) (d := y.1) (by rw [List.getElem?_map, Array.getElem?_toList, hf]; rfl) (by rw [List.getElem?_map, hy]; rfl) n hn
/-- A struct's field: its own reading, its places, its weights. -/
theorem field_of2 {t : TypeId} {fs : Array Field} {fuel : Nat} {cs : List Value} {x : DataW H × List MemPlace} (ht : P.underlying t = some (.struct fs)) (h : DataW.trod enc P w base spare held fuel t cs = some x) (hlt : ∀ p ∈ x.2, p.block < w.heap.size) (hsz : (x.1.weights P t).all (· ≤ reachBytes) = true) (i : Nat) (f : Field) (hf : fs[i]? = some f) :
    ∃ n y, DataW.trod enc P w base spare held n f.type ((cs.drop f.offset).take (P.cellsOf f.type)) = some y ∧ (∀ p ∈ y.2, p.block < w.heap.size) ∧ (y.1.weights P f.type).all (· ≤ reachBytes) = true := by
  obtain ⟨xs, n, _, rfl, _, hlen, hq⟩ := DataW.trod_struct ht h
  have hi : i < xs.length := by
    rw [hlen]
    rcases Nat.lt_or_ge i fs.size with h1 | h1
    · exact h1
    · rw [Array.getElem?_eq_none h1] at hf; cases hf
  exact ⟨n, xs[i], by rw [hq i f hf, List.getElem?_eq_getElem hi], fun p hp => hlt p (List.mem_flatMap.2 ⟨xs[i], List.getElem_mem hi, hp⟩), sized_field ht hsz hf (List.getElem?_eq_getElem hi)⟩
/-- The weights of one argument are among all. -/
theorem sized_arg {ts : List TypeId} {ds : List (DataW H)} (h : (DataW.weightsEach P ts ds).all (· ≤ reachBytes) = true) {j : Nat} {t : TypeId} {d : DataW H} (ht : ts[j]? = some t) (hd : ds[j]? = some d) : (d.weights P t).all (· ≤ reachBytes) = true := by
  rw [List.all_eq_true] at h ⊢
  exact fun n hn => h n (DataW.weights_mem_each ht hd n hn)
end
end Go.Proofs.Ytgkmallikomnaaa.DevRow

/- Devices: which may be, what becomes of one that fails. No program is named here. -/
namespace Go.Proofs.Ytgkmallikomnaaa.Dev
open Go.Proofs.Ytgkmallikomnaaa Go.Proofs.Ytgkmallikomnaaa.Ops Go.Proofs.Ytgkmallikomnaaa.Ans

/-- A device: its numbers, its steps. -/
structure FDev where
  sa : Int
  su : Int
  nx : Int
  gt : Int
  sl : Int
  ops : List FOp

/-- May each of the first n steps be? -/
def mayTo (l : List FOp) (n : Nat) : Bool := (l.take n).all fun o => opMay o.er o.pl o.tx
def mayAll (l : List FOp) : Bool := l.all fun o => opMay o.er o.pl o.tx
theorem mayTo_zero (l : List FOp) : mayTo l 0 = true := rfl
theorem mayTo_succ {l : List FOp} {n : Nat} (h : n < l.length) : mayTo l (n + 1) = (mayTo l n && opMay l[n].er l[n].pl l[n].tx) := by
  unfold mayTo
  rw [List.take_succ_eq_append_getElem h, List.all_append]
  simp
theorem mayTo_all (l : List FOp) : mayTo l l.length = mayAll l := by unfold mayTo mayAll; rw [List.take_length]
theorem mayAll_bad {l : List FOp} {n : Nat} (h : n < l.length) (hb : opMay l[n].er l[n].pl l[n].tx = false) : mayAll l = false := by
  unfold mayAll
  rw [List.all_eq_false]
  exact ⟨l[n], List.getElem_mem h, by rw [hb]; simp⟩
theorem mayAll_get {l : List FOp} (h : mayAll l = true) {n : Nat} (hn : n < l.length) : opMay l[n].er l[n].pl l[n].tx = true := by
  unfold mayAll at h
  exact List.all_eq_true.1 h _ (List.getElem_mem hn)

def upB (x k : Int) : Bool := decide (0 ≤ x ∧ x ≤ k)
/-- May these be a device's steps? -/
def stepsB (l : List FOp) : Bool := decide (l.length ≤ 768) && mayAll l
theorem stepsB_long {l : List FOp} (h : ¬ l.length ≤ 768) : stepsB l = false := by unfold stepsB; rw [decide_eq_false h]; rfl
theorem stepsB_short {l : List FOp} (h : l.length ≤ 768) : stepsB l = mayAll l := by unfold stepsB; rw [decide_eq_true h]; rfl
theorem stepsB_nil : stepsB [] = true := rfl
def devB (d : FDev) : Bool := saB d.sa && stB d.su && upB d.nx 16 && upB d.gt 288 && upB d.sl 1 && stepsB d.ops
/-- A status that a device may fail with. -/
def flB (s : Int) : Bool := decide (1 ≤ s ∧ s ≤ 6)
theorem flB_parts {s : Int} : flB s = true ↔ 1 ≤ s ∧ s ≤ 6 := by unfold flB; exact decide_eq_true_iff
def failB (d : FDev) (s : Int) : Bool := devB d && flB s
def errD (ok : Bool) : Int := if ok then 0 else 1600
/-- The state, the status of what comes of it: nothing where it is refused. -/
def faSa (ok : Bool) : Int := if ok then 7 else 0
def faSu (ok : Bool) (s : Int) : Int := if ok then s else 0
def newD : FDev := ⟨0, 0, 0, 0, 0, []⟩
def failD (d : FDev) (s : Int) : FDev := ⟨faSa (failB d s), faSu (failB d s) s, 0, 0, 0, []⟩
theorem new_may : devB newD = true := rfl
theorem failed_may {s : Int} (h : flB s = true) : devB ⟨7, s, 0, 0, 0, []⟩ = true := by
  obtain ⟨h1, h2⟩ := flB_parts.1 h
  have : stB s = true := by unfold stB; exact decide_eq_true (by omega)
  unfold devB
  simp only [this]
  rfl
end Go.Proofs.Ytgkmallikomnaaa.Dev

/- The contracts of package device: each call returns what the plain functions give, whatever its arguments; of what was there nothing has turned. -/
namespace Go.Proofs.Ytgkmallikomnaaa.DevWalk
open Go.Proofs.Ytgkmallikomnaaa Go.RowKit Go.Proofs.Ytgkmallikomnaaa.Bytes Go.Proofs.Ytgkmallikomnaaa.Ops Go.Proofs.Ytgkmallikomnaaa.OpsRow Go.Proofs.Ytgkmallikomnaaa.OpsWalk Go.Proofs.Ytgkmallikomnaaa.Ans Go.Proofs.Ytgkmallikomnaaa.Dev Go.Proofs.Ytgkmallikomnaaa.DevRow
open Go.Proofs.Ytgkmallikomnaaa.AnsWalk (amay_any)
open Go.Proofs.Ytgkmallikomnaaa.NorWalk (ret_bool)
attribute [local go_sem ↓] Go.wp_at_zero Go.wp_at_succ

set_option maxRecDepth 100000 in
set_option maxHeartbeats 1000000 in
/-- The first step that may not be. -/
theorem build_su (su sa : Int) (w : World) : (Instr.build 43 #[(0, .int .i64 su), (2, .int .i64 sa)]).run Try.prog w = .ok (.agg #[.int .i64 su, .int .i64 0, .int .i64 sa]) w := run_build w 43 _ _ (by kernel_rfl)
theorem build_s (su : Int) (w : World) : (Instr.build 43 #[(0, .int .i64 su)]).run Try.prog w = .ok (.agg #[.int .i64 su, .int .i64 0, .int .i64 0]) w := run_build w 43 _ _ (by kernel_rfl)
theorem dev_ways (d : FDev) : (ansB d.su 0 d.sa = false ∧ devB d = false) ∨ (ansB d.su 0 d.sa = true ∧ upB d.nx 16 = false ∧ devB d = false) ∨ (ansB d.su 0 d.sa = true ∧ upB d.nx 16 = true ∧ upB d.gt 288 = false ∧ devB d = false) ∨ (ansB d.su 0 d.sa = true ∧ upB d.nx 16 = true ∧ upB d.gt 288 = true ∧ upB d.sl 1 = false ∧ devB d = false) ∨ (ansB d.su 0 d.sa = true ∧ upB d.nx 16 = true ∧ upB d.gt 288 = true ∧ upB d.sl 1 = true ∧ devB d = stepsB d.ops) := by
  have h : ansB d.su 0 d.sa = (saB d.sa && stB d.su) := by
    unfold ansB saB stB
    rw [Bool.eq_iff_iff]
    simp
    omega
  unfold devB
  rw [h]
  cases saB d.sa <;> cases stB d.su <;> cases upB d.nx 16 <;> cases upB d.gt 288 <;> cases upB d.sl 1 <;> simp
theorem flB_ways (s : Int) : (s = 0 ∧ flB s = false) ∨ ((s != 0) = true ∧ flB s = ansB s 0 0) := by
  unfold flB ansB
  by_cases h : s = 0
  · subst h; exact .inl ⟨rfl, rfl⟩
  · refine .inr ⟨bne_iff_ne.2 h, ?_⟩
    rw [Bool.eq_iff_iff]
    simp
    omega
end Go.Proofs.Ytgkmallikomnaaa.DevWalk

/- The contract of device.Fail. -/
namespace Go.Proofs.Ytgkmallikomnaaa.DevFail
open Go.Proofs.Ytgkmallikomnaaa Go.RowKit Go.Proofs.Ytgkmallikomnaaa.Bytes Go.Proofs.Ytgkmallikomnaaa.Ops Go.Proofs.Ytgkmallikomnaaa.Ans Go.Proofs.Ytgkmallikomnaaa.Dev Go.Proofs.Ytgkmallikomnaaa.DevRow Go.Proofs.Ytgkmallikomnaaa.DevWalk
open Go.Proofs.Ytgkmallikomnaaa.OpsWalk (size_alloc1)
attribute [local go_sem ↓] Go.wp_at_zero Go.wp_at_succ
theorem ret_dev {a b a' b' e e' : Int} (h : a = a' ∧ b = b' ∧ e = e') : Ending.returned (.tuple #[.agg #[.int .i64 a, .int .i64 b, .int .i64 0, .int .i64 0, .int .i64 0, .slice none 0 0], .int .i64 e]) = .returned (.tuple #[.agg #[.int .i64 a', .int .i64 b', .int .i64 0, .int .i64 0, .int .i64 0, .slice none 0 0], .int .i64 e']) := by
  obtain ⟨rfl, rfl, rfl⟩ := h
  rfl
theorem fail_f {d : FDev} {s : Int} (h : failB d s = false) : (0 : Int) = faSa (failB d s) ∧ (0 : Int) = faSu (failB d s) s ∧ (1600 : Int) = errD (failB d s) := by rw [h]; exact ⟨rfl, rfl, rfl⟩
theorem fail_t {d : FDev} {s : Int} (h : failB d s = true) : (7 : Int) = faSa (failB d s) ∧ s = faSu (failB d s) s ∧ (0 : Int) = errD (failB d s) := by rw [h]; exact ⟨rfl, rfl, rfl⟩
end Go.Proofs.Ytgkmallikomnaaa.DevFail

/- The contracts of the laws' helpers on devices: whether two are the same, another one with the same steps, an error's number. -/
namespace Go.Proofs.Ytgkmallikomnaaa.DevHelp
open Go.Proofs.Ytgkmallikomnaaa Go.RowKit Go.Proofs.Ytgkmallikomnaaa.Bytes Go.Proofs.Ytgkmallikomnaaa.Ops Go.Proofs.Ytgkmallikomnaaa.OpsRow Go.Proofs.Ytgkmallikomnaaa.Dev Go.Proofs.Ytgkmallikomnaaa.DevRow
theorem num_any (n : Int) (w : World) : Calls Try.prog 11 #[.int .i64 n] w fun e w' => e = .returned (.int .i64 n) ∧ w' = w := by
  go_enter Try.func11, Try.ntmps11
  go_wp2
  go_ret
  exact ⟨rfl, rfl⟩
theorem owns_form {w : World} {base : Nat} {e : TypeId} {size : Nat} {v : Value} {n : Nat} {xs : List Value} (h : w.ownsRow base e size v n xs) : ∃ a c, v = .slice a n c := by
  rcases h.2 with ⟨rfl, rfl⟩ | ⟨g, cap, cur, rfl, _⟩
  · exact ⟨none, 0, rfl⟩
  · exact ⟨_, _, rfl⟩
theorem third (w : World) (a b c : Obj) : (((w.alloc a).alloc b).alloc c).heap[w.heap.size + 1 + 1]? = some c := by
  have h := heap_alloc_new ((w.alloc a).alloc b) c
  rwa [show ((w.alloc a).alloc b).heap.size = w.heap.size + 1 + 1 from by simp] at h
end Go.Proofs.Ytgkmallikomnaaa.DevHelp

/- A struct of six cells that is stored field by field: what it holds behind each store; a row that is owned beside it. No program is named here. -/
namespace Go.Proofs.Ytgkmallikomnaaa.DevSet
open Go.Proofs.Ytgkmallikomnaaa Go.RowKit Go.Proofs.Ytgkmallikomnaaa.Bytes Go.Proofs.Ytgkmallikomnaaa.Ops Go.Proofs.Ytgkmallikomnaaa.OpsRow Go.Proofs.Ytgkmallikomnaaa.DevRow
theorem ne_off {B i j : Nat} (h : i ≠ j) : (⟨B, i, none⟩ : Addr) ≠ ⟨B, j, none⟩ := fun e => by injection e; exact h (by omega)
theorem ne_blk {A B i j : Nat} (h : A ≠ B) : (⟨A, i, none⟩ : Addr) ≠ ⟨B, j, none⟩ := fun e => by injection e; exact h (by omega)
theorem size_set (w : World) (a : Addr) (v : Value) : (w.setCell a v).heap.size = w.heap.size := by simp [World.setCell]
section
variable {w : World} {B : Nat} {x0 x1 x2 x3 x4 x5 : Value}
theorem res0 (h : Res w B x0 x1 x2 x3 x4 x5) (y : Value) : Res (w.setCell ⟨B, 0, none⟩ y) B y x1 x2 x3 x4 x5 := by
  obtain ⟨h, h0, h1, h2, h3, h4, h5, h6⟩ := h
  have o : ∀ j, j ≠ 0 → (w.setCell ⟨B, 0, none⟩ y).cell? ⟨B, j, none⟩ = w.cell? ⟨B, j, none⟩ := fun j hj => World.cell?_setCell_other w _ _ _ (ne_off (Ne.symm hj))
  exact ⟨by rw [size_set]; exact h, World.cell?_setCell_same w _ _ h0, by rw [o 1 (by omega)]; exact h1, by rw [o 2 (by omega)]; exact h2, by rw [o 3 (by omega)]; exact h3, by rw [o 4 (by omega)]; exact h4, by rw [o 5 (by omega)]; exact h5, fun i => by rw [World.frozen?_setCell]; exact h6 i⟩
theorem res2 (h : Res w B x0 x1 x2 x3 x4 x5) (y : Value) : Res (w.setCell ⟨B, 2, none⟩ y) B x0 x1 y x3 x4 x5 := by
  obtain ⟨h, h0, h1, h2, h3, h4, h5, h6⟩ := h
  have o : ∀ j, j ≠ 2 → (w.setCell ⟨B, 2, none⟩ y).cell? ⟨B, j, none⟩ = w.cell? ⟨B, j, none⟩ := fun j hj => World.cell?_setCell_other w _ _ _ (ne_off (Ne.symm hj))
  exact ⟨by rw [size_set]; exact h, by rw [o 0 (by omega)]; exact h0, by rw [o 1 (by omega)]; exact h1, World.cell?_setCell_same w _ _ h2, by rw [o 3 (by omega)]; exact h3, by rw [o 4 (by omega)]; exact h4, by rw [o 5 (by omega)]; exact h5, fun i => by rw [World.frozen?_setCell]; exact h6 i⟩
theorem res3 (h : Res w B x0 x1 x2 x3 x4 x5) (y : Value) : Res (w.setCell ⟨B, 3, none⟩ y) B x0 x1 x2 y x4 x5 := by
  obtain ⟨h, h0, h1, h2, h3, h4, h5, h6⟩ := h
  have o : ∀ j, j ≠ 3 → (w.setCell ⟨B, 3, none⟩ y).cell? ⟨B, j, none⟩ = w.cell? ⟨B, j, none⟩ := fun j hj => World.cell?_setCell_other w _ _ _ (ne_off (Ne.symm hj))
  exact ⟨by rw [size_set]; exact h, by rw [o 0 (by omega)]; exact h0, by rw [o 1 (by omega)]; exact h1, by rw [o 2 (by omega)]; exact h2, World.cell?_setCell_same w _ _ h3, by rw [o 4 (by omega)]; exact h4, by rw [o 5 (by omega)]; exact h5, fun i => by rw [World.frozen?_setCell]; exact h6 i⟩
theorem res4 (h : Res w B x0 x1 x2 x3 x4 x5) (y : Value) : Res (w.setCell ⟨B, 4, none⟩ y) B x0 x1 x2 x3 y x5 := by
  obtain ⟨h, h0, h1, h2, h3, h4, h5, h6⟩ := h
  have o : ∀ j, j ≠ 4 → (w.setCell ⟨B, 4, none⟩ y).cell? ⟨B, j, none⟩ = w.cell? ⟨B, j, none⟩ := fun j hj => World.cell?_setCell_other w _ _ _ (ne_off (Ne.symm hj))
  exact ⟨by rw [size_set]; exact h, by rw [o 0 (by omega)]; exact h0, by rw [o 1 (by omega)]; exact h1, by rw [o 2 (by omega)]; exact h2, by rw [o 3 (by omega)]; exact h3, World.cell?_setCell_same w _ _ h4, by rw [o 5 (by omega)]; exact h5, fun i => by rw [World.frozen?_setCell]; exact h6 i⟩
theorem res5 (h : Res w B x0 x1 x2 x3 x4 x5) (y : Value) : Res (w.setCell ⟨B, 5, none⟩ y) B x0 x1 x2 x3 x4 y := by
  obtain ⟨h, h0, h1, h2, h3, h4, h5, h6⟩ := h
  have o : ∀ j, j ≠ 5 → (w.setCell ⟨B, 5, none⟩ y).cell? ⟨B, j, none⟩ = w.cell? ⟨B, j, none⟩ := fun j hj => World.cell?_setCell_other w _ _ _ (ne_off (Ne.symm hj))
  exact ⟨by rw [size_set]; exact h, by rw [o 0 (by omega)]; exact h0, by rw [o 1 (by omega)]; exact h1, by rw [o 2 (by omega)]; exact h2, by rw [o 3 (by omega)]; exact h3, by rw [o 4 (by omega)]; exact h4, World.cell?_setCell_same w _ _ h5, fun i => by rw [World.frozen?_setCell]; exact h6 i⟩
theorem res1 (h : Res w B x0 x1 x2 x3 x4 x5) (y : Value) : Res (w.setCell ⟨B, 1, none⟩ y) B x0 y x2 x3 x4 x5 := by
  obtain ⟨h, h0, h1, h2, h3, h4, h5, h6⟩ := h
  have o : ∀ j, j ≠ 1 → (w.setCell ⟨B, 1, none⟩ y).cell? ⟨B, j, none⟩ = w.cell? ⟨B, j, none⟩ := fun j hj => World.cell?_setCell_other w _ _ _ (ne_off (Ne.symm hj))
  exact ⟨by rw [size_set]; exact h, by rw [o 0 (by omega)]; exact h0, World.cell?_setCell_same w _ _ h1, by rw [o 2 (by omega)]; exact h2, by rw [o 3 (by omega)]; exact h3, by rw [o 4 (by omega)]; exact h4, by rw [o 5 (by omega)]; exact h5, fun i => by rw [World.frozen?_setCell]; exact h6 i⟩
/-- Of another block. -/
theorem resO (h : Res w B x0 x1 x2 x3 x4 x5) {A : Nat} (hA : A ≠ B) (i : Nat) (y : Value) : Res (w.setCell ⟨A, i, none⟩ y) B x0 x1 x2 x3 x4 x5 := by
  obtain ⟨h, h0, h1, h2, h3, h4, h5, h6⟩ := h
  have o : ∀ j, (w.setCell ⟨A, i, none⟩ y).cell? ⟨B, j, none⟩ = w.cell? ⟨B, j, none⟩ := fun j => World.cell?_setCell_other w _ _ _ (ne_blk hA)
  exact ⟨by rw [size_set]; exact h, by rw [o 0]; exact h0, by rw [o 1]; exact h1, by rw [o 2]; exact h2, by rw [o 3]; exact h3, by rw [o 4]; exact h4, by rw [o 5]; exact h5, fun i => by rw [World.frozen?_setCell]; exact h6 i⟩
/-- All six stored. -/
theorem res6 (h : Res w B x0 x1 x2 x3 x4 x5) (y0 y1 y2 y3 y4 y5 : Value) : Res ((((((w.setCell ⟨B, 0, none⟩ y0).setCell ⟨B, 1, none⟩ y1).setCell ⟨B, 2, none⟩ y2).setCell ⟨B, 3, none⟩ y3).setCell ⟨B, 4, none⟩ y4).setCell ⟨B, 5, none⟩ y5) B y0 y1 y2 y3 y4 y5 :=
  res5 (res4 (res3 (res2 (res1 (res0 h y0) y1) y2) y3) y4) y5
theorem resO6 (h : Res w B x0 x1 x2 x3 x4 x5) {A : Nat} (hA : A ≠ B) (y0 y1 y2 y3 y4 y5 : Value) : Res ((((((w.setCell ⟨A, 0, none⟩ y0).setCell ⟨A, 1, none⟩ y1).setCell ⟨A, 2, none⟩ y2).setCell ⟨A, 3, none⟩ y3).setCell ⟨A, 4, none⟩ y4).setCell ⟨A, 5, none⟩ y5) B x0 x1 x2 x3 x4 x5 :=
  resO (resO (resO (resO (resO (resO h hA 0 y0) hA 1 y1) hA 2 y2) hA 3 y3) hA 4 y4) hA 5 y5
end
/-- A row that is owned above what is stored. -/
theorem own1 {w : World} {base : Nat} {e : TypeId} {size : Nat} {v : Value} {n : Nat} {xs : List Value} (h : w.ownsRow base e size v n xs) {B : Nat} (hB : B < base) (i : Nat) (y : Value) : (w.setCell ⟨B, i, none⟩ y).ownsRow base e size v n xs := ownsRow_setCell_below h (a := ⟨B, i, none⟩) hB y
theorem own6 {w : World} {base : Nat} {e : TypeId} {size : Nat} {v : Value} {n : Nat} {xs : List Value} (h : w.ownsRow base e size v n xs) {B : Nat} (hB : B < base) (y0 y1 y2 y3 y4 y5 : Value) : ((((((w.setCell ⟨B, 0, none⟩ y0).setCell ⟨B, 1, none⟩ y1).setCell ⟨B, 2, none⟩ y2).setCell ⟨B, 3, none⟩ y3).setCell ⟨B, 4, none⟩ y4).setCell ⟨B, 5, none⟩ y5).ownsRow base e size v n xs :=
  own1 (own1 (own1 (own1 (own1 (own1 h hB 0 y0) hB 1 y1) hB 2 y2) hB 3 y3) hB 4 y4) hB 5 y5
/-- A row that is owned, told as the cells that lie there. -/
theorem news_of {w : World} {base : Nat} {e : TypeId} {size g cap n : Nat} {xs : List Value} (h : w.ownsRow base e size (.slice (some ⟨g, 0, none⟩) n cap) n xs) : ∀ j u, xs[j]? = some u → w.cell? ((⟨g, 0, none⟩ : Addr).add j) = some u := by
  intro j u hu
  have hj : j < xs.length := (List.getElem?_eq_some_iff.1 hu).1
  have hadd : (⟨g, 0, none⟩ : Addr).add j = ⟨g, j, none⟩ := by unfold Addr.add; split <;> simp_all
  rw [hadd, h.cellAt j (by have := h.1; omega)]
  exact hu
end Go.Proofs.Ytgkmallikomnaaa.DevSet

/- The contract of 'awake' of the laws over package device, which asks what is known of a few devices: it answers true. -/
namespace Go.Proofs.Ytgkmallikomnaaa.DevAwake
open Go.Proofs.Ytgkmallikomnaaa Go.RowKit Go.Proofs.Ytgkmallikomnaaa.Bytes Go.Proofs.Ytgkmallikomnaaa.Ops Go.Proofs.Ytgkmallikomnaaa.Dev Go.Proofs.Ytgkmallikomnaaa.DevRow Go.Proofs.Ytgkmallikomnaaa.DevWalk Go.Proofs.Ytgkmallikomnaaa.DevFail Go.Proofs.Ytgkmallikomnaaa.DevHelp

theorem hal (w : World) (o : Obj) : Below w.heap.size w (w.alloc o) := (Below.refl _ _).alloc (Nat.le_refl _) _
end Go.Proofs.Ytgkmallikomnaaa.DevAwake
