/- Steps in memory at any place: a row of them that a call reads, three cells a step; a struct of five numbers and such a row. No program is named here. -/
import Derived.Test.YtmlfkbkpkgaefaaGreatDoorBagOps
import Derived.SizedLaws
import Derived.WideShapes
import Derived.ChangeSlices
import Derived.Deep.Strs
import Derived.Test.YtmlfkbkpkgaefaaGreatDoorBagAns
import Derived.Laws.AppendOwnNone
import Derived.BigQuiet
import Derived.OneCell
namespace Go.Proofs.YtmlfkbkpkgaefaaGreatDoor.DevRow
open Go.Proofs.YtmlfkbkpkgaefaaGreatDoor Go.RowKit Go.ChangeShapes Go.Proofs.YtmlfkbkpkgaefaaGreatDoor.Bytes Go.Proofs.YtmlfkbkpkgaefaaGreatDoor.Ops Go.Proofs.YtmlfkbkpkgaefaaGreatDoor.OpsRow

/-- The steps l lie in block b, from cell o on. -/
structure StIn (w : World) (b o : Nat) (l : List FOp) : Prop where
  er : ∀ i (h : i < l.length), w.cell? ⟨b, o + i * 3, none⟩ = some (.bool l[i].er)
  pl : ∀ i (h : i < l.length), w.cell? ⟨b, o + i * 3 + 1, none⟩ = some (.int .i64 l[i].pl)
  tx : ∀ i (h : i < l.length), w.cell? ⟨b, o + i * 3 + 2, none⟩ = some (.string l[i].tx)
/-- The value v is a slice of the steps l. -/
def IsSt (w : World) (v : Value) (l : List FOp) : Prop := ∃ a cap, v = .slice a l.length cap ∧ (a = none → cap = 0) ∧ (l = [] ∨ ∃ b o, a = some ⟨b, o, none⟩ ∧ l.length ≤ cap ∧ cap ≤ maxLen ∧ b < w.heap.size ∧ StIn w b o l)
theorem StIn.below {w w' : World} {b o : Nat} {l : List FOp} (h : StIn w b o l) {B : Nat} (hb : Below B w w') (hg : b < B) : StIn w' b o l :=
  ⟨fun i hi => by rw [hb.cell (p := ⟨b, o + i * 3, none⟩) hg]; exact h.er i hi, fun i hi => by rw [hb.cell (p := ⟨b, o + i * 3 + 1, none⟩) hg]; exact h.pl i hi, fun i hi => by rw [hb.cell (p := ⟨b, o + i * 3 + 2, none⟩) hg]; exact h.tx i hi⟩
theorem IsSt.below {w w' : World} {v : Value} {l : List FOp} (h : IsSt w v l) (hb : Below w.heap.size w w') : IsSt w' v l := by
  obtain ⟨a, cap, rfl, h0, h⟩ := h
  refine ⟨a, cap, rfl, h0, ?_⟩
  rcases h with h | ⟨b, o, rfl, h1, h2, h3, h4⟩
  · exact .inl h
  · exact .inr ⟨b, o, rfl, h1, h2, Nat.lt_of_lt_of_le h3 hb.size, h4.below hb h3⟩
theorem isSt_nil (w : World) : IsSt w (.slice none 0 0) [] := ⟨none, 0, rfl, fun _ => rfl, .inl rfl⟩
/-- Of two worlds that are one but for their draws. -/
theorem IsSt.heap {w w' : World} {v : Value} {l : List FOp} (h : IsSt w v l) (e : w'.heap = w.heap) : IsSt w' v l := by
  have hc : ∀ p : Addr, w'.cell? p = w.cell? p := fun p => by unfold World.cell?; rw [e]
  obtain ⟨a, cap, rfl, h0, h⟩ := h
  refine ⟨a, cap, rfl, h0, ?_⟩
  rcases h with h | ⟨b, o, rfl, h1, h2, h3, h4⟩
  · exact .inl h
  · exact .inr ⟨b, o, rfl, h1, h2, by rw [e]; exact h3, ⟨fun i hi => by rw [hc]; exact h4.er i hi, fun i hi => by rw [hc]; exact h4.pl i hi, fun i hi => by rw [hc]; exact h4.tx i hi⟩⟩
/-- Behind a call that began in a world that is the known one but for its draws. -/
theorem stD {a a' b : World} {v : Value} {l : List FOp} (hb : Below a'.heap.size a' b) (h : IsSt a v l) (e : a'.heap = a.heap) : IsSt b v l := (h.heap e).below hb
theorem ownsS_is {w : World} {base : Nat} {e : TypeId} {v : Value} {n : Nat} {l : List FOp} (h : w.ownsRow base e 3 v n (flat l)) : IsSt w v l := by
  have hn : n = l.length := by have := h.1; rw [length_flat] at this; omega
  subst hn
  rcases h.2 with ⟨rfl, h0⟩ | ⟨g, cap, cur, rfl, _, _, h1, h2, _⟩
  · exact ⟨none, 0, by rw [h0], fun _ => rfl, .inl (List.length_eq_zero_iff.1 h0)⟩
  · obtain ⟨_, h3, h4⟩ := owns_in h
    exact ⟨_, cap, rfl, fun h => (by cases h), .inr ⟨g, 0, rfl, h1, h2, h3, ⟨fun i hi => by rw [Nat.zero_add]; exact h4.er i hi, fun i hi => by rw [Nat.zero_add]; exact h4.pl i hi, fun i hi => by rw [Nat.zero_add]; exact h4.tx i hi⟩⟩⟩
/-- A slice of steps written out: one block. -/
theorem madeS_is (w : World) (l : List FOp) (e : TypeId) (n : Nat) (hn : n = l.length) (hl : l.length ≤ maxLen) : IsSt (w.alloc (.cells (flat l).toArray e)) (.slice (some ⟨w.heap.size, 0, none⟩) n n) l := by
  subst hn
  refine ⟨_, _, rfl, fun h => (by cases h), .inr ⟨_, _, rfl, Nat.le_refl _, hl, by simp, ?_, ?_, ?_⟩⟩
  all_goals
    intro i hi
    rw [Nat.zero_add, World.cell?_alloc_at _ e _ _ rfl]
  · have h := flat_get l i 0 hi (by omega); simpa [cells] using h
  · have h := flat_get l i 1 hi (by omega); simpa [cells] using h
  · have h := flat_get l i 2 hi (by omega); simpa [cells] using h
theorem IsSt.len {w : World} {v : Value} {l : List FOp} (h : IsSt w v l) : l.length ≤ maxLen := by
  obtain ⟨a, cap, rfl, h0, h⟩ := h
  rcases h with h | ⟨b, o, rfl, h1, h2, h3, h4⟩
  · rw [h]; exact Nat.zero_le _
  · omega

/-- A struct of six cells in a block of its own: five numbers and a slice. -/
structure Box (w : World) (B : Nat) (x0 x1 x2 x3 x4 x5 : Value) : Prop where
  lt : B < w.heap.size
  c0 : w.cell? ⟨B, 0, none⟩ = some x0
  c1 : w.cell? ⟨B, 1, none⟩ = some x1
  c2 : w.cell? ⟨B, 2, none⟩ = some x2
  c3 : w.cell? ⟨B, 3, none⟩ = some x3
  c4 : w.cell? ⟨B, 4, none⟩ = some x4
  c5 : w.cell? ⟨B, 5, none⟩ = some x5
theorem Box.below {w w' : World} {B : Nat} {x0 x1 x2 x3 x4 x5 : Value} (h : Box w B x0 x1 x2 x3 x4 x5) (hb : Below w.heap.size w w') : Box w' B x0 x1 x2 x3 x4 x5 :=
  ⟨Nat.lt_of_lt_of_le h.lt hb.size, by rw [hb.cell (p := ⟨B, 0, none⟩) h.lt]; exact h.c0, by rw [hb.cell (p := ⟨B, 1, none⟩) h.lt]; exact h.c1, by rw [hb.cell (p := ⟨B, 2, none⟩) h.lt]; exact h.c2, by rw [hb.cell (p := ⟨B, 3, none⟩) h.lt]; exact h.c3, by rw [hb.cell (p := ⟨B, 4, none⟩) h.lt]; exact h.c4, by rw [hb.cell (p := ⟨B, 5, none⟩) h.lt]; exact h.c5⟩
theorem box_of (w : World) (x0 x1 x2 x3 x4 x5 : Value) (e : TypeId) : Box (w.alloc (.cells #[x0, x1, x2, x3, x4, x5] e)) w.heap.size x0 x1 x2 x3 x4 x5 :=
  ⟨by simp, by rw [World.cell?_alloc_at _ e _ 0 rfl]; rfl, by rw [World.cell?_alloc_at _ e _ 1 rfl]; rfl, by rw [World.cell?_alloc_at _ e _ 2 rfl]; rfl, by rw [World.cell?_alloc_at _ e _ 3 rfl]; rfl, by rw [World.cell?_alloc_at _ e _ 4 rfl]; rfl, by rw [World.cell?_alloc_at _ e _ 5 rfl]; rfl⟩
/-- The same, told as a row of facts (what a walk reads). -/
abbrev Six (w : World) (B : Nat) (x0 x1 x2 x3 x4 x5 : Value) : Prop := B < w.heap.size ∧ w.cell? ⟨B, 0, none⟩ = some x0 ∧ w.cell? ⟨B, 1, none⟩ = some x1 ∧ w.cell? ⟨B, 2, none⟩ = some x2 ∧ w.cell? ⟨B, 3, none⟩ = some x3 ∧ w.cell? ⟨B, 4, none⟩ = some x4 ∧ w.cell? ⟨B, 5, none⟩ = some x5
theorem sixM (w : World) (x0 x1 x2 x3 x4 x5 : Value) (e : TypeId) : Six (w.alloc (.cells #[x0, x1, x2, x3, x4, x5] e)) w.heap.size x0 x1 x2 x3 x4 x5 :=
  let h := box_of w x0 x1 x2 x3 x4 x5 e
  ⟨h.lt, h.c0, h.c1, h.c2, h.c3, h.c4, h.c5⟩
theorem sixD {w w' : World} {B : Nat} {x0 x1 x2 x3 x4 x5 : Value} (hb : Below w.heap.size w w') (h : Six w B x0 x1 x2 x3 x4 x5) : Six w' B x0 x1 x2 x3 x4 x5 := by
  obtain ⟨h, h0, h1, h2, h3, h4, h5⟩ := h
  have g := Box.below (w := w) ⟨h, h0, h1, h2, h3, h4, h5⟩ hb
  exact ⟨g.lt, g.c0, g.c1, g.c2, g.c3, g.c4, g.c5⟩
theorem sixB {w w' : World} {B : Nat} {x0 x1 x2 x3 x4 x5 : Value} (h : Six w B x0 x1 x2 x3 x4 x5) (hb : Below w.heap.size w w') : Six w' B x0 x1 x2 x3 x4 x5 := sixD hb h

/-- A struct of six cells in a block of its own that may be written. -/
abbrev Res (w : World) (B : Nat) (x0 x1 x2 x3 x4 x5 : Value) : Prop := B < w.heap.size ∧ w.cell? ⟨B, 0, none⟩ = some x0 ∧ w.cell? ⟨B, 1, none⟩ = some x1 ∧ w.cell? ⟨B, 2, none⟩ = some x2 ∧ w.cell? ⟨B, 3, none⟩ = some x3 ∧ w.cell? ⟨B, 4, none⟩ = some x4 ∧ w.cell? ⟨B, 5, none⟩ = some x5 ∧ ∀ i, w.frozen? ⟨B, i, none⟩ = false
theorem resM (w : World) (x0 x1 x2 x3 x4 x5 : Value) (e : TypeId) : Res (w.alloc (.cells #[x0, x1, x2, x3, x4, x5] e)) w.heap.size x0 x1 x2 x3 x4 x5 := by
  obtain ⟨h, h0, h1, h2, h3, h4, h5⟩ := sixM w x0 x1 x2 x3 x4 x5 e
  exact ⟨h, h0, h1, h2, h3, h4, h5, fun i => World.frozen?_alloc_at _ e _ i rfl⟩
theorem resB {w w' : World} {B : Nat} {x0 x1 x2 x3 x4 x5 : Value} (h : Res w B x0 x1 x2 x3 x4 x5) (hb : Below w.heap.size w w') : Res w' B x0 x1 x2 x3 x4 x5 := by
  obtain ⟨h, h0, h1, h2, h3, h4, h5, h6⟩ := h
  obtain ⟨g, g0, g1, g2, g3, g4, g5⟩ := sixB ⟨h, h0, h1, h2, h3, h4, h5⟩ hb
  exact ⟨g, g0, g1, g2, g3, g4, g5, fun i => by rw [hb.frozen (p := ⟨B, i, none⟩) h]; exact h6 i⟩
theorem resD {w w' : World} {B : Nat} {x0 x1 x2 x3 x4 x5 : Value} (hb : Below w.heap.size w w') (h : Res w B x0 x1 x2 x3 x4 x5) : Res w' B x0 x1 x2 x3 x4 x5 := resB h hb
theorem Res.six {w : World} {B : Nat} {x0 x1 x2 x3 x4 x5 : Value} (h : Res w B x0 x1 x2 x3 x4 x5) : Six w B x0 x1 x2 x3 x4 x5 := by
  obtain ⟨h, h0, h1, h2, h3, h4, h5, h6⟩ := h
  exact ⟨h, h0, h1, h2, h3, h4, h5⟩
/-- A struct's six cells, stored. -/
theorem set6 {B0 : Nat} {w w' : World} {B : Nat} {x0 x1 x2 x3 x4 x5 : Value} (h : Below B0 w w') (hB : B0 ≤ B) : Below B0 w ((((((w'.setCell ⟨B, 0, none⟩ x0).setCell ⟨B, 1, none⟩ x1).setCell ⟨B, 2, none⟩ x2).setCell ⟨B, 3, none⟩ x3).setCell ⟨B, 4, none⟩ x4).setCell ⟨B, 5, none⟩ x5) :=
  (((((h.setCell (p := ⟨B, 0, none⟩) hB _).setCell (p := ⟨B, 1, none⟩) hB _).setCell (p := ⟨B, 2, none⟩) hB _).setCell (p := ⟨B, 3, none⟩) hB _).setCell (p := ⟨B, 4, none⟩) hB _).setCell (p := ⟨B, 5, none⟩) hB _

section
variable {H : Type} {enc : TypeId × Value → H} {P : Program} {w : World} {spare : Nat → Bool} {held : Bool} {base : Nat}
/-- The step in a datum that is one: its cells, where they were read. -/
theorem open_step {e eb ei es : TypeId} {fuel : Nat} {cs : List Value} {y : DataW H × List MemPlace} {f0 f1 f2 : Field} (he : P.underlying e = some (.struct #[f0, f1, f2])) (q0 : f0.type = eb) (q1 : f1.type = ei) (q2 : f2.type = es) (o0 : f0.offset = 0) (o1 : f1.offset = 1) (o2 : f2.offset = 2)
    (hb : P.underlying eb = some .bool) (hi : P.underlying ei = some (.int .i64)) (hs : P.underlying es = some .string) (kb : P.cellsOf eb = 1) (ki : P.cellsOf ei = 1) (ks : P.cellsOf es = 1) (hc : P.cellsOf e = 3)
    (h : DataW.trod enc P w base spare held fuel e cs = some y) : ∃ o : FOp, cs = cells o ∧ y.2 = [] ∧ (Lit.int .i64 o.pl).wf = true ∧ o.tx.size ≤ maxLen := by
  subst q0 q1 q2
  obtain ⟨y0, y1, y2, n, rfl, hl, h0, h1, h2⟩ := Go.Deep.trod_struct3 he h
  rw [hc] at hl
  rw [o0, kb] at h0
  rw [o1, ki] at h1
  rw [o2, ks] at h2
  match cs, hl with
  | [c0, c1, c2], _ =>
    obtain ⟨b, e0, r0⟩ := DataW.trod_bool hb h0
    obtain ⟨m, e1, r1, w1⟩ := DataW.trod_int hi h1
    obtain ⟨s, e2, r2, w2⟩ := DataW.trod_string hs h2
    simp at e0 e1 e2
    subst e0 e1 e2 r0 r1 r2
    exact ⟨⟨b, m, s⟩, rfl, rfl, w1, w2⟩
/-- A slice of steps that came in: what it holds, how long it may be. -/
theorem open_st {t e eb ei es : TypeId} {f0 f1 f2 : Field} {fuel : Nat} {cs : List Value} {x : DataW H × List MemPlace} (ht : P.underlying t = some (.slice e)) (he : P.underlying e = some (.struct #[f0, f1, f2])) (q0 : f0.type = eb) (q1 : f1.type = ei) (q2 : f2.type = es) (o0 : f0.offset = 0) (o1 : f1.offset = 1) (o2 : f2.offset = 2)
    (hb : P.underlying eb = some .bool) (hi : P.underlying ei = some (.int .i64)) (hs : P.underlying es = some .string) (kb : P.cellsOf eb = 1) (ki : P.cellsOf ei = 1) (ks : P.cellsOf es = 1) (hc : P.cellsOf e = 3) (hby : P.bytesOf e = 32)
    (h : DataW.trod enc P w base spare held fuel t cs = some x) (hlt : ∀ p ∈ x.2, p.block < w.heap.size) (hsz : (x.1.weights P t).all (· ≤ reachBytes) = true) :
    ∃ v l, cs = [v] ∧ IsSt w v l ∧ l.length * 32 ≤ 140737488351232 ∧ ∀ o ∈ l, (Lit.int .i64 o.pl).wf = true ∧ o.tx.size ≤ maxLen := by
  rcases DataW.trod_slice ht h with ⟨rfl, rfl⟩ | ⟨a, len, cap, elems, rest, n, _, rfl, rfl, hbb, hl, hm, hlen, hel, hsp, hns⟩
  · exact ⟨_, [], rfl, isSt_nil w, by simp, by simp⟩
  have each : ∀ i, i < len → ∃ o : FOp, w.cells? base (a.add (i * 3)) 3 = some (cells o) ∧ (Lit.int .i64 o.pl).wf = true ∧ o.tx.size ≤ maxLen := by
    intro i hi'
    have h1 := hel i hi'
    rw [hc, List.getElem?_eq_getElem (by omega), Option.bind_eq_some_iff] at h1
    obtain ⟨cs', hcs, hy⟩ := h1
    obtain ⟨o, rfl, _, w1, w2⟩ := open_step he q0 q1 q2 o0 o1 o2 hb hi hs kb ki ks hc hy
    exact ⟨o, hcs, w1, w2⟩
  obtain ⟨g, hg⟩ : ∃ g : Nat → FOp, ∀ i, i < len → w.cells? base (a.add (i * 3)) 3 = some (cells (g i)) ∧ (Lit.int .i64 (g i).pl).wf = true ∧ (g i).tx.size ≤ maxLen := by
    refine ⟨fun i => if h : i < len then Classical.choose (each i h) else ⟨false, 0, ⟨#[]⟩⟩, fun i hi' => ?_⟩
    simp only [hi', dif_pos]
    exact Classical.choose_spec (each i hi')
  have hll : ((List.range len).map g).length = len := by simp
  have hgi : ∀ i (h : i < ((List.range len).map g).length), ((List.range len).map g)[i] = g i := fun i h => by simp
  refine ⟨_, (List.range len).map g, rfl, ⟨some a, cap, by rw [hll], fun h => (by cases h), ?_⟩, ?_, ?_⟩
  · by_cases hl0 : len = 0
    · left; rw [hl0]; rfl
    · right
      obtain ⟨b, off, spot⟩ := a
      have hspot : spot = none := by
        have h1 := (World.cells?_some (hg 0 (by omega)).1).2.2 0 (by omega)
        have h2 : w.cell? ⟨b, off, spot⟩ = some (.bool (g 0).er) := by simpa [Addr.add, cells] using h1
        exact World.cell?_spot h2
      subst hspot
      have c0 : ∀ i, i < len → ∀ j, j < 3 → w.cell? ⟨b, off + i * 3 + j, none⟩ = (cells (g i))[j]? := by
        intro i hi' j hj
        have h1 := (World.cells?_some (hg i hi').1).2.2 j hj
        rwa [Go.WideShapes.add_plain, Go.WideShapes.add_plain] at h1
      have hbW : b < w.heap.size := hlt (.cell b off) (by
        apply List.mem_append_left
        exact MemPlace.mem_row.2 ⟨0, by rw [hc]; omega, by simp⟩)
      refine ⟨b, off, rfl, by rw [hll]; exact hl, hm, hbW, ?_, ?_, ?_⟩
      all_goals
        intro i hi'
        rw [hgi i hi']
        rw [hll] at hi'
      · exact c0 i hi' 0 (by omega)
      · exact c0 i hi' 1 (by omega)
      · exact c0 i hi' 2 (by omega)
  · have := List.all_eq_true.1 hsz ((elems.length + rest.length) * P.bytesOf e) (by simp [DataW.weights, ht])
    rw [hby] at this
    replace this := of_decide_eq_true this
    unfold reachBytes at this
    rw [hll, ← hlen]
    omega
  · intro o ho
    rw [List.mem_map] at ho
    obtain ⟨i, hi', rfl⟩ := ho
    exact (hg i (by simpa using hi')).2
/-- The weights of a struct's field are among the struct's. -/
theorem sized_field {t : TypeId} {fs : Array Field} {xs : List (DataW H × List MemPlace)} (ht : P.underlying t = some (.struct fs)) (hsz : ((DataW.agg (xs.map (·.1)) : DataW H).weights P t).all (· ≤ reachBytes) = true) {j : Nat} {f : Field} {y : DataW H × List MemPlace} (hf : fs[j]? = some f) (hy : xs[j]? = some y) :
    (y.1.weights P f.type).all (· ≤ reachBytes) = true := by
  rw [List.all_eq_true] at hsz ⊢
  intro n hn
  refine hsz n ?_
  simp only [DataW.weights, ht]
  exact DataW.weights_mem_each (j := j) (t := f.type) (d := y.1) (by rw [List.getElem?_map, Array.getElem?_toList, hf]; rfl) (by rw [List.getElem?_map, hy]; rfl) n hn
/-- A struct's field: its own reading, its places, its weights. -/
theorem field_of2 {t : TypeId} {fs : Array Field} {fuel : Nat} {cs : List Value} {x : DataW H × List MemPlace} (ht : P.underlying t = some (.struct fs)) (h : DataW.trod enc P w base spare held fuel t cs = some x) (hlt : ∀ p ∈ x.2, p.block < w.heap.size) (hsz : (x.1.weights P t).all (· ≤ reachBytes) = true) (i : Nat) (f : Field) (hf : fs[i]? = some f) :
    ∃ n y, DataW.trod enc P w base spare held n f.type ((cs.drop f.offset).take (P.cellsOf f.type)) = some y ∧ (∀ p ∈ y.2, p.block < w.heap.size) ∧ (y.1.weights P f.type).all (· ≤ reachBytes) = true := by
  obtain ⟨xs, n, _, rfl, _, hlen, hq⟩ := DataW.trod_struct ht h
  have hi : i < xs.length := by
    rw [hlen]
    rcases Nat.lt_or_ge i fs.size with h1 | h1
    · exact h1
    · rw [Array.getElem?_eq_none h1] at hf; cases hf
  exact ⟨n, xs[i], by rw [hq i f hf, List.getElem?_eq_getElem hi], fun p hp => hlt p (List.mem_flatMap.2 ⟨xs[i], List.getElem_mem hi, hp⟩), sized_field ht hsz hf (List.getElem?_eq_getElem hi)⟩
/-- The weights of one argument are among all. -/
theorem sized_arg {ts : List TypeId} {ds : List (DataW H)} (h : (DataW.weightsEach P ts ds).all (· ≤ reachBytes) = true) {j : Nat} {t : TypeId} {d : DataW H} (ht : ts[j]? = some t) (hd : ds[j]? = some d) : (d.weights P t).all (· ≤ reachBytes) = true := by
  rw [List.all_eq_true] at h ⊢
  exact fun n hn => h n (DataW.weights_mem_each ht hd n hn)
end
end Go.Proofs.YtmlfkbkpkgaefaaGreatDoor.DevRow

/- Devices: which may be, what becomes of one that fails. No program is named here. -/
namespace Go.Proofs.YtmlfkbkpkgaefaaGreatDoor.Dev
open Go.Proofs.YtmlfkbkpkgaefaaGreatDoor Go.Proofs.YtmlfkbkpkgaefaaGreatDoor.Ops Go.Proofs.YtmlfkbkpkgaefaaGreatDoor.Ans

/-- A device: its numbers, its steps. -/
structure FDev where
  sa : Int
  su : Int
  nx : Int
  gt : Int
  sl : Int
  ops : List FOp

/-- May each of the first n steps be? -/
def mayTo (l : List FOp) (n : Nat) : Bool := (l.take n).all fun o => opMay o.er o.pl o.tx
def mayAll (l : List FOp) : Bool := l.all fun o => opMay o.er o.pl o.tx
theorem mayTo_zero (l : List FOp) : mayTo l 0 = true := rfl
theorem mayTo_succ {l : List FOp} {n : Nat} (h : n < l.length) : mayTo l (n + 1) = (mayTo l n && opMay l[n].er l[n].pl l[n].tx) := by
  unfold mayTo
  rw [List.take_succ_eq_append_getElem h, List.all_append]
  simp
theorem mayTo_all (l : List FOp) : mayTo l l.length = mayAll l := by unfold mayTo mayAll; rw [List.take_length]
theorem mayAll_bad {l : List FOp} {n : Nat} (h : n < l.length) (hb : opMay l[n].er l[n].pl l[n].tx = false) : mayAll l = false := by
  unfold mayAll
  rw [List.all_eq_false]
  exact ⟨l[n], List.getElem_mem h, by rw [hb]; simp⟩
theorem mayAll_get {l : List FOp} (h : mayAll l = true) {n : Nat} (hn : n < l.length) : opMay l[n].er l[n].pl l[n].tx = true := by
  unfold mayAll at h
  exact List.all_eq_true.1 h _ (List.getElem_mem hn)

def upB (x k : Int) : Bool := decide (0 ≤ x ∧ x ≤ k)
/-- May these be a device's steps? -/
def stepsB (l : List FOp) : Bool := decide (l.length ≤ 768) && mayAll l
theorem stepsB_long {l : List FOp} (h : ¬ l.length ≤ 768) : stepsB l = false := by unfold stepsB; rw [decide_eq_false h]; rfl
theorem stepsB_short {l : List FOp} (h : l.length ≤ 768) : stepsB l = mayAll l := by unfold stepsB; rw [decide_eq_true h]; rfl
theorem stepsB_nil : stepsB [] = true := rfl
def devB (d : FDev) : Bool := saB d.sa && stB d.su && upB d.nx 16 && upB d.gt 288 && upB d.sl 1 && stepsB d.ops
/-- A status that a device may fail with. -/
def flB (s : Int) : Bool := decide (1 ≤ s ∧ s ≤ 6)
theorem flB_parts {s : Int} : flB s = true ↔ 1 ≤ s ∧ s ≤ 6 := by unfold flB; exact decide_eq_true_iff
def failB (d : FDev) (s : Int) : Bool := devB d && flB s
def errD (ok : Bool) : Int := if ok then 0 else 1600
/-- The state, the status of what comes of it: nothing where it is refused. -/
def faSa (ok : Bool) : Int := if ok then 7 else 0
def faSu (ok : Bool) (s : Int) : Int := if ok then s else 0
def newD : FDev := ⟨0, 0, 0, 0, 0, []⟩
def failD (d : FDev) (s : Int) : FDev := ⟨faSa (failB d s), faSu (failB d s) s, 0, 0, 0, []⟩
theorem new_may : devB newD = true := rfl
theorem failed_may {s : Int} (h : flB s = true) : devB ⟨7, s, 0, 0, 0, []⟩ = true := by
  obtain ⟨h1, h2⟩ := flB_parts.1 h
  have : stB s = true := by unfold stB; exact decide_eq_true (by omega)
  unfold devB
  simp only [this]
  rfl
end Go.Proofs.YtmlfkbkpkgaefaaGreatDoor.Dev

/- The contracts of package device: each call returns what the plain functions give, whatever its arguments; of what was there nothing has turned. -/
namespace Go.Proofs.YtmlfkbkpkgaefaaGreatDoor.DevWalk
open Go.Proofs.YtmlfkbkpkgaefaaGreatDoor Go.RowKit Go.Proofs.YtmlfkbkpkgaefaaGreatDoor.Bytes Go.Proofs.YtmlfkbkpkgaefaaGreatDoor.Ops Go.Proofs.YtmlfkbkpkgaefaaGreatDoor.OpsRow Go.Proofs.YtmlfkbkpkgaefaaGreatDoor.OpsWalk Go.Proofs.YtmlfkbkpkgaefaaGreatDoor.Ans Go.Proofs.YtmlfkbkpkgaefaaGreatDoor.Dev Go.Proofs.YtmlfkbkpkgaefaaGreatDoor.DevRow
open Go.Proofs.YtmlfkbkpkgaefaaGreatDoor.AnsWalk (amay_any)
open Go.Proofs.YtmlfkbkpkgaefaaGreatDoor.NorWalk (ret_bool)
attribute [local go_sem ↓] Go.wp_at_zero Go.wp_at_succ

theorem notStep_any (e : Bool) (a : Int) (t : ByteArray) (w : World) : Calls Tryz.prog 79 #[.agg #[.bool e, .int .i64 a, .string t]] w fun r w' => r = .returned (.bool (!opMay e a t)) ∧ Below w.heap.size w w' := by
  have hB := (Below.refl w.heap.size w).alloc (Nat.le_refl _) (.cells #[.bool e, .int .i64 a, .string t] 86)
  go_enter Tryz.func79, Tryz.ntmps79
  go_wp2_with (go_at_call 80; refine (opMay_any _ _ _ _).mono ?_; rintro e w' ⟨rfl, hb⟩; replace hB := hB.trans (hb.mono hB.size); clear hb)
  all_goals
    go_ret
    exact ⟨rfl, hB⟩
set_option maxRecDepth 100000 in
set_option maxHeartbeats 1000000 in
/-- The first step that may not be. -/
theorem index_any (v : Value) (l : List FOp) (w : World) (hv : IsSt w v l) : Calls Tryz.prog 94 #[v, .func (.func 79) #[] #[]] w fun r w' => (∃ k : Int, r = .returned (.int .i64 k) ∧ decide (0 ≤ k) = !mayAll l) ∧ Below w.heap.size w w' := by
  have hl : l.length ≤ 9223372036854775807 := by have := hv.len; unfold maxLen at this; omega
  obtain ⟨a, ca, rfl, _, ha⟩ := hv
  go_enter Tryz.func94, Tryz.ntmps94
  go_wp2
  go_loopw [8] (fun i wr => ∃ j : Nat, j ≤ l.length ∧ i = .int .i64 j ∧ mayTo l j = true ∧ Below w.heap.size w wr) (fun i _ => l.length - (intOf i).toNat)
  case atStart => exact ⟨0, Nat.zero_le _, rfl, rfl, Below.refl _ _⟩
  case round =>
    obtain ⟨j, hj, rfl, hm, hB⟩ := hrel
    by_cases hlt : j < l.length
    · rcases ha with ha | ⟨g, o, rfl, _, _, hg, ha⟩
      · rw [ha] at hlt; simp at hlt
      have ha' := ha.below hB hg
      have a1 := ha'.er j hlt
      have a2 := ha'.pl j hlt
      have a3 := ha'.tx j hlt
      have HN := hide (mayTo_succ hlt)
      have HF : Hid (opMay l[j].er l[j].pl l[j].tx = false → mayAll l = false) := fun h => mayAll_bad hlt h
      generalize l[j].er = E at *
      generalize l[j].pl = A at *
      generalize l[j].tx = T at *
      clear ha ha'
      have HM : Hid (mayTo l j = true) := hm
      clear hm
      cases hc : opMay E A T with
      | true =>
        go_wp2_with (go_at_call 79; refine (notStep_any _ _ _ _).mono ?_; rintro e w' ⟨rfl, hb⟩; replace hB := hB.trans (hb.mono hB.size); clear hb)
        exact ⟨⟨j + 1, by omega, by go_num, by rw [HN.out, HM.out, hc]; rfl, hB⟩, by simp [intOf]; omega⟩
      | false =>
        go_wp2_with (go_at_call 79; refine (notStep_any _ _ _ _).mono ?_; rintro e w' ⟨rfl, hb⟩; replace hB := hB.trans (hb.mono hB.size); clear hb)
        go_ret
        exact ⟨⟨_, rfl, by rw [HF.out hc]; simp⟩, hB⟩
    · obtain rfl : j = l.length := by omega
      rw [mayTo_all] at hm
      go_wp2
      go_ret
      exact ⟨⟨_, rfl, by rw [hm]; rfl⟩, hB⟩
theorem contains_any (v : Value) (l : List FOp) (w : World) (hv : IsSt w v l) : Calls Tryz.prog 78 #[v, .func (.func 79) #[] #[]] w fun r w' => r = .returned (.bool (!mayAll l)) ∧ Below w.heap.size w w' := by
  have HI := hide (index_any v l w hv)
  go_enter Tryz.func78, Tryz.ntmps78
  go_wp2_with (go_at_call 94; refine HI.out.mono ?_; rintro e w' ⟨⟨k, rfl, hk⟩, hb⟩)
  go_ret
  exact ⟨ret_bool (by rw [← hk]), hb⟩
theorem steps_any (v : Value) (l : List FOp) (w : World) (hv : IsSt w v l) : Calls Tryz.prog 52 #[v] w fun r w' => r = .returned (.bool (stepsB l)) ∧ Below w.heap.size w w' := by
  have hl : l.length ≤ 9223372036854775807 := by have := hv.len; unfold maxLen at this; omega
  have HC := hide (contains_any v l w hv)
  obtain ⟨a, ca, rfl, _, _⟩ := hv
  by_cases h : l.length ≤ 768
  · rw [stepsB_short h]
    cases hc : mayAll l
    all_goals
      rw [hc] at HC
      go_enter Tryz.func52, Tryz.ntmps52
      go_wp2_with (go_at_call 78; refine HC.out.mono ?_; rintro e w' ⟨rfl, hb⟩)
      go_ret
      exact ⟨rfl, hb⟩
  · rw [stepsB_long h]
    go_enter Tryz.func52, Tryz.ntmps52
    go_wp2
    go_ret
    exact ⟨rfl, Below.refl _ _⟩
theorem within_any (x k : Int) (w : World) : Calls Tryz.prog 51 #[.int .i64 x, .int .i64 k] w fun r w' => r = .returned (.bool (upB x k)) ∧ w' = w := by
  go_enter Tryz.func51, Tryz.ntmps51
  go_wp2
  all_goals
    go_ret
    exact ⟨ret_bool (by unfold upB; rw [Bool.eq_iff_iff]; simp; try omega), rfl⟩
theorem build_su (su sa : Int) (w : World) : (Instr.build 52 #[(0, .int .i64 su), (2, .int .i64 sa)]).run Tryz.prog w = .ok (.agg #[.int .i64 su, .int .i64 0, .int .i64 sa]) w := run_build w 52 _ _ (by kernel_rfl)
theorem build_s (su : Int) (w : World) : (Instr.build 52 #[(0, .int .i64 su)]).run Tryz.prog w = .ok (.agg #[.int .i64 su, .int .i64 0, .int .i64 0]) w := run_build w 52 _ _ (by kernel_rfl)
theorem build_d0 (w : World) : (Instr.build 24 #[]).run Tryz.prog w = .ok (.agg #[.int .i64 0, .int .i64 0, .int .i64 0, .int .i64 0, .int .i64 0, .slice none 0 0]) w := run_build w 24 _ _ (by kernel_rfl)
theorem build_d2 (a b : Int) (w : World) : (Instr.build 24 #[(0, .int .i64 a), (1, .int .i64 b)]).run Tryz.prog w = .ok (.agg #[.int .i64 a, .int .i64 b, .int .i64 0, .int .i64 0, .int .i64 0, .slice none 0 0]) w := run_build w 24 _ _ (by kernel_rfl)
theorem dev_ways (d : FDev) : (ansB d.su 0 d.sa = false ∧ devB d = false) ∨ (ansB d.su 0 d.sa = true ∧ upB d.nx 16 = false ∧ devB d = false) ∨ (ansB d.su 0 d.sa = true ∧ upB d.nx 16 = true ∧ upB d.gt 288 = false ∧ devB d = false) ∨ (ansB d.su 0 d.sa = true ∧ upB d.nx 16 = true ∧ upB d.gt 288 = true ∧ upB d.sl 1 = false ∧ devB d = false) ∨ (ansB d.su 0 d.sa = true ∧ upB d.nx 16 = true ∧ upB d.gt 288 = true ∧ upB d.sl 1 = true ∧ devB d = stepsB d.ops) := by
  have h : ansB d.su 0 d.sa = (saB d.sa && stB d.su) := by
    unfold ansB saB stB
    rw [Bool.eq_iff_iff]
    simp
    omega
  unfold devB
  rw [h]
  cases saB d.sa <;> cases stB d.su <;> cases upB d.nx 16 <;> cases upB d.gt 288 <;> cases upB d.sl 1 <;> simp
set_option maxRecDepth 100000 in
set_option maxHeartbeats 1000000 in
theorem dmay_any (d : FDev) (v : Value) (w : World) (hv : IsSt w v d.ops) : Calls Tryz.prog 22 #[.agg #[.int .i64 d.sa, .int .i64 d.su, .int .i64 d.nx, .int .i64 d.gt, .int .i64 d.sl, v]] w fun r w' => r = .returned (.bool (devB d)) ∧ Below w.heap.size w w' := by
  have hB := (Below.refl w.heap.size w).alloc (Nat.le_refl _) (.cells #[.int .i64 d.sa, .int .i64 d.su, .int .i64 d.nx, .int .i64 d.gt, .int .i64 d.sl, v] 24)
  have hX := sixM w (.int .i64 d.sa) (.int .i64 d.su) (.int .i64 d.nx) (.int .i64 d.gt) (.int .i64 d.sl) v 24
  have HS : Hid (∀ w', Below w.heap.size w w' → Calls Tryz.prog 52 #[v] w' fun r w'' => r = .returned (.bool (stepsB d.ops)) ∧ Below w'.heap.size w' w'') := fun w' hb => steps_any v d.ops w' (hv.below hb)
  have b1 := build_su
  have hw := dev_ways d
  obtain ⟨sa, su, nx, gt, sl, l⟩ := d
  obtain ⟨a, ca, rfl, _, _⟩ := hv
  dsimp only at *
  rcases hw with ⟨h1, h⟩ | ⟨h1, h2, h⟩ | ⟨h1, h2, h3, h⟩ | ⟨h1, h2, h3, h4, h⟩ | ⟨h1, h2, h3, h4, h⟩
  all_goals
    rw [h]
    clear h
    go_enter Tryz.func22, Tryz.ntmps22
    go_wp2_with (first | (go_at_call 50; refine (amay_any _ _ _ _).mono ?_; rintro e w' ⟨rfl, hb⟩; replace hB := thenB hB hb; replace hX := sixB hX hb; clear hb) | (go_at_call 51; refine (within_any _ _ _).mono ?_; rintro e w' ⟨rfl, rfl⟩) | (go_at_call 52; refine (HS.out _ hB).mono ?_; rintro e w' ⟨rfl, hb⟩; replace hB := thenB hB hb; replace hX := sixB hX hb; clear hb))
    go_ret
    exact ⟨rfl, hB⟩
theorem new_any (w : World) : Calls Tryz.prog 87 #[] w fun r w' => r = .returned (.agg #[.int .i64 0, .int .i64 0, .int .i64 0, .int .i64 0, .int .i64 0, .slice none 0 0]) ∧ Below w.heap.size w w' := by
  have b := build_d2
  go_enter Tryz.func87, Tryz.ntmps87
  go_wp2
  exact bodyPost_ret (v := .agg #[.int .i64 0, .int .i64 0, .int .i64 0, .int .i64 0, .int .i64 0, .slice none 0 0]) (by simp [results, Tryz.results87, go_sem]) rfl ⟨rfl, (Below.refl _ _).alloc (Nat.le_refl _) _⟩
theorem flB_ways (s : Int) : (s = 0 ∧ flB s = false) ∨ ((s != 0) = true ∧ flB s = ansB s 0 0) := by
  unfold flB ansB
  by_cases h : s = 0
  · subst h; exact .inl ⟨rfl, rfl⟩
  · refine .inr ⟨bne_iff_ne.2 h, ?_⟩
    rw [Bool.eq_iff_iff]
    simp
    omega
set_option maxRecDepth 100000 in
theorem fault_any (s : Int) (w : World) : Calls Tryz.prog 86 #[.int .i64 s] w fun r w' => r = .returned (.bool (flB s)) ∧ Below w.heap.size w w' := by
  have b1 := build_s
  rcases flB_ways s with ⟨rfl, h⟩ | ⟨h1, h⟩
  all_goals
    rw [h]
    clear h
    go_enter Tryz.func86, Tryz.ntmps86
    go_wp2_with (go_at_call 50; refine (amay_any _ _ _ _).mono ?_; rintro e w' ⟨rfl, hb⟩)
    go_ret
    first | exact ⟨rfl, hb⟩ | exact ⟨rfl, Below.refl _ _⟩
end Go.Proofs.YtmlfkbkpkgaefaaGreatDoor.DevWalk

/- The contract of device.Fail. -/
namespace Go.Proofs.YtmlfkbkpkgaefaaGreatDoor.DevFail
open Go.Proofs.YtmlfkbkpkgaefaaGreatDoor Go.RowKit Go.Proofs.YtmlfkbkpkgaefaaGreatDoor.Bytes Go.Proofs.YtmlfkbkpkgaefaaGreatDoor.Ops Go.Proofs.YtmlfkbkpkgaefaaGreatDoor.Ans Go.Proofs.YtmlfkbkpkgaefaaGreatDoor.Dev Go.Proofs.YtmlfkbkpkgaefaaGreatDoor.DevRow Go.Proofs.YtmlfkbkpkgaefaaGreatDoor.DevWalk
open Go.Proofs.YtmlfkbkpkgaefaaGreatDoor.OpsWalk (size_alloc1)
attribute [local go_sem ↓] Go.wp_at_zero Go.wp_at_succ
theorem ret_dev {a b a' b' e e' : Int} (h : a = a' ∧ b = b' ∧ e = e') : Ending.returned (.tuple #[.agg #[.int .i64 a, .int .i64 b, .int .i64 0, .int .i64 0, .int .i64 0, .slice none 0 0], .int .i64 e]) = .returned (.tuple #[.agg #[.int .i64 a', .int .i64 b', .int .i64 0, .int .i64 0, .int .i64 0, .slice none 0 0], .int .i64 e']) := by
  obtain ⟨rfl, rfl, rfl⟩ := h
  rfl
theorem fail_f {d : FDev} {s : Int} (h : failB d s = false) : (0 : Int) = faSa (failB d s) ∧ (0 : Int) = faSu (failB d s) s ∧ (1600 : Int) = errD (failB d s) := by rw [h]; exact ⟨rfl, rfl, rfl⟩
theorem fail_t {d : FDev} {s : Int} (h : failB d s = true) : (7 : Int) = faSa (failB d s) ∧ s = faSu (failB d s) s ∧ (0 : Int) = errD (failB d s) := by rw [h]; exact ⟨rfl, rfl, rfl⟩
set_option maxRecDepth 100000 in
set_option maxHeartbeats 1000000 in
theorem fail_any (d : FDev) (v : Value) (s : Int) (w : World) (hv : IsSt w v d.ops) : Calls Tryz.prog 56 #[.agg #[.int .i64 d.sa, .int .i64 d.su, .int .i64 d.nx, .int .i64 d.gt, .int .i64 d.sl, v], .int .i64 s] w fun r w' => r = .returned (.tuple #[.agg #[.int .i64 (faSa (failB d s)), .int .i64 (faSu (failB d s) s), .int .i64 0, .int .i64 0, .int .i64 0, .slice none 0 0], .int .i64 (errD (failB d s))]) ∧ Below w.heap.size w w' := by
  have hB := ((Below.refl w.heap.size w).alloc (Nat.le_refl _) (.cells #[.int .i64 d.sa, .int .i64 d.su, .int .i64 d.nx, .int .i64 d.gt, .int .i64 d.sl, v] 24)).alloc (Nat.le_of_lt (size_alloc1 _ _)) (.cells #[.int .i64 0, .int .i64 0, .int .i64 0, .int .i64 0, .int .i64 0, .slice none 0 0] 24)
  have hR := resM (w.alloc (.cells #[.int .i64 d.sa, .int .i64 d.su, .int .i64 d.nx, .int .i64 d.gt, .int .i64 d.sl, v] 24)) (.int .i64 0) (.int .i64 0) (.int .i64 0) (.int .i64 0) (.int .i64 0) (.slice none 0 0) 24
  rw [show (w.alloc (.cells #[.int .i64 d.sa, .int .i64 d.su, .int .i64 d.nx, .int .i64 d.gt, .int .i64 d.sl, v] 24)).heap.size = w.heap.size + 1 from by simp] at hR
  have HS : Hid (∀ w', Below w.heap.size w w' → Calls Tryz.prog 22 #[.agg #[.int .i64 d.sa, .int .i64 d.su, .int .i64 d.nx, .int .i64 d.gt, .int .i64 d.sl, v]] w' fun r w'' => r = .returned (.bool (devB d)) ∧ Below w'.heap.size w' w'') := fun w' hb => dmay_any d v w' (hv.below hb)
  have b1 := build_d0
  have hF : failB d s = (devB d && flB s) := rfl
  obtain ⟨a, ca, rfl, _, _⟩ := hv
  cases h1 : devB d with
  | false =>
    have HZ := hide (fail_f (d := d) (s := s) (by rw [hF, h1]; rfl))
    rw [h1] at HS
    clear hF h1
    go_enter Tryz.func56, Tryz.ntmps56
    go_wp2_with (go_at_call 22; refine (HS.out _ hB).mono ?_; rintro e w' ⟨rfl, hb⟩; replace hB := thenB hB hb; replace hR := resB hR hb; clear hb)
    exact bodyPost_ret (v := .tuple #[.agg #[.int .i64 0, .int .i64 0, .int .i64 0, .int .i64 0, .int .i64 0, .slice none 0 0], .int .i64 1600]) (by simp [results, Tryz.results56, go_sem, hR]) rfl ⟨ret_dev HZ.out, set6 hB (by omega)⟩
  | true =>
    rw [h1] at HS
    cases h2 : flB s with
    | false =>
      have HZ := hide (fail_f (d := d) (s := s) (by rw [hF, h1, h2]; rfl))
      have HU := hide (fun w => fault_any s w)
      rw [h2] at HU
      clear hF h1 h2
      go_enter Tryz.func56, Tryz.ntmps56
      go_wp2_with (first | (go_at_call 22; refine (HS.out _ hB).mono ?_; rintro e w' ⟨rfl, hb⟩; replace hB := thenB hB hb; replace hR := resB hR hb; clear hb) | (go_at_call 86; refine (HU.out _).mono ?_; rintro e w' ⟨rfl, hb⟩; replace hB := thenB hB hb; replace hR := resB hR hb; clear hb))
      exact bodyPost_ret (v := .tuple #[.agg #[.int .i64 0, .int .i64 0, .int .i64 0, .int .i64 0, .int .i64 0, .slice none 0 0], .int .i64 1600]) (by simp [results, Tryz.results56, go_sem, hR]) rfl ⟨ret_dev HZ.out, set6 hB (by omega)⟩
    | true =>
      have HZ := hide (fail_t (d := d) (s := s) (by rw [hF, h1, h2]; rfl))
      have HU := hide (fun w => fault_any s w)
      rw [h2] at HU
      clear hF h1 h2
      go_enter Tryz.func56, Tryz.ntmps56
      go_wp2_with (first | (go_at_call 22; refine (HS.out _ hB).mono ?_; rintro e w' ⟨rfl, hb⟩; replace hB := thenB hB hb; replace hR := resB hR hb; clear hb) | (go_at_call 86; refine (HU.out _).mono ?_; rintro e w' ⟨rfl, hb⟩; replace hB := thenB hB hb; replace hR := resB hR hb; clear hb) | (go_at_call 87; refine (new_any _).mono ?_; rintro e w' ⟨rfl, hb⟩; replace hB := thenB hB hb; replace hR := resB hR hb; clear hb))
      have hS := set6 (x0 := .int .i64 7) (x1 := .int .i64 s) (x2 := .int .i64 0) (x3 := .int .i64 0) (x4 := .int .i64 0) (x5 := .slice none 0 0) hB (Nat.le_succ w.heap.size)
      exact bodyPost_ret (v := .tuple #[.agg #[.int .i64 7, .int .i64 s, .int .i64 0, .int .i64 0, .int .i64 0, .slice none 0 0], .int .i64 0]) (by simp [results, Tryz.results56, go_sem, hR]) rfl ⟨ret_dev HZ.out, hS.alloc hS.size _⟩
end Go.Proofs.YtmlfkbkpkgaefaaGreatDoor.DevFail

/- The contracts of the laws' helpers on devices: whether two are the same, another one with the same steps, an error's number. -/
namespace Go.Proofs.YtmlfkbkpkgaefaaGreatDoor.DevHelp
open Go.Proofs.YtmlfkbkpkgaefaaGreatDoor Go.RowKit Go.Proofs.YtmlfkbkpkgaefaaGreatDoor.Bytes Go.Proofs.YtmlfkbkpkgaefaaGreatDoor.Ops Go.Proofs.YtmlfkbkpkgaefaaGreatDoor.OpsRow Go.Proofs.YtmlfkbkpkgaefaaGreatDoor.Dev Go.Proofs.YtmlfkbkpkgaefaaGreatDoor.DevRow
theorem info_op : (Tryz.prog.info? 86).map (fun i => (i.zero, i.size, i.bytes)) = some (some (.agg #[.bool false, .int .i64 0, .string ⟨#[]⟩]), 3, 32) := by kernel_rfl
theorem num_any (n : Int) (w : World) : Calls Tryz.prog 11 #[.int .i64 n] w fun e w' => e = .returned (.int .i64 n) ∧ w' = w := by
  go_enter Tryz.func11, Tryz.ntmps11
  go_wp2
  go_ret
  exact ⟨rfl, rfl⟩
set_option maxRecDepth 100000 in
set_option maxHeartbeats 1000000 in
theorem sameSt_yes (u v : Value) (l : List FOp) (w : World) (hu : IsSt w u l) (hv : IsSt w v l) : Calls Tryz.prog 35 #[u, v] w fun e w' => e = .returned (.bool true) ∧ Below w.heap.size w w' := by
  have hl : l.length ≤ 9223372036854775807 := by have := hv.len; unfold maxLen at this; omega
  obtain ⟨a, ca, rfl, _, ha⟩ := hu
  obtain ⟨b, cb, rfl, _, hb⟩ := hv
  go_enter Tryz.func35, Tryz.ntmps35
  go_wp2
  go_loopw [5] (fun i wr => ∃ j : Nat, j ≤ l.length ∧ i = .int .i64 j ∧ ∃ n, wr = w.drewN n) (fun i _ => l.length - (intOf i).toNat)
  case atStart => exact ⟨0, Nat.zero_le _, rfl, 0, rfl⟩
  case round =>
    obtain ⟨j, hj, rfl, n, rfl⟩ := hrel
    by_cases hlt : j < l.length
    · rcases ha with ha | ⟨g, o, rfl, _, _, _, ha⟩
      · rw [ha] at hlt; simp at hlt
      rcases hb with hb | ⟨g', o', rfl, _, _, _, hb⟩
      · rw [hb] at hlt; simp at hlt
      have a1 := ha.er j hlt
      have a2 := ha.pl j hlt
      have a3 := ha.tx j hlt
      have b1 := hb.er j hlt
      have b2 := hb.pl j hlt
      have b3 := hb.tx j hlt
      generalize l[j].er = E at *
      generalize l[j].pl = A at *
      generalize l[j].tx = T at *
      clear ha hb
      go_wp2
      go_quiet (fail)
      go_wp2
      exact ⟨⟨j + 1, by omega, by go_num, n + nq, rfl⟩, by simp [intOf]; omega⟩
    · go_wp2
      go_ret
      exact ⟨rfl, bel_drewN (Below.refl _ _) _⟩
set_option maxRecDepth 100000 in
set_option maxHeartbeats 2000000 in
theorem sameDev_yes (d : FDev) (u v : Value) (w : World) (hu : IsSt w u d.ops) (hv : IsSt w v d.ops) : Calls Tryz.prog 10 #[.agg #[.int .i64 d.sa, .int .i64 d.su, .int .i64 d.nx, .int .i64 d.gt, .int .i64 d.sl, u], .agg #[.int .i64 d.sa, .int .i64 d.su, .int .i64 d.nx, .int .i64 d.gt, .int .i64 d.sl, v]] w fun e w' => e = .returned (.bool true) ∧ Below w.heap.size w w' := by
  have HS : Hid (∀ w', Below w.heap.size w w' → Calls Tryz.prog 35 #[u, v] w' fun e w'' => e = .returned (.bool true) ∧ Below w'.heap.size w' w'') := fun w' hb => sameSt_yes u v d.ops w' (hu.below hb) (hv.below hb)
  have hB := ((Below.refl w.heap.size w).alloc (Nat.le_refl _) (.cells #[.int .i64 d.sa, .int .i64 d.su, .int .i64 d.nx, .int .i64 d.gt, .int .i64 d.sl, u] 24)).alloc (by simp) (.cells #[.int .i64 d.sa, .int .i64 d.su, .int .i64 d.nx, .int .i64 d.gt, .int .i64 d.sl, v] 24)
  obtain ⟨a, ca, rfl, _, _⟩ := hu
  obtain ⟨b, cb, rfl, _, _⟩ := hv
  obtain ⟨sa, su, nx, gt, sl, l⟩ := d
  dsimp only at *
  go_enter Tryz.func10, Tryz.ntmps10
  go_wp2_with (go_at_call 35; refine (HS.out _ hB).mono ?_; rintro e w' ⟨rfl, hb⟩; replace hB := thenB hB hb; clear hb)
  go_ret
  exact ⟨rfl, hB⟩
theorem owns_form {w : World} {base : Nat} {e : TypeId} {size : Nat} {v : Value} {n : Nat} {xs : List Value} (h : w.ownsRow base e size v n xs) : ∃ a c, v = .slice a n c := by
  rcases h.2 with ⟨rfl, rfl⟩ | ⟨g, cap, cur, rfl, _⟩
  · exact ⟨none, 0, rfl⟩
  · exact ⟨_, _, rfl⟩
theorem third (w : World) (a b c : Obj) : (((w.alloc a).alloc b).alloc c).heap[w.heap.size + 1 + 1]? = some c := by
  have h := heap_alloc_new ((w.alloc a).alloc b) c
  rwa [show ((w.alloc a).alloc b).heap.size = w.heap.size + 1 + 1 from by simp] at h
set_option maxRecDepth 100000 in
set_option maxHeartbeats 1000000 in
theorem copyDev_any (d : FDev) (v : Value) (w : World) (hl : (d.ops.length + 2) * 32 ≤ 140737488355328) (hv : IsSt w v d.ops) : Calls Tryz.prog 7 #[.agg #[.int .i64 d.sa, .int .i64 d.su, .int .i64 d.nx, .int .i64 d.gt, .int .i64 d.sl, v]] w fun e w' => (∃ u, e = .returned (.agg #[.int .i64 d.sa, .int .i64 d.su, .int .i64 d.nx, .int .i64 d.gt, .int .i64 d.sl, u]) ∧ w'.ownsRow w.heap.size 86 3 u d.ops.length (flat d.ops)) ∧ Below w.heap.size w w' := by
  obtain ⟨i, hi, hz0, hz1, hz2⟩ := info_parts info_op
  obtain ⟨a, ca, rfl, h0, ha⟩ := hv
  obtain ⟨sa, su, nx, gt, sl, l⟩ := d
  dsimp only at *
  cases a with
  | none =>
    obtain rfl := h0 rfl
    obtain rfl : l = [] := by
      rcases ha with ha | ⟨_, _, ha, _⟩
      · exact ha
      · cases ha
    clear ha h0
    go_enter Tryz.func7, Tryz.ntmps7
    go_wp2
    refine bodyPost_ret (v := .agg #[.int .i64 sa, .int .i64 su, .int .i64 nx, .int .i64 gt, .int .i64 sl, .slice (some ⟨w.heap.size + 1 + 1, 0, none⟩) 0 0]) (by simp [results, Tryz.results7, go_sem]) rfl ⟨⟨_, rfl, ?_⟩, (((Below.refl _ _).alloc (Nat.le_refl _) _).alloc (by simp) _).alloc (by simp; omega) _⟩
    refine ⟨rfl, .inr ⟨_, _, #[], rfl, by omega, ?_, Nat.le_refl _, Nat.zero_le _, rfl, rfl⟩⟩
    exact third _ _ _ _
  | some ad =>
    have hwl : ∀ l : List FOp, (flat l).length = l.length * 3 := length_flat
    have hnews : ∀ (w1 : World), Below w.heap.size w w1 → ∀ j u, (flat l)[j]? = some u → w1.cell? (ad.add j) = some u := by
      intro w1 hb j u hu
      have hj : j < l.length * 3 := by have := (List.getElem?_eq_some_iff.1 hu).1; rw [length_flat] at this; exact this
      rcases ha with ha | ⟨b, o, ha, _, _, hlt, hin⟩
      · rw [ha] at hj; simp at hj
      · obtain rfl := Option.some.inj ha
        have hq : j / 3 < l.length := by omega
        have hr : j = j / 3 * 3 + j % 3 := by omega
        have hf := flat_get l (j / 3) (j % 3) hq (by omega)
        rw [← hr, hu] at hf
        rw [Go.WideShapes.add_plain, hb.cell (p := ⟨b, o + j, none⟩) hlt, hf]
        rcases (by omega : j % 3 = 0 ∨ j % 3 = 1 ∨ j % 3 = 2) with h | h | h
        · rw [h, show o + j = o + j / 3 * 3 from by omega]; exact hin.er _ hq
        · rw [h, show o + j = o + j / 3 * 3 + 1 from by omega]; exact hin.pl _ hq
        · rw [h, show o + j = o + j / 3 * 3 + 2 from by omega]; exact hin.tx _ hq
    have hl1 : 0 + l.length ≤ maxLen := by unfold maxLen; omega
    have hRA := resB (resM w (.int .i64 sa) (.int .i64 su) (.int .i64 nx) (.int .i64 gt) (.int .i64 sl) (.slice (some ad) l.length ca) 24) ((Below.refl _ _).alloc (Nat.le_refl _) (.cells #[.int .i64 0, .int .i64 0, .int .i64 0, .int .i64 0, .int .i64 0, .slice none 0 0] 24))
    have hRZ := resM (w.alloc (.cells #[.int .i64 sa, .int .i64 su, .int .i64 nx, .int .i64 gt, .int .i64 sl, .slice (some ad) l.length ca] 24)) (.int .i64 0) (.int .i64 0) (.int .i64 0) (.int .i64 0) (.int .i64 0) (.slice none 0 0) 24
    have hB := ((Below.refl w.heap.size w).alloc (Nat.le_refl _) (.cells #[.int .i64 sa, .int .i64 su, .int .i64 nx, .int .i64 gt, .int .i64 sl, .slice (some ad) l.length ca] 24)).alloc (by simp) (.cells #[.int .i64 0, .int .i64 0, .int .i64 0, .int .i64 0, .int .i64 0, .slice none 0 0] 24)
    rw [show (w.alloc (.cells #[.int .i64 sa, .int .i64 su, .int .i64 nx, .int .i64 gt, .int .i64 sl, .slice (some ad) l.length ca] 24)).heap.size = w.heap.size + 1 from by simp] at hRZ
    have hs : ((w.alloc (.cells #[.int .i64 sa, .int .i64 su, .int .i64 nx, .int .i64 gt, .int .i64 sl, .slice (some ad) l.length ca] 24)).alloc (.cells #[.int .i64 0, .int .i64 0, .int .i64 0, .int .i64 0, .int .i64 0, .slice none 0 0] 24)).heap.size = w.heap.size + 1 + 1 := by simp
    generalize hW : ((w.alloc (.cells #[.int .i64 sa, .int .i64 su, .int .i64 nx, .int .i64 gt, .int .i64 sl, .slice (some ad) l.length ca] 24)).alloc (.cells #[.int .i64 0, .int .i64 0, .int .i64 0, .int .i64 0, .int .i64 0, .slice none 0 0] 24)) = W at *
    have hown : (W.alloc (.cells #[] 86)).ownsRow (w.heap.size + 1 + 1) 86 3 (.slice (some ⟨w.heap.size + 1 + 1, 0, none⟩) 0 0) 0 [] := ⟨rfl, .inr ⟨_, _, #[], rfl, Nat.le_refl _, by rw [← hs]; exact heap_alloc_new W _, Nat.le_refl _, Nat.zero_le _, rfl, rfl⟩⟩
    have HB := hide hB
    clear hB ha h0
    go_enter Tryz.func7, Tryz.ntmps7
    go_wp2_with (at_builtin; refine wpList_append_own_at _ rfl _ _ _ rfl (w.heap.size + 1 + 1) 86 i _ 3 32 Tryz.underlying22 hi hz0 hz1 hz2 rfl (by omega) _ 0 _ rfl hown ad l.length ca (flat l) rfl (by rw [length_flat]) (hnews _ (HB.out.alloc (by omega) _)) (flat_oneCell l) hl1 (by omega) (by simp; omega) ?_; intro v' w1 hown1 hgrow _ _; rw [Nat.zero_add, List.nil_append] at hown1; obtain ⟨a', c', rfl⟩ := owns_form hown1; have hb1 := ((Below.refl W.heap.size W).alloc (Nat.le_refl _) (.cells #[] 86)).grown hgrow (by simp) (fun k hk => by obtain rfl := Option.some.inj hk; rw [hs]; exact Nat.le_refl _); replace hRA := resB hRA hb1; replace hRZ := resB hRZ hb1)
    have hbw := HB.out.trans (hb1.mono (by omega))
    have hbs := set6 (x0 := .int .i64 sa) (x1 := .int .i64 su) (x2 := .int .i64 nx) (x3 := .int .i64 gt) (x4 := .int .i64 sl) (x5 := .slice a' l.length c') (hbw.setCell (p := ⟨w.heap.size, 5, none⟩) (Nat.le_refl _) (.slice a' l.length c')) (Nat.le_succ w.heap.size)
    refine bodyPost_ret (v := .agg #[.int .i64 sa, .int .i64 su, .int .i64 nx, .int .i64 gt, .int .i64 sl, .slice a' l.length c']) (by simp [results, Tryz.results7, go_sem, hRZ]) rfl ⟨⟨_, rfl, owns_mono (base := w.heap.size + 1 + 1) ?_ (by omega)⟩, hbs⟩
    exact ownsRow_setCell_below (ownsRow_setCell_below (ownsRow_setCell_below (ownsRow_setCell_below (ownsRow_setCell_below (ownsRow_setCell_below (ownsRow_setCell_below hown1 (Nat.lt_succ_of_lt (Nat.lt_succ_self _)) _) (Nat.lt_succ_self _) _) (Nat.lt_succ_self _) _) (Nat.lt_succ_self _) _) (Nat.lt_succ_self _) _) (Nat.lt_succ_self _) _) (Nat.lt_succ_self _) _
end Go.Proofs.YtmlfkbkpkgaefaaGreatDoor.DevHelp

/- A struct of six cells that is stored field by field: what it holds behind each store; a row that is owned beside it. No program is named here. -/
namespace Go.Proofs.YtmlfkbkpkgaefaaGreatDoor.DevSet
open Go.Proofs.YtmlfkbkpkgaefaaGreatDoor Go.RowKit Go.Proofs.YtmlfkbkpkgaefaaGreatDoor.Bytes Go.Proofs.YtmlfkbkpkgaefaaGreatDoor.Ops Go.Proofs.YtmlfkbkpkgaefaaGreatDoor.OpsRow Go.Proofs.YtmlfkbkpkgaefaaGreatDoor.DevRow
theorem ne_off {B i j : Nat} (h : i ≠ j) : (⟨B, i, none⟩ : Addr) ≠ ⟨B, j, none⟩ := fun e => by injection e; exact h (by omega)
theorem ne_blk {A B i j : Nat} (h : A ≠ B) : (⟨A, i, none⟩ : Addr) ≠ ⟨B, j, none⟩ := fun e => by injection e; exact h (by omega)
theorem size_set (w : World) (a : Addr) (v : Value) : (w.setCell a v).heap.size = w.heap.size := by simp [World.setCell]
section
variable {w : World} {B : Nat} {x0 x1 x2 x3 x4 x5 : Value}
theorem res0 (h : Res w B x0 x1 x2 x3 x4 x5) (y : Value) : Res (w.setCell ⟨B, 0, none⟩ y) B y x1 x2 x3 x4 x5 := by
  obtain ⟨h, h0, h1, h2, h3, h4, h5, h6⟩ := h
  have o : ∀ j, j ≠ 0 → (w.setCell ⟨B, 0, none⟩ y).cell? ⟨B, j, none⟩ = w.cell? ⟨B, j, none⟩ := fun j hj => World.cell?_setCell_other w _ _ _ (ne_off (Ne.symm hj))
  exact ⟨by rw [size_set]; exact h, World.cell?_setCell_same w _ _ h0, by rw [o 1 (by omega)]; exact h1, by rw [o 2 (by omega)]; exact h2, by rw [o 3 (by omega)]; exact h3, by rw [o 4 (by omega)]; exact h4, by rw [o 5 (by omega)]; exact h5, fun i => by rw [World.frozen?_setCell]; exact h6 i⟩
theorem res2 (h : Res w B x0 x1 x2 x3 x4 x5) (y : Value) : Res (w.setCell ⟨B, 2, none⟩ y) B x0 x1 y x3 x4 x5 := by
  obtain ⟨h, h0, h1, h2, h3, h4, h5, h6⟩ := h
  have o : ∀ j, j ≠ 2 → (w.setCell ⟨B, 2, none⟩ y).cell? ⟨B, j, none⟩ = w.cell? ⟨B, j, none⟩ := fun j hj => World.cell?_setCell_other w _ _ _ (ne_off (Ne.symm hj))
  exact ⟨by rw [size_set]; exact h, by rw [o 0 (by omega)]; exact h0, by rw [o 1 (by omega)]; exact h1, World.cell?_setCell_same w _ _ h2, by rw [o 3 (by omega)]; exact h3, by rw [o 4 (by omega)]; exact h4, by rw [o 5 (by omega)]; exact h5, fun i => by rw [World.frozen?_setCell]; exact h6 i⟩
theorem res3 (h : Res w B x0 x1 x2 x3 x4 x5) (y : Value) : Res (w.setCell ⟨B, 3, none⟩ y) B x0 x1 x2 y x4 x5 := by
  obtain ⟨h, h0, h1, h2, h3, h4, h5, h6⟩ := h
  have o : ∀ j, j ≠ 3 → (w.setCell ⟨B, 3, none⟩ y).cell? ⟨B, j, none⟩ = w.cell? ⟨B, j, none⟩ := fun j hj => World.cell?_setCell_other w _ _ _ (ne_off (Ne.symm hj))
  exact ⟨by rw [size_set]; exact h, by rw [o 0 (by omega)]; exact h0, by rw [o 1 (by omega)]; exact h1, by rw [o 2 (by omega)]; exact h2, World.cell?_setCell_same w _ _ h3, by rw [o 4 (by omega)]; exact h4, by rw [o 5 (by omega)]; exact h5, fun i => by rw [World.frozen?_setCell]; exact h6 i⟩
theorem res4 (h : Res w B x0 x1 x2 x3 x4 x5) (y : Value) : Res (w.setCell ⟨B, 4, none⟩ y) B x0 x1 x2 x3 y x5 := by
  obtain ⟨h, h0, h1, h2, h3, h4, h5, h6⟩ := h
  have o : ∀ j, j ≠ 4 → (w.setCell ⟨B, 4, none⟩ y).cell? ⟨B, j, none⟩ = w.cell? ⟨B, j, none⟩ := fun j hj => World.cell?_setCell_other w _ _ _ (ne_off (Ne.symm hj))
  exact ⟨by rw [size_set]; exact h, by rw [o 0 (by omega)]; exact h0, by rw [o 1 (by omega)]; exact h1, by rw [o 2 (by omega)]; exact h2, by rw [o 3 (by omega)]; exact h3, World.cell?_setCell_same w _ _ h4, by rw [o 5 (by omega)]; exact h5, fun i => by rw [World.frozen?_setCell]; exact h6 i⟩
theorem res5 (h : Res w B x0 x1 x2 x3 x4 x5) (y : Value) : Res (w.setCell ⟨B, 5, none⟩ y) B x0 x1 x2 x3 x4 y := by
  obtain ⟨h, h0, h1, h2, h3, h4, h5, h6⟩ := h
  have o : ∀ j, j ≠ 5 → (w.setCell ⟨B, 5, none⟩ y).cell? ⟨B, j, none⟩ = w.cell? ⟨B, j, none⟩ := fun j hj => World.cell?_setCell_other w _ _ _ (ne_off (Ne.symm hj))
  exact ⟨by rw [size_set]; exact h, by rw [o 0 (by omega)]; exact h0, by rw [o 1 (by omega)]; exact h1, by rw [o 2 (by omega)]; exact h2, by rw [o 3 (by omega)]; exact h3, by rw [o 4 (by omega)]; exact h4, World.cell?_setCell_same w _ _ h5, fun i => by rw [World.frozen?_setCell]; exact h6 i⟩
theorem res1 (h : Res w B x0 x1 x2 x3 x4 x5) (y : Value) : Res (w.setCell ⟨B, 1, none⟩ y) B x0 y x2 x3 x4 x5 := by
  obtain ⟨h, h0, h1, h2, h3, h4, h5, h6⟩ := h
  have o : ∀ j, j ≠ 1 → (w.setCell ⟨B, 1, none⟩ y).cell? ⟨B, j, none⟩ = w.cell? ⟨B, j, none⟩ := fun j hj => World.cell?_setCell_other w _ _ _ (ne_off (Ne.symm hj))
  exact ⟨by rw [size_set]; exact h, by rw [o 0 (by omega)]; exact h0, World.cell?_setCell_same w _ _ h1, by rw [o 2 (by omega)]; exact h2, by rw [o 3 (by omega)]; exact h3, by rw [o 4 (by omega)]; exact h4, by rw [o 5 (by omega)]; exact h5, fun i => by rw [World.frozen?_setCell]; exact h6 i⟩
/-- Of another block. -/
theorem resO (h : Res w B x0 x1 x2 x3 x4 x5) {A : Nat} (hA : A ≠ B) (i : Nat) (y : Value) : Res (w.setCell ⟨A, i, none⟩ y) B x0 x1 x2 x3 x4 x5 := by
  obtain ⟨h, h0, h1, h2, h3, h4, h5, h6⟩ := h
  have o : ∀ j, (w.setCell ⟨A, i, none⟩ y).cell? ⟨B, j, none⟩ = w.cell? ⟨B, j, none⟩ := fun j => World.cell?_setCell_other w _ _ _ (ne_blk hA)
  exact ⟨by rw [size_set]; exact h, by rw [o 0]; exact h0, by rw [o 1]; exact h1, by rw [o 2]; exact h2, by rw [o 3]; exact h3, by rw [o 4]; exact h4, by rw [o 5]; exact h5, fun i => by rw [World.frozen?_setCell]; exact h6 i⟩
/-- All six stored. -/
theorem res6 (h : Res w B x0 x1 x2 x3 x4 x5) (y0 y1 y2 y3 y4 y5 : Value) : Res ((((((w.setCell ⟨B, 0, none⟩ y0).setCell ⟨B, 1, none⟩ y1).setCell ⟨B, 2, none⟩ y2).setCell ⟨B, 3, none⟩ y3).setCell ⟨B, 4, none⟩ y4).setCell ⟨B, 5, none⟩ y5) B y0 y1 y2 y3 y4 y5 :=
  res5 (res4 (res3 (res2 (res1 (res0 h y0) y1) y2) y3) y4) y5
theorem resO6 (h : Res w B x0 x1 x2 x3 x4 x5) {A : Nat} (hA : A ≠ B) (y0 y1 y2 y3 y4 y5 : Value) : Res ((((((w.setCell ⟨A, 0, none⟩ y0).setCell ⟨A, 1, none⟩ y1).setCell ⟨A, 2, none⟩ y2).setCell ⟨A, 3, none⟩ y3).setCell ⟨A, 4, none⟩ y4).setCell ⟨A, 5, none⟩ y5) B x0 x1 x2 x3 x4 x5 :=
  resO (resO (resO (resO (resO (resO h hA 0 y0) hA 1 y1) hA 2 y2) hA 3 y3) hA 4 y4) hA 5 y5
end
/-- A row that is owned above what is stored. -/
theorem own1 {w : World} {base : Nat} {e : TypeId} {size : Nat} {v : Value} {n : Nat} {xs : List Value} (h : w.ownsRow base e size v n xs) {B : Nat} (hB : B < base) (i : Nat) (y : Value) : (w.setCell ⟨B, i, none⟩ y).ownsRow base e size v n xs := ownsRow_setCell_below h (a := ⟨B, i, none⟩) hB y
theorem own6 {w : World} {base : Nat} {e : TypeId} {size : Nat} {v : Value} {n : Nat} {xs : List Value} (h : w.ownsRow base e size v n xs) {B : Nat} (hB : B < base) (y0 y1 y2 y3 y4 y5 : Value) : ((((((w.setCell ⟨B, 0, none⟩ y0).setCell ⟨B, 1, none⟩ y1).setCell ⟨B, 2, none⟩ y2).setCell ⟨B, 3, none⟩ y3).setCell ⟨B, 4, none⟩ y4).setCell ⟨B, 5, none⟩ y5).ownsRow base e size v n xs :=
  own1 (own1 (own1 (own1 (own1 (own1 h hB 0 y0) hB 1 y1) hB 2 y2) hB 3 y3) hB 4 y4) hB 5 y5
/-- A row that is owned, told as the cells that lie there. -/
theorem news_of {w : World} {base : Nat} {e : TypeId} {size g cap n : Nat} {xs : List Value} (h : w.ownsRow base e size (.slice (some ⟨g, 0, none⟩) n cap) n xs) : ∀ j u, xs[j]? = some u → w.cell? ((⟨g, 0, none⟩ : Addr).add j) = some u := by
  intro j u hu
  have hj : j < xs.length := (List.getElem?_eq_some_iff.1 hu).1
  have hadd : (⟨g, 0, none⟩ : Addr).add j = ⟨g, j, none⟩ := by unfold Addr.add; split <;> simp_all
  rw [hadd, h.cellAt j (by have := h.1; omega)]
  exact hu
end Go.Proofs.YtmlfkbkpkgaefaaGreatDoor.DevSet

/- The contract of 'awake' of the laws over package device, which asks what is known of a few devices: it answers true. -/
namespace Go.Proofs.YtmlfkbkpkgaefaaGreatDoor.DevAwake
open Go.Proofs.YtmlfkbkpkgaefaaGreatDoor Go.RowKit Go.Proofs.YtmlfkbkpkgaefaaGreatDoor.Bytes Go.Proofs.YtmlfkbkpkgaefaaGreatDoor.Ops Go.Proofs.YtmlfkbkpkgaefaaGreatDoor.Dev Go.Proofs.YtmlfkbkpkgaefaaGreatDoor.DevRow Go.Proofs.YtmlfkbkpkgaefaaGreatDoor.DevWalk Go.Proofs.YtmlfkbkpkgaefaaGreatDoor.DevFail Go.Proofs.YtmlfkbkpkgaefaaGreatDoor.DevHelp

theorem build_x (x : Int) (w : World) : (Instr.build 24 #[(2, .int .i64 x)]).run Tryz.prog w = .ok (.agg #[.int .i64 0, .int .i64 0, .int .i64 x, .int .i64 0, .int .i64 0, .slice none 0 0]) w := run_build w 24 _ _ (by kernel_rfl)
theorem build_l (x : Int) (w : World) : (Instr.build 24 #[(4, .int .i64 x)]).run Tryz.prog w = .ok (.agg #[.int .i64 0, .int .i64 0, .int .i64 0, .int .i64 0, .int .i64 x, .slice none 0 0]) w := run_build w 24 _ _ (by kernel_rfl)
/-- Devices without steps: no memory is asked of. -/
theorem fail_bare {sa su nx gt sl s : Int} {o : Bool} (h : failB ⟨sa, su, nx, gt, sl, []⟩ s = o) (w : World) : Calls Tryz.prog 56 #[.agg #[.int .i64 sa, .int .i64 su, .int .i64 nx, .int .i64 gt, .int .i64 sl, .slice none 0 0], .int .i64 s] w fun r w' => r = .returned (.tuple #[.agg #[.int .i64 (faSa o), .int .i64 (faSu o s), .int .i64 0, .int .i64 0, .int .i64 0, .slice none 0 0], .int .i64 (errD o)]) ∧ Below w.heap.size w w' := by
  have g := fail_any ⟨sa, su, nx, gt, sl, []⟩ (.slice none 0 0) s w (isSt_nil w)
  rw [h] at g
  exact g
theorem may_bare {sa su nx gt sl : Int} {o : Bool} (h : devB ⟨sa, su, nx, gt, sl, []⟩ = o) (w : World) : Calls Tryz.prog 22 #[.agg #[.int .i64 sa, .int .i64 su, .int .i64 nx, .int .i64 gt, .int .i64 sl, .slice none 0 0]] w fun r w' => r = .returned (.bool o) ∧ Below w.heap.size w w' := by
  have g := dmay_any ⟨sa, su, nx, gt, sl, []⟩ (.slice none 0 0) w (isSt_nil w)
  rw [h] at g
  exact g
theorem same_bare (sa su nx gt sl : Int) (w : World) : Calls Tryz.prog 10 #[.agg #[.int .i64 sa, .int .i64 su, .int .i64 nx, .int .i64 gt, .int .i64 sl, .slice none 0 0], .agg #[.int .i64 sa, .int .i64 su, .int .i64 nx, .int .i64 gt, .int .i64 sl, .slice none 0 0]] w fun r w' => r = .returned (.bool true) ∧ Below w.heap.size w w' :=
  sameDev_yes ⟨sa, su, nx, gt, sl, []⟩ _ _ w (isSt_nil w) (isSt_nil w)
theorem hal (w : World) (o : Obj) : Below w.heap.size w (w.alloc o) := (Below.refl _ _).alloc (Nat.le_refl _) _
end Go.Proofs.YtmlfkbkpkgaefaaGreatDoor.DevAwake
