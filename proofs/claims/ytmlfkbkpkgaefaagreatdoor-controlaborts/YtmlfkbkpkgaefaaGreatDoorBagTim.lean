/- A tick: which may be asked, what becomes of the flash and of the device; the same cut short. No program is named here. -/
import Derived.Test.YtmlfkbkpkgaefaaGreatDoorBagDnl
import Derived.Test.YtmlfkbkpkgaefaaGreatDoorBagDev
import Derived.Test.YtmlfkbkpkgaefaaGreatDoorBagOps
namespace Go.Proofs.YtmlfkbkpkgaefaaGreatDoor.Tic
open Go.Proofs.YtmlfkbkpkgaefaaGreatDoor Go.Proofs.YtmlfkbkpkgaefaaGreatDoor.Nor Go.Proofs.YtmlfkbkpkgaefaaGreatDoor.Ops Go.Proofs.YtmlfkbkpkgaefaaGreatDoor.Jou Go.Proofs.YtmlfkbkpkgaefaaGreatDoor.Act Go.Proofs.YtmlfkbkpkgaefaaGreatDoor.Ans Go.Proofs.YtmlfkbkpkgaefaaGreatDoor.Dev Go.Proofs.YtmlfkbkpkgaefaaGreatDoor.Dnl

/-- Does a device in this state work on its steps? -/
def workB (s : Int) : Bool := decide (s = 2 ∨ s = 5)
def bothB (f : ByteArray) (d : FDev) : Bool := mayF f && devB d
def errK (ok : Bool) : Int := if ok then 0 else 1800
/-- The flash behind so many parts of the step that is due, if one is. -/
def stepF (f : ByteArray) (d : FDev) (k : Int) : ByteArray := if workB d.sa then (match d.ops with | [] => f | o :: _ => cutS f o.er o.pl o.tx k) else f
/-- The device without the step that is due; out of the state in which it worked, if no step is left. -/
def goneD (d : FDev) : FDev := if workB d.sa then ⟨d.sa, d.su, d.nx, d.gt, d.sl, d.ops.tail⟩ else d
def setD (d : FDev) : FDev := if workB d.sa && decide (d.ops.length = 0) then (if d.sa = 5 then newD else ⟨1, d.su, d.nx, d.gt, d.sl, d.ops⟩) else d
def tickF (f : ByteArray) (d : FDev) : ByteArray := if bothB f d then stepF f d 96 else ⟨#[]⟩
def tickD (f : ByteArray) (d : FDev) : FDev := if bothB f d then setD (goneD d) else newD
def cutB (f : ByteArray) (d : FDev) (k : Int) : Bool := bothB f d && upB k 96
def cutF (f : ByteArray) (d : FDev) (k : Int) : ByteArray := if cutB f d k then stepF f d k else ⟨#[]⟩
theorem work_iff {s : Int} : workB s = true ↔ s = 2 ∨ s = 5 := by unfold workB; exact decide_eq_true_iff
theorem work_no {s : Int} : workB s = false ↔ ¬ (s = 2 ∨ s = 5) := by unfold workB; exact decide_eq_false_iff_not
theorem both_parts {f : ByteArray} {d : FDev} : bothB f d = true ↔ mayF f = true ∧ devB d = true := by unfold bothB; rw [Bool.and_eq_true]
theorem cut_parts {f : ByteArray} {d : FDev} {k : Int} : cutB f d k = true ↔ mayF f = true ∧ devB d = true ∧ 0 ≤ k ∧ k ≤ 96 := by
  unfold cutB
  rw [Bool.and_eq_true, both_parts, upB_iff, and_assoc]
/-- Is a step due? -/
def dueB (d : FDev) : Bool := workB d.sa && !decide (d.ops.length = 0)
theorem due_no {d : FDev} (h : dueB d = false) : workB d.sa = false ∨ (workB d.sa = true ∧ d.ops = []) := by
  unfold dueB at h
  cases hw : workB d.sa with
  | false => exact .inl rfl
  | true =>
    rw [hw, Bool.true_and] at h
    refine .inr ⟨rfl, ?_⟩
    simpa using h
theorem due_yes {d : FDev} (h : dueB d = true) : workB d.sa = true ∧ ∃ o l, d.ops = o :: l := by
  unfold dueB at h
  rw [Bool.and_eq_true] at h
  refine ⟨h.1, ?_⟩
  cases ho : d.ops with
  | nil => rw [ho] at h; exact absurd h.2 (by simp)
  | cons o l => exact ⟨o, l, rfl⟩
theorem idle_step {f : ByteArray} {d : FDev} {k : Int} (h : dueB d = false) : stepF f d k = f := by
  unfold stepF
  rcases due_no h with h | ⟨h, h2⟩
  · rw [h]; rfl
  · rw [h, if_pos rfl, h2]
theorem idle_gone {d : FDev} (h : dueB d = false) : goneD d = d := by
  obtain ⟨sa, su, nx, gt, sl, l⟩ := d
  unfold goneD
  rcases due_no h with h | ⟨h, h2⟩
  · rw [h]; rfl
  · dsimp only at h h2 ⊢
    rw [if_pos h, h2]
    rfl
theorem due_step {f : ByteArray} {d : FDev} {k : Int} {o : FOp} {l : List FOp} (h : workB d.sa = true) (hl : d.ops = o :: l) : stepF f d k = cutS f o.er o.pl o.tx k := by unfold stepF; rw [if_pos h, hl]
theorem due_gone {d : FDev} {o : FOp} {l : List FOp} (h : workB d.sa = true) (hl : d.ops = o :: l) : goneD d = ⟨d.sa, d.su, d.nx, d.gt, d.sl, l⟩ := by unfold goneD; rw [if_pos h, hl]; rfl
theorem set_keeps {d : FDev} (h : workB d.sa = false ∨ 0 < d.ops.length) : setD d = d := by
  unfold setD
  rcases h with h | h
  · rw [h]; rfl
  · rw [decide_eq_false (by omega), Bool.and_false]; rfl
theorem set_mani {d : FDev} (h : d.sa = 5) (h2 : d.ops = []) : setD d = newD := by
  unfold setD
  rw [if_pos (by rw [h, h2]; rfl), if_pos h]
theorem set_busy {d : FDev} (h : d.sa = 2) (h2 : d.ops = []) : setD d = ⟨1, d.su, d.nx, d.gt, d.sl, d.ops⟩ := by
  unfold setD
  rw [if_pos (by rw [h, h2]; rfl), if_neg (by omega)]
/-- The three ways out of a tick. -/
theorem set_ways (d : FDev) : ((workB d.sa = false ∨ 0 < d.ops.length) ∧ setD d = d) ∨ (d.sa = 5 ∧ d.ops = [] ∧ setD d = newD) ∨ (d.sa = 2 ∧ d.ops = [] ∧ setD d = ⟨1, d.su, d.nx, d.gt, d.sl, d.ops⟩) := by
  cases hw : workB d.sa with
  | false => exact .inl ⟨.inl rfl, set_keeps (.inl hw)⟩
  | true =>
    cases ho : d.ops with
    | cons o l => exact .inl ⟨.inr (by simp), set_keeps (.inr (by rw [ho]; simp))⟩
    | nil =>
      rcases work_iff.1 hw with h | h
      · exact .inr (.inr ⟨h, rfl, by rw [set_busy h ho, ho]⟩)
      · exact .inr (.inl ⟨h, rfl, set_mani h ho⟩)
theorem few_gone (d : FDev) (h : d.ops.length ≤ 65536) : (setD (goneD d)).ops.length ≤ 65536 := by
  have hg : (goneD d).ops.length ≤ 65536 := by
    unfold goneD
    split
    · show d.ops.tail.length ≤ 65536; rw [List.length_tail]; omega
    · exact h
  rcases set_ways (goneD d) with ⟨_, h2⟩ | ⟨_, _, h2⟩ | ⟨_, _, h2⟩
  · rw [h2]; exact hg
  · rw [h2]; exact Nat.zero_le _
  · rw [h2]; exact hg
theorem tick_few (f : ByteArray) (d : FDev) : (tickD f d).ops.length ≤ 65536 := by
  unfold tickD
  split
  · rename_i h
    have := (dev_parts (both_parts.1 h).2).2.2.2
    exact few_gone d (by omega)
  · exact Nat.zero_le _
end Go.Proofs.YtmlfkbkpkgaefaaGreatDoor.Tic

/- A slice of steps in memory of a call's own that may be written: wherever in its block it begins; its tail. No program is named here. -/
namespace Go.Proofs.YtmlfkbkpkgaefaaGreatDoor.TicRow
open Go.Proofs.YtmlfkbkpkgaefaaGreatDoor Go.RowKit Go.Proofs.YtmlfkbkpkgaefaaGreatDoor.Bytes Go.Proofs.YtmlfkbkpkgaefaaGreatDoor.Ops Go.Proofs.YtmlfkbkpkgaefaaGreatDoor.OpsRow Go.Proofs.YtmlfkbkpkgaefaaGreatDoor.DevRow Go.Proofs.YtmlfkbkpkgaefaaGreatDoor.DevSet

/-- The value v is a slice of the steps l, in a block made since base, each cell of which may be written. -/
def OwnSt (w : World) (base : Nat) (v : Value) (l : List FOp) : Prop := ∃ a cap, v = .slice a l.length cap ∧ (a = none → cap = 0) ∧ (l = [] ∨ ∃ b o, a = some ⟨b, o, none⟩ ∧ l.length ≤ cap ∧ cap ≤ maxLen ∧ base ≤ b ∧ b < w.heap.size ∧ StIn w b o l ∧ ∀ i, w.frozen? ⟨b, i, none⟩ = false)
theorem OwnSt.is {w : World} {base : Nat} {v : Value} {l : List FOp} (h : OwnSt w base v l) : IsSt w v l := by
  obtain ⟨a, cap, rfl, h0, h⟩ := h
  refine ⟨a, cap, rfl, h0, ?_⟩
  rcases h with h | ⟨b, o, rfl, h1, h2, _, h3, h4, _⟩
  · exact .inl h
  · exact .inr ⟨b, o, rfl, h1, h2, h3, h4⟩
theorem OwnSt.below {w w' : World} {base : Nat} {v : Value} {l : List FOp} (h : OwnSt w base v l) (hb : Below w.heap.size w w') : OwnSt w' base v l := by
  obtain ⟨a, cap, rfl, h0, h⟩ := h
  refine ⟨a, cap, rfl, h0, ?_⟩
  rcases h with h | ⟨b, o, rfl, h1, h2, h3, h4, h5, h6⟩
  · exact .inl h
  · exact .inr ⟨b, o, rfl, h1, h2, h3, Nat.lt_of_lt_of_le h4 hb.size, h5.below hb h4, fun i => by rw [hb.frozen (p := ⟨b, i, none⟩) h4]; exact h6 i⟩
theorem OwnSt.mono {w : World} {base base' : Nat} {v : Value} {l : List FOp} (h : OwnSt w base v l) (hb : base' ≤ base) : OwnSt w base' v l := by
  obtain ⟨a, cap, rfl, h0, h⟩ := h
  refine ⟨a, cap, rfl, h0, ?_⟩
  rcases h with h | ⟨b, o, rfl, h1, h2, h3, rest⟩
  · exact .inl h
  · exact .inr ⟨b, o, rfl, h1, h2, Nat.le_trans hb h3, rest⟩
theorem own_none (w : World) (base : Nat) : OwnSt w base (.slice none 0 0) [] := ⟨none, 0, rfl, fun _ => rfl, .inl rfl⟩
theorem own_of {w : World} {base : Nat} {e : TypeId} {v : Value} {n : Nat} {l : List FOp} (h : w.ownsRow base e 3 v n (flat l)) : OwnSt w base v l := by
  have hn : n = l.length := by have := h.1; rw [length_flat] at this; omega
  subst hn
  rcases h.2 with ⟨rfl, h0⟩ | ⟨g, cap, cur, rfl, hg, _, h1, h2, _⟩
  · exact ⟨none, 0, by rw [h0], fun _ => rfl, .inl (List.length_eq_zero_iff.1 h0)⟩
  · obtain ⟨_, h3, h4⟩ := owns_in h
    exact ⟨_, cap, rfl, fun h => (by cases h), .inr ⟨g, 0, rfl, h1, h2, hg, h3, ⟨fun i hi => by rw [Nat.zero_add]; exact h4.er i hi, fun i hi => by rw [Nat.zero_add]; exact h4.pl i hi, fun i hi => by rw [Nat.zero_add]; exact h4.tx i hi⟩, h.frozenAt⟩⟩
theorem OwnSt.form {w : World} {base : Nat} {v : Value} {l : List FOp} (h : OwnSt w base v l) : ∃ a c, v = .slice a l.length c := by
  obtain ⟨a, cap, rfl, _⟩ := h
  exact ⟨a, cap, rfl⟩
/-- A store below the row. -/
theorem OwnSt.set {w : World} {base : Nat} {v : Value} {l : List FOp} (h : OwnSt w base v l) {B : Nat} (hB : B < base) (i : Nat) (y : Value) : OwnSt (w.setCell ⟨B, i, none⟩ y) base v l := by
  obtain ⟨a, cap, rfl, h0, h⟩ := h
  refine ⟨a, cap, rfl, h0, ?_⟩
  rcases h with h | ⟨b, o, rfl, h1, h2, h3, h4, h5, h6⟩
  · exact .inl h
  · have hne : ∀ j, (w.setCell ⟨B, i, none⟩ y).cell? ⟨b, j, none⟩ = w.cell? ⟨b, j, none⟩ := fun j => World.cell?_setCell_other w _ _ _ (ne_blk (by omega))
    exact .inr ⟨b, o, rfl, h1, h2, h3, by rw [size_set]; exact h4, ⟨fun i hi => by rw [hne]; exact h5.er i hi, fun i hi => by rw [hne]; exact h5.pl i hi, fun i hi => by rw [hne]; exact h5.tx i hi⟩, fun i => by rw [World.frozen?_setCell]; exact h6 i⟩
theorem OwnSt.set6 {w : World} {base : Nat} {v : Value} {l : List FOp} (h : OwnSt w base v l) {B : Nat} (hB : B < base) (y0 y1 y2 y3 y4 y5 : Value) : OwnSt ((((((w.setCell ⟨B, 0, none⟩ y0).setCell ⟨B, 1, none⟩ y1).setCell ⟨B, 2, none⟩ y2).setCell ⟨B, 3, none⟩ y3).setCell ⟨B, 4, none⟩ y4).setCell ⟨B, 5, none⟩ y5) base v l :=
  (((((h.set hB 0 y0).set hB 1 y1).set hB 2 y2).set hB 3 y3).set hB 4 y4).set hB 5 y5
theorem st_tail {w : World} {b o : Nat} {s : FOp} {l : List FOp} (h : StIn w b o (s :: l)) : StIn w b (o + 3) l := by
  have e : ∀ i, o + 3 + i * 3 = o + (i + 1) * 3 := fun i => by omega
  exact ⟨fun i hi => by rw [e]; exact h.er (i + 1) (by simpa using hi), fun i hi => by rw [e]; exact h.pl (i + 1) (by simpa using hi), fun i hi => by rw [e]; exact h.tx (i + 1) (by simpa using hi)⟩
/-- What is known of a row with a first step: where it lies, its first cells; the row behind it. -/
theorem OwnSt.first {w : World} {base : Nat} {v : Value} {s : FOp} {l : List FOp} (h : OwnSt w base v (s :: l)) : ∃ b o cap, v = .slice (some ⟨b, o, none⟩) (l.length + 1) cap ∧ l.length + 1 ≤ cap ∧ cap ≤ maxLen ∧ base ≤ b ∧ b < w.heap.size ∧ w.cell? ⟨b, o, none⟩ = some (.bool s.er) ∧ w.cell? ⟨b, o + 1, none⟩ = some (.int .i64 s.pl) ∧ w.cell? ⟨b, o + 2, none⟩ = some (.string s.tx) := by
  obtain ⟨a, cap, rfl, h0, h⟩ := h
  rcases h with h | ⟨b, o, rfl, h1, h2, h3, h4, h5, h6⟩
  · cases h
  · refine ⟨b, o, cap, rfl, by simpa using h1, h2, h3, h4, ?_, ?_, ?_⟩
    · have := h5.er 0 (by simp); simpa using this
    · have := h5.pl 0 (by simp); simpa using this
    · have := h5.tx 0 (by simp); simpa using this
theorem OwnSt.rest {w : World} {base n cap : Nat} {a : Option Addr} {s : FOp} {l : List FOp} (h : OwnSt w base (.slice a n cap) (s :: l)) : (cap = 1 → OwnSt w base (.slice a l.length 0) l) ∧ (¬ cap = 1 → OwnSt w base (.slice (Option.map (fun x => { block := x.block, off := x.off + 3 }) a) l.length (cap - 1)) l) := by
  obtain ⟨a0, cap0, he, h0, h⟩ := h
  injection he with e1 e2 e3
  subst e1 e3
  rcases h with h | ⟨b, o, rfl, g1, g2, g3, g4, g5, g6⟩
  · cases h
  refine ⟨fun hc => ?_, fun hc => ?_⟩
  · have hl : l = [] := by
      cases l with
      | nil => rfl
      | cons t l => simp at g1; omega
    subst hl
    exact ⟨_, 0, rfl, fun h => (by cases h), .inl rfl⟩
  · refine ⟨_, cap - 1, rfl, fun h => (by cases h), ?_⟩
    cases l with
    | nil => exact .inl rfl
    | cons t l => exact .inr ⟨b, o + 3, rfl, by simp at g1 ⊢; omega, by omega, g3, g4, st_tail g5, g6⟩
theorem news_in {w : World} {b o : Nat} {l : List FOp} (h : StIn w b o l) : ∀ j u, (flat l)[j]? = some u → w.cell? ((⟨b, o, none⟩ : Addr).add j) = some u := by
  intro j u hu
  have hj : j < l.length * 3 := by have := (List.getElem?_eq_some_iff.1 hu).1; rw [length_flat] at this; exact this
  have hq : j / 3 < l.length := by omega
  have hr : j = j / 3 * 3 + j % 3 := by omega
  have hf := flat_get l (j / 3) (j % 3) hq (by omega)
  rw [← hr, hu] at hf
  rw [Go.WideShapes.add_plain, hf]
  rcases (by omega : j % 3 = 0 ∨ j % 3 = 1 ∨ j % 3 = 2) with h' | h' | h'
  · rw [h', show o + j = o + j / 3 * 3 from by omega]; exact h.er _ hq
  · rw [h', show o + j = o + j / 3 * 3 + 1 from by omega]; exact h.pl _ hq
  · rw [h', show o + j = o + j / 3 * 3 + 2 from by omega]; exact h.tx _ hq
/-- The same, the row's block below n: what was made since is not in it. -/
def OwnIn (w : World) (base n : Nat) (v : Value) (l : List FOp) : Prop := ∃ a cap, v = .slice a l.length cap ∧ (a = none → cap = 0) ∧ (l = [] ∨ ∃ b o, a = some ⟨b, o, none⟩ ∧ l.length ≤ cap ∧ cap ≤ maxLen ∧ base ≤ b ∧ b < n ∧ b < w.heap.size ∧ StIn w b o l ∧ ∀ i, w.frozen? ⟨b, i, none⟩ = false)
theorem OwnSt.lt {w : World} {base : Nat} {v : Value} {l : List FOp} (h : OwnSt w base v l) : OwnIn w base w.heap.size v l := by
  obtain ⟨a, cap, rfl, h0, h⟩ := h
  refine ⟨a, cap, rfl, h0, ?_⟩
  rcases h with h | ⟨b, o, rfl, h1, h2, h3, h4, h5⟩
  · exact .inl h
  · exact .inr ⟨b, o, rfl, h1, h2, h3, h4, h4, h5⟩
theorem OwnIn.st {w : World} {base n : Nat} {v : Value} {l : List FOp} (h : OwnIn w base n v l) : OwnSt w base v l := by
  obtain ⟨a, cap, rfl, h0, h⟩ := h
  refine ⟨a, cap, rfl, h0, ?_⟩
  rcases h with h | ⟨b, o, rfl, h1, h2, h3, _, h4, h5⟩
  · exact .inl h
  · exact .inr ⟨b, o, rfl, h1, h2, h3, h4, h5⟩
theorem OwnIn.below {w w' : World} {base n : Nat} {v : Value} {l : List FOp} (h : OwnIn w base n v l) (hb : Below w.heap.size w w') : OwnIn w' base n v l := by
  obtain ⟨a, cap, rfl, h0, h⟩ := h
  refine ⟨a, cap, rfl, h0, ?_⟩
  rcases h with h | ⟨b, o, rfl, h1, h2, h3, h7, h4, h5, h6⟩
  · exact .inl h
  · exact .inr ⟨b, o, rfl, h1, h2, h3, h7, Nat.lt_of_lt_of_le h4 hb.size, h5.below hb h4, fun i => by rw [hb.frozen (p := ⟨b, i, none⟩) h4]; exact h6 i⟩
/-- Boxes from n on stay. -/
abbrev Boxes (n : Nat) (w w' : World) : Prop := ∀ B x0 x1 x2 x3 x4 x5, n ≤ B → Res w B x0 x1 x2 x3 x4 x5 → Res w' B x0 x1 x2 x3 x4 x5
theorem OwnSt.empty {w w' : World} {base base' : Nat} {v : Value} (h : OwnSt w base v []) : OwnSt w' base' v [] := by
  obtain ⟨a, cap, rfl, h0, _⟩ := h
  exact ⟨a, cap, rfl, h0, .inl rfl⟩
theorem OwnSt.drewS {w : World} {base : Nat} {v : Value} {l : List FOp} (h : OwnSt w base v l) : IsSt w.drew v l := h.is.heap rfl
/-- The same of a row that is only read. -/
theorem is_first {w : World} {v : Value} {s : FOp} {l : List FOp} (h : IsSt w v (s :: l)) : ∃ b o cap, v = .slice (some ⟨b, o, none⟩) (l.length + 1) cap ∧ l.length + 1 ≤ cap ∧ cap ≤ maxLen ∧ b < w.heap.size ∧ StIn w b o (s :: l) ∧ w.cell? ⟨b, o, none⟩ = some (.bool s.er) ∧ w.cell? ⟨b, o + 1, none⟩ = some (.int .i64 s.pl) ∧ w.cell? ⟨b, o + 2, none⟩ = some (.string s.tx) := by
  obtain ⟨a, cap, rfl, h0, h⟩ := h
  rcases h with h | ⟨b, o, rfl, h1, h2, h4, h5⟩
  · cases h
  · refine ⟨b, o, cap, rfl, by simpa using h1, h2, h4, h5, ?_, ?_, ?_⟩
    · have := h5.er 0 (by simp); simpa using this
    · have := h5.pl 0 (by simp); simpa using this
    · have := h5.tx 0 (by simp); simpa using this
end Go.Proofs.YtmlfkbkpkgaefaaGreatDoor.TicRow

/- A device's steps spoilt by whoever holds it, wherever in their block they begin. -/
namespace Go.Proofs.YtmlfkbkpkgaefaaGreatDoor.TicSpoil
open Go.Proofs.YtmlfkbkpkgaefaaGreatDoor Go.RowKit Go.Proofs.YtmlfkbkpkgaefaaGreatDoor.Bytes Go.Proofs.YtmlfkbkpkgaefaaGreatDoor.Ops Go.Proofs.YtmlfkbkpkgaefaaGreatDoor.OpsRow Go.Proofs.YtmlfkbkpkgaefaaGreatDoor.Dev Go.Proofs.YtmlfkbkpkgaefaaGreatDoor.DevRow Go.Proofs.YtmlfkbkpkgaefaaGreatDoor.DevSet Go.Proofs.YtmlfkbkpkgaefaaGreatDoor.TicRow
attribute [local go_sem ↓] Go.wp_at_zero Go.wp_at_succ
theorem hal (w : World) (o : Obj) : Below w.heap.size w (w.alloc o) := (Below.refl _ _).alloc (Nat.le_refl _) _
set_option maxRecDepth 100000 in
set_option maxHeartbeats 1000000 in
theorem spoilSt_any (v : Value) (l : List FOp) (w : World) (base n : Nat) (hl : l.length ≤ 65536) (hv : OwnIn w base n v l) : Calls Tryz.prog 36 #[v] w fun e w' => e = .returned (.tuple #[]) ∧ Below base w w' ∧ Boxes n w w' := by
  obtain ⟨a, cap, rfl, h0, hv⟩ := hv
  rcases hv with rfl | ⟨g, o, rfl, h1, h2, hg, hgn, hlt0, hin, hfz⟩
  · have hz : ([] : List FOp).length = 0 := rfl
    rw [hz]
    clear hz hl
    go_enter Tryz.func36, Tryz.ntmps36
    go_wp2
    go_loopw [2] (fun i wr => i = .int .i64 0 ∧ wr = w) (fun _ _ => 0)
    case atStart => exact ⟨rfl, rfl⟩
    case round =>
      obtain ⟨rfl, rfl⟩ := hrel
      go_wp2
      go_end0
      exact ⟨rfl, Below.refl _ _, fun _ _ _ _ _ _ _ _ h => h⟩
  · go_enter Tryz.func36, Tryz.ntmps36
    go_wp2
    go_loopw [2] (fun i wr => ∃ j : Nat, j ≤ l.length ∧ i = .int .i64 j ∧ Below base w wr ∧ Boxes n w wr ∧ (∀ k, k < l.length → ∃ x, wr.cell? ⟨g, o + k * 3 + 1, none⟩ = some (.int .i64 x)) ∧ (∀ k, wr.frozen? ⟨g, k, none⟩ = false)) (fun i _ => l.length - (intOf i).toNat)
    case atStart => exact ⟨0, Nat.zero_le _, rfl, Below.refl _ _, fun _ _ _ _ _ _ _ _ h => h, fun k hk => ⟨_, hin.pl k hk⟩, hfz⟩
    case round =>
      obtain ⟨j, hj, rfl, hbel, hbox, hcell, hfr⟩ := hrel
      clear hfz hin
      have HX : Hid (Boxes n w wr) := hbox
      clear hbox
      by_cases hlt : j < l.length
      · obtain ⟨x, hx⟩ := hcell j hlt
        have hfj := hfr (o + j * 3 + 1)
        have HC : Hid (∀ k, k < l.length → ∃ x, wr.cell? ⟨g, o + k * 3 + 1, none⟩ = some (.int .i64 x)) := hcell
        have HF : Hid (∀ k, wr.frozen? ⟨g, k, none⟩ = false) := hfr
        clear hcell hfr
        go_wp2
        refine ⟨⟨j + 1, by omega, by go_num, hbel.setCell hg _, fun B x0 x1 x2 x3 x4 x5 hB h => resO (HX.out B x0 x1 x2 x3 x4 x5 hB h) (by omega) _ _, fun k hk => ?_, fun k => by rw [World.frozen?_setCell]; exact HF.out k⟩, by simp [intOf]; omega⟩
        by_cases e : k = j
        · subst e
          exact ⟨_, World.cell?_setCell_same wr _ _ hx⟩
        · obtain ⟨y, hy⟩ := HC.out k hk
          exact ⟨y, by rw [World.cell?_setCell_other wr _ _ _ (by intro hc; injection hc; omega)]; exact hy⟩
      · go_wp2
        go_end0
        exact ⟨rfl, hbel, HX.out⟩
set_option maxRecDepth 100000 in
set_option maxHeartbeats 1000000 in
theorem spoilDev_any (d : FDev) (v : Value) (w : World) (base n : Nat) (hl : d.ops.length ≤ 65536) (hbase : base ≤ w.heap.size) (hv : OwnIn w base n v d.ops) : Calls Tryz.prog 12 #[.agg #[.int .i64 d.sa, .int .i64 d.su, .int .i64 d.nx, .int .i64 d.gt, .int .i64 d.sl, v]] w fun e w' => e = .returned (.tuple #[]) ∧ Below base w w' ∧ Boxes n w w' := by
  have hB := (Below.refl base w).alloc hbase (.cells #[.int .i64 d.sa, .int .i64 d.su, .int .i64 d.nx, .int .i64 d.gt, .int .i64 d.sl, v] 24)
  have hv2 := hv.below (hal w (.cells #[.int .i64 d.sa, .int .i64 d.su, .int .i64 d.nx, .int .i64 d.gt, .int .i64 d.sl, v] 24))
  have HS := hide (spoilSt_any v d.ops _ base n hl hv2)
  obtain ⟨a, c, rfl⟩ := hv.st.form
  obtain ⟨sa, su, nx, gt, sl, l⟩ := d
  dsimp only at *
  go_enter Tryz.func12, Tryz.ntmps12
  go_wp2_with fail
  refine HS.out.mono ?_
  rintro e w2 ⟨rfl, hb, hX⟩
  go_wp2_with fail
  go_end0
  exact ⟨rfl, hB.trans hb, fun B x0 x1 x2 x3 x4 x5 h h2 => hX B x0 x1 x2 x3 x4 x5 h (resB h2 (hal _ _))⟩
end Go.Proofs.YtmlfkbkpkgaefaaGreatDoor.TicSpoil
