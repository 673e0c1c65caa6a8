/- Numbers in memory: a row of them that came in, one cell each. No program is named here. -/
import Derived.Test.YtgkmallikomnaaaBagOps
import Derived.ChangeSlices
import Derived.WideShapes
namespace Go.Proofs.Ytgkmallikomnaaa.IntRow
open Go.Proofs.Ytgkmallikomnaaa Go.RowKit Go.ChangeShapes Go.Proofs.Ytgkmallikomnaaa.Bytes
/-- The value v is a slice of the numbers l. -/
def IsInts (w : World) (v : Value) (l : List Int) : Prop := ∃ a cap, v = .slice a l.length cap ∧ l.length ≤ maxLen ∧ (l = [] ∨ ∃ b o, a = some ⟨b, o, none⟩ ∧ l.length ≤ cap ∧ cap ≤ maxLen ∧ b < w.heap.size ∧ ∀ i (h : i < l.length), w.cell? ⟨b, o + i, none⟩ = some (.int .i64 l[i]))
theorem IsInts.below {w w' : World} {v : Value} {l : List Int} (h : IsInts w v l) (hb : Below w.heap.size w w') : IsInts w' v l := by
  obtain ⟨a, cap, rfl, h0, h⟩ := h
  refine ⟨a, cap, rfl, h0, ?_⟩
  rcases h with h | ⟨b, o, rfl, h1, h2, h3, h4⟩
  · exact .inl h
  · exact .inr ⟨b, o, rfl, h1, h2, Nat.lt_of_lt_of_le h3 hb.size, fun i hi => by rw [hb.cell (p := ⟨b, o + i, none⟩) h3]; exact h4 i hi⟩
/-- A slice of numbers that came in. -/
theorem open_row {H : Type} {enc : TypeId × Value → H} {P : Program} {W : World} {held : Bool} {base b0 : Nat} {r : Reach} {t e : TypeId} {v : Value} {d : DataW H} {p : List MemPlace} (ht : P.underlying t = some (.slice e)) (he : P.underlying e = some (.int .i64)) (hc : P.cellsOf e = 1)
    (hv : Value.okWide P W r b0 t v) (h : DataW.Trod enc P W base (fun _ => true) held t v d p) (hlt : ∀ x ∈ p, x.block < W.heap.size) : ∃ l, IsInts W v l := by
  obtain ⟨a0, len, cap, rfl⟩ := Go.WideShapes.okWide_slice ht hv
  obtain ⟨fuel, hf⟩ := h
  rcases open_ints ht he hc hf with ⟨hcs, _⟩ | ⟨a, len', cap', zs, hcs, _, hl, hm, hz, hx, hcell, _⟩
  · simp [Value.cells] at hcs
    obtain ⟨rfl, rfl, rfl⟩ := hcs
    exact ⟨[], none, 0, rfl, Nat.zero_le _, .inl rfl⟩
  · simp [Value.cells] at hcs
    obtain ⟨rfl, rfl, rfl⟩ := hcs
    simp only [Prod.mk.injEq] at hx
    obtain ⟨rfl, rfl⟩ := hx
    have hz2 : zs.length = cap := by simpa using hz
    have hlen : (zs.take len).length = len := by rw [List.length_take]; omega
    refine ⟨zs.take len, some a, cap, by rw [hlen], by omega, ?_⟩
    by_cases hl0 : len = 0
    · left; rw [hl0]; rfl
    · right
      obtain ⟨b, off, spot⟩ := a
      have hspot : spot = none := by simpa [Addr.add] using World.cell?_spot (hcell 0 (by omega))
      subst hspot
      have hbW : b < W.heap.size := hlt (.cell b off) (MemPlace.mem_row.2 ⟨0, by omega, by simp⟩)
      refine ⟨b, off, rfl, by omega, hm, hbW, fun i hi => ?_⟩
      rw [← Go.WideShapes.add_plain, hcell i (by omega), List.getElem_take, List.getD_eq_getElem?_getD, List.getElem?_eq_getElem (by omega)]
      rfl
/-- One cell of a block that stood: it holds this. -/
abbrev At (w : World) (b i : Nat) (x : Value) : Prop := b < w.heap.size ∧ w.cell? ⟨b, i, none⟩ = some x
theorem atB {w w' : World} {b i : Nat} {x : Value} (h : At w b i x) (hb : Below w.heap.size w w') : At w' b i x := ⟨Nat.lt_of_lt_of_le h.1 hb.size, by rw [hb.cell (p := ⟨b, i, none⟩) h.1]; exact h.2⟩
theorem atO {w : World} {b i : Nat} {x : Value} (h : At w b i x) {A : Nat} (hA : A ≠ b) (j : Nat) (y : Value) : At (w.setCell ⟨A, j, none⟩ y) b i x := ⟨by simp only [World.setCell]; simpa using h.1, by rw [World.cell?_setCell_other w _ _ _ (fun e => by injection e; exact hA (by assumption))]; exact h.2⟩
theorem atO7 {w : World} {b i : Nat} {x : Value} (h : At w b i x) {A : Nat} (hA : A ≠ b) (y0 y1 y2 y3 y4 y5 y6 : Value) : At (((((((w.setCell ⟨A, 0, none⟩ y0).setCell ⟨A, 1, none⟩ y1).setCell ⟨A, 2, none⟩ y2).setCell ⟨A, 3, none⟩ y3).setCell ⟨A, 4, none⟩ y4).setCell ⟨A, 5, none⟩ y5).setCell ⟨A, 6, none⟩ y6) b i x := atO (atO (atO (atO (atO (atO (atO h hA 0 y0) hA 1 y1) hA 2 y2) hA 3 y3) hA 4 y4) hA 5 y5) hA 6 y6
end Go.Proofs.Ytgkmallikomnaaa.IntRow
