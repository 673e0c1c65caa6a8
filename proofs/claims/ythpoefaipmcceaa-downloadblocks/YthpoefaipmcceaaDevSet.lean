/- A struct of six cells that is stored field by field: what it holds behind each store; a row that is owned beside it. No program is named here. -/
import Derived.Test.YthpoefaipmcceaaDevRow
import Derived.OneCell
namespace Go.Proofs.Ythpoefaipmcceaa.DevSet
open Go.Proofs.Ythpoefaipmcceaa Go.RowKit Go.Proofs.Ythpoefaipmcceaa.Bytes Go.Proofs.Ythpoefaipmcceaa.Ops Go.Proofs.Ythpoefaipmcceaa.OpsRow Go.Proofs.Ythpoefaipmcceaa.DevRow
theorem ne_off {B i j : Nat} (h : i ≠ j) : (⟨B, i, none⟩ : Addr) ≠ ⟨B, j, none⟩ := fun e => by injection e; exact h (by omega)
theorem ne_blk {A B i j : Nat} (h : A ≠ B) : (⟨A, i, none⟩ : Addr) ≠ ⟨B, j, none⟩ := fun e => by injection e; exact h (by omega)
theorem size_set (w : World) (a : Addr) (v : Value) : (w.setCell a v).heap.size = w.heap.size := by simp [World.setCell]
section
variable {w : World} {B : Nat} {x0 x1 x2 x3 x4 x5 : Value}
theorem res0 (h : Res w B x0 x1 x2 x3 x4 x5) (y : Value) : Res (w.setCell ⟨B, 0, none⟩ y) B y x1 x2 x3 x4 x5 := by
  obtain ⟨h, h0, h1, h2, h3, h4, h5, h6⟩ := h
  have o : ∀ j, j ≠ 0 → (w.setCell ⟨B, 0, none⟩ y).cell? ⟨B, j, none⟩ = w.cell? ⟨B, j, none⟩ := fun j hj => World.cell?_setCell_other w _ _ _ (ne_off (Ne.symm hj))
  exact ⟨by rw [size_set]; exact h, World.cell?_setCell_same w _ _ h0, by rw [o 1 (by omega)]; exact h1, by rw [o 2 (by omega)]; exact h2, by rw [o 3 (by omega)]; exact h3, by rw [o 4 (by omega)]; exact h4, by rw [o 5 (by omega)]; exact h5, fun i => by rw [World.frozen?_setCell]; exact h6 i⟩
theorem res2 (h : Res w B x0 x1 x2 x3 x4 x5) (y : Value) : Res (w.setCell ⟨B, 2, none⟩ y) B x0 x1 y x3 x4 x5 := by
  obtain ⟨h, h0, h1, h2, h3, h4, h5, h6⟩ := h
  have o : ∀ j, j ≠ 2 → (w.setCell ⟨B, 2, none⟩ y).cell? ⟨B, j, none⟩ = w.cell? ⟨B, j, none⟩ := fun j hj => World.cell?_setCell_other w _ _ _ (ne_off (Ne.symm hj))
  exact ⟨by rw [size_set]; exact h, by rw [o 0 (by omega)]; exact h0, by rw [o 1 (by omega)]; exact h1, World.cell?_setCell_same w _ _ h2, by rw [o 3 (by omega)]; exact h3, by rw [o 4 (by omega)]; exact h4, by rw [o 5 (by omega)]; exact h5, fun i => by rw [World.frozen?_setCell]; exact h6 i⟩
theorem res3 (h : Res w B x0 x1 x2 x3 x4 x5) (y : Value) : Res (w.setCell ⟨B, 3, none⟩ y) B x0 x1 x2 y x4 x5 := by
  obtain ⟨h, h0, h1, h2, h3, h4, h5, h6⟩ := h
  have o : ∀ j, j ≠ 3 → (w.setCell ⟨B, 3, none⟩ y).cell? ⟨B, j, none⟩ = w.cell? ⟨B, j, none⟩ := fun j hj => World.cell?_setCell_other w _ _ _ (ne_off (Ne.symm hj))
  exact ⟨by rw [size_set]; exact h, by rw [o 0 (by omega)]; exact h0, by rw [o 1 (by omega)]; exact h1, by rw [o 2 (by omega)]; exact h2, World.cell?_setCell_same w _ _ h3, by rw [o 4 (by omega)]; exact h4, by rw [o 5 (by omega)]; exact h5, fun i => by rw [World.frozen?_setCell]; exact h6 i⟩
theorem res4 (h : Res w B x0 x1 x2 x3 x4 x5) (y : Value) : Res (w.setCell ⟨B, 4, none⟩ y) B x0 x1 x2 x3 y x5 := by
  obtain ⟨h, h0, h1, h2, h3, h4, h5, h6⟩ := h
  have o : ∀ j, j ≠ 4 → (w.setCell ⟨B, 4, none⟩ y).cell? ⟨B, j, none⟩ = w.cell? ⟨B, j, none⟩ := fun j hj => World.cell?_setCell_other w _ _ _ (ne_off (Ne.symm hj))
  exact ⟨by rw [size_set]; exact h, by rw [o 0 (by omega)]; exact h0, by rw [o 1 (by omega)]; exact h1, by rw [o 2 (by omega)]; exact h2, by rw [o 3 (by omega)]; exact h3, World.cell?_setCell_same w _ _ h4, by rw [o 5 (by omega)]; exact h5, fun i => by rw [World.frozen?_setCell]; exact h6 i⟩
theorem res5 (h : Res w B x0 x1 x2 x3 x4 x5) (y : Value) : Res (w.setCell ⟨B, 5, none⟩ y) B x0 x1 x2 x3 x4 y := by
  obtain ⟨h, h0, h1, h2, h3, h4, h5, h6⟩ := h
  have o : ∀ j, j ≠ 5 → (w.setCell ⟨B, 5, none⟩ y).cell? ⟨B, j, none⟩ = w.cell? ⟨B, j, none⟩ := fun j hj => World.cell?_setCell_other w _ _ _ (ne_off (Ne.symm hj))
  exact ⟨by rw [size_set]; exact h, by rw [o 0 (by omega)]; exact h0, by rw [o 1 (by omega)]; exact h1, by rw [o 2 (by omega)]; exact h2, by rw [o 3 (by omega)]; exact h3, by rw [o 4 (by omega)]; exact h4, World.cell?_setCell_same w _ _ h5, fun i => by rw [World.frozen?_setCell]; exact h6 i⟩
theorem res1 (h : Res w B x0 x1 x2 x3 x4 x5) (y : Value) : Res (w.setCell ⟨B, 1, none⟩ y) B x0 y x2 x3 x4 x5 := by
  obtain ⟨h, h0, h1, h2, h3, h4, h5, h6⟩ := h
  have o : ∀ j, j ≠ 1 → (w.setCell ⟨B, 1, none⟩ y).cell? ⟨B, j, none⟩ = w.cell? ⟨B, j, none⟩ := fun j hj => World.cell?_setCell_other w _ _ _ (ne_off (Ne.symm hj))
  exact ⟨by rw [size_set]; exact h, by rw [o 0 (by omega)]; exact h0, World.cell?_setCell_same w _ _ h1, by rw [o 2 (by omega)]; exact h2, by rw [o 3 (by omega)]; exact h3, by rw [o 4 (by omega)]; exact h4, by rw [o 5 (by omega)]; exact h5, fun i => by rw [World.frozen?_setCell]; exact h6 i⟩
/-- Of another block. -/
theorem resO (h : Res w B x0 x1 x2 x3 x4 x5) {A : Nat} (hA : A ≠ B) (i : Nat) (y : Value) : Res (w.setCell ⟨A, i, none⟩ y) B x0 x1 x2 x3 x4 x5 := by
  obtain ⟨h, h0, h1, h2, h3, h4, h5, h6⟩ := h
  have o : ∀ j, (w.setCell ⟨A, i, none⟩ y).cell? ⟨B, j, none⟩ = w.cell? ⟨B, j, none⟩ := fun j => World.cell?_setCell_other w _ _ _ (ne_blk hA)
  exact ⟨by rw [size_set]; exact h, by rw [o 0]; exact h0, by rw [o 1]; exact h1, by rw [o 2]; exact h2, by rw [o 3]; exact h3, by rw [o 4]; exact h4, by rw [o 5]; exact h5, fun i => by rw [World.frozen?_setCell]; exact h6 i⟩
/-- All six stored. -/
theorem res6 (h : Res w B x0 x1 x2 x3 x4 x5) (y0 y1 y2 y3 y4 y5 : Value) : Res ((((((w.setCell ⟨B, 0, none⟩ y0).setCell ⟨B, 1, none⟩ y1).setCell ⟨B, 2, none⟩ y2).setCell ⟨B, 3, none⟩ y3).setCell ⟨B, 4, none⟩ y4).setCell ⟨B, 5, none⟩ y5) B y0 y1 y2 y3 y4 y5 :=
  res5 (res4 (res3 (res2 (res1 (res0 h y0) y1) y2) y3) y4) y5
theorem resO6 (h : Res w B x0 x1 x2 x3 x4 x5) {A : Nat} (hA : A ≠ B) (y0 y1 y2 y3 y4 y5 : Value) : Res ((((((w.setCell ⟨A, 0, none⟩ y0).setCell ⟨A, 1, none⟩ y1).setCell ⟨A, 2, none⟩ y2).setCell ⟨A, 3, none⟩ y3).setCell ⟨A, 4, none⟩ y4).setCell ⟨A, 5, none⟩ y5) B x0 x1 x2 x3 x4 x5 :=
  resO (resO (resO (resO (resO (resO h hA 0 y0) hA 1 y1) hA 2 y2) hA 3 y3) hA 4 y4) hA 5 y5
end
/-- A row that is owned above what is stored. -/
theorem own1 {w : World} {base : Nat} {e : TypeId} {size : Nat} {v : Value} {n : Nat} {xs : List Value} (h : w.ownsRow base e size v n xs) {B : Nat} (hB : B < base) (i : Nat) (y : Value) : (w.setCell ⟨B, i, none⟩ y).ownsRow base e size v n xs := ownsRow_setCell_below h (a := ⟨B, i, none⟩) hB y
theorem own6 {w : World} {base : Nat} {e : TypeId} {size : Nat} {v : Value} {n : Nat} {xs : List Value} (h : w.ownsRow base e size v n xs) {B : Nat} (hB : B < base) (y0 y1 y2 y3 y4 y5 : Value) : ((((((w.setCell ⟨B, 0, none⟩ y0).setCell ⟨B, 1, none⟩ y1).setCell ⟨B, 2, none⟩ y2).setCell ⟨B, 3, none⟩ y3).setCell ⟨B, 4, none⟩ y4).setCell ⟨B, 5, none⟩ y5).ownsRow base e size v n xs :=
  own1 (own1 (own1 (own1 (own1 (own1 h hB 0 y0) hB 1 y1) hB 2 y2) hB 3 y3) hB 4 y4) hB 5 y5
/-- A row that is owned, told as the cells that lie there. -/
theorem news_of {w : World} {base : Nat} {e : TypeId} {size g cap n : Nat} {xs : List Value} (h : w.ownsRow base e size (.slice (some ⟨g, 0, none⟩) n cap) n xs) : ∀ j u, xs[j]? = some u → w.cell? ((⟨g, 0, none⟩ : Addr).add j) = some u := by
  intro j u hu
  have hj : j < xs.length := (List.getElem?_eq_some_iff.1 hu).1
  have hadd : (⟨g, 0, none⟩ : Addr).add j = ⟨g, j, none⟩ := by unfold Addr.add; split <;> simp_all
  rw [hadd, h.cellAt j (by have := h.1; omega)]
  exact hu
end Go.Proofs.Ythpoefaipmcceaa.DevSet
