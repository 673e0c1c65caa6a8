/- A struct of seven cells that is stored field by field: what it holds behind each store. No program is named here. -/
import Derived.Test.YthegdhogpjhidaaHstWalk
namespace Go.Proofs.Ythegdhogpjhidaa.HstSet
open Go.Proofs.Ythegdhogpjhidaa Go.RowKit Go.Proofs.Ythegdhogpjhidaa.Bytes Go.Proofs.Ythegdhogpjhidaa.HstWalk
theorem ne_off {B i j : Nat} (h : i ≠ j) : (⟨B, i, none⟩ : Addr) ≠ ⟨B, j, none⟩ := fun e => by injection e; exact h (by omega)
theorem ne_blk {A B i j : Nat} (h : A ≠ B) : (⟨A, i, none⟩ : Addr) ≠ ⟨B, j, none⟩ := fun e => by injection e; exact h (by omega)
theorem size_set (w : World) (a : Addr) (v : Value) : (w.setCell a v).heap.size = w.heap.size := by simp [World.setCell]
section
variable {w : World} {B : Nat} {x0 x1 x2 x3 x4 x5 x6 : Value}
theorem set0 (h : SevR w B x0 x1 x2 x3 x4 x5 x6) (y : Value) : SevR (w.setCell ⟨B, 0, none⟩ y) B y x1 x2 x3 x4 x5 x6 := by
  obtain ⟨h, h0, h1, h2, h3, h4, h5, h6, h7⟩ := h
  have o : ∀ j, j ≠ 0 → (w.setCell ⟨B, 0, none⟩ y).cell? ⟨B, j, none⟩ = w.cell? ⟨B, j, none⟩ := fun j hj => World.cell?_setCell_other w _ _ _ (ne_off (Ne.symm hj))
  exact ⟨by rw [size_set]; exact h, World.cell?_setCell_same w _ _ h0, by rw [o 1 (by omega)]; exact h1, by rw [o 2 (by omega)]; exact h2, by rw [o 3 (by omega)]; exact h3, by rw [o 4 (by omega)]; exact h4, by rw [o 5 (by omega)]; exact h5, by rw [o 6 (by omega)]; exact h6, fun i => by rw [World.frozen?_setCell]; exact h7 i⟩
theorem set1 (h : SevR w B x0 x1 x2 x3 x4 x5 x6) (y : Value) : SevR (w.setCell ⟨B, 1, none⟩ y) B x0 y x2 x3 x4 x5 x6 := by
  obtain ⟨h, h0, h1, h2, h3, h4, h5, h6, h7⟩ := h
  have o : ∀ j, j ≠ 1 → (w.setCell ⟨B, 1, none⟩ y).cell? ⟨B, j, none⟩ = w.cell? ⟨B, j, none⟩ := fun j hj => World.cell?_setCell_other w _ _ _ (ne_off (Ne.symm hj))
  exact ⟨by rw [size_set]; exact h, by rw [o 0 (by omega)]; exact h0, World.cell?_setCell_same w _ _ h1, by rw [o 2 (by omega)]; exact h2, by rw [o 3 (by omega)]; exact h3, by rw [o 4 (by omega)]; exact h4, by rw [o 5 (by omega)]; exact h5, by rw [o 6 (by omega)]; exact h6, fun i => by rw [World.frozen?_setCell]; exact h7 i⟩
theorem set2 (h : SevR w B x0 x1 x2 x3 x4 x5 x6) (y : Value) : SevR (w.setCell ⟨B, 2, none⟩ y) B x0 x1 y x3 x4 x5 x6 := by
  obtain ⟨h, h0, h1, h2, h3, h4, h5, h6, h7⟩ := h
  have o : ∀ j, j ≠ 2 → (w.setCell ⟨B, 2, none⟩ y).cell? ⟨B, j, none⟩ = w.cell? ⟨B, j, none⟩ := fun j hj => World.cell?_setCell_other w _ _ _ (ne_off (Ne.symm hj))
  exact ⟨by rw [size_set]; exact h, by rw [o 0 (by omega)]; exact h0, by rw [o 1 (by omega)]; exact h1, World.cell?_setCell_same w _ _ h2, by rw [o 3 (by omega)]; exact h3, by rw [o 4 (by omega)]; exact h4, by rw [o 5 (by omega)]; exact h5, by rw [o 6 (by omega)]; exact h6, fun i => by rw [World.frozen?_setCell]; exact h7 i⟩
theorem set3 (h : SevR w B x0 x1 x2 x3 x4 x5 x6) (y : Value) : SevR (w.setCell ⟨B, 3, none⟩ y) B x0 x1 x2 y x4 x5 x6 := by
  obtain ⟨h, h0, h1, h2, h3, h4, h5, h6, h7⟩ := h
  have o : ∀ j, j ≠ 3 → (w.setCell ⟨B, 3, none⟩ y).cell? ⟨B, j, none⟩ = w.cell? ⟨B, j, none⟩ := fun j hj => World.cell?_setCell_other w _ _ _ (ne_off (Ne.symm hj))
  exact ⟨by rw [size_set]; exact h, by rw [o 0 (by omega)]; exact h0, by rw [o 1 (by omega)]; exact h1, by rw [o 2 (by omega)]; exact h2, World.cell?_setCell_same w _ _ h3, by rw [o 4 (by omega)]; exact h4, by rw [o 5 (by omega)]; exact h5, by rw [o 6 (by omega)]; exact h6, fun i => by rw [World.frozen?_setCell]; exact h7 i⟩
theorem set4 (h : SevR w B x0 x1 x2 x3 x4 x5 x6) (y : Value) : SevR (w.setCell ⟨B, 4, none⟩ y) B x0 x1 x2 x3 y x5 x6 := by
  obtain ⟨h, h0, h1, h2, h3, h4, h5, h6, h7⟩ := h
  have o : ∀ j, j ≠ 4 → (w.setCell ⟨B, 4, none⟩ y).cell? ⟨B, j, none⟩ = w.cell? ⟨B, j, none⟩ := fun j hj => World.cell?_setCell_other w _ _ _ (ne_off (Ne.symm hj))
  exact ⟨by rw [size_set]; exact h, by rw [o 0 (by omega)]; exact h0, by rw [o 1 (by omega)]; exact h1, by rw [o 2 (by omega)]; exact h2, by rw [o 3 (by omega)]; exact h3, World.cell?_setCell_same w _ _ h4, by rw [o 5 (by omega)]; exact h5, by rw [o 6 (by omega)]; exact h6, fun i => by rw [World.frozen?_setCell]; exact h7 i⟩
theorem set5 (h : SevR w B x0 x1 x2 x3 x4 x5 x6) (y : Value) : SevR (w.setCell ⟨B, 5, none⟩ y) B x0 x1 x2 x3 x4 y x6 := by
  obtain ⟨h, h0, h1, h2, h3, h4, h5, h6, h7⟩ := h
  have o : ∀ j, j ≠ 5 → (w.setCell ⟨B, 5, none⟩ y).cell? ⟨B, j, none⟩ = w.cell? ⟨B, j, none⟩ := fun j hj => World.cell?_setCell_other w _ _ _ (ne_off (Ne.symm hj))
  exact ⟨by rw [size_set]; exact h, by rw [o 0 (by omega)]; exact h0, by rw [o 1 (by omega)]; exact h1, by rw [o 2 (by omega)]; exact h2, by rw [o 3 (by omega)]; exact h3, by rw [o 4 (by omega)]; exact h4, World.cell?_setCell_same w _ _ h5, by rw [o 6 (by omega)]; exact h6, fun i => by rw [World.frozen?_setCell]; exact h7 i⟩
theorem set6 (h : SevR w B x0 x1 x2 x3 x4 x5 x6) (y : Value) : SevR (w.setCell ⟨B, 6, none⟩ y) B x0 x1 x2 x3 x4 x5 y := by
  obtain ⟨h, h0, h1, h2, h3, h4, h5, h6, h7⟩ := h
  have o : ∀ j, j ≠ 6 → (w.setCell ⟨B, 6, none⟩ y).cell? ⟨B, j, none⟩ = w.cell? ⟨B, j, none⟩ := fun j hj => World.cell?_setCell_other w _ _ _ (ne_off (Ne.symm hj))
  exact ⟨by rw [size_set]; exact h, by rw [o 0 (by omega)]; exact h0, by rw [o 1 (by omega)]; exact h1, by rw [o 2 (by omega)]; exact h2, by rw [o 3 (by omega)]; exact h3, by rw [o 4 (by omega)]; exact h4, by rw [o 5 (by omega)]; exact h5, World.cell?_setCell_same w _ _ h6, fun i => by rw [World.frozen?_setCell]; exact h7 i⟩
/-- Of another block. -/
theorem setO (h : SevR w B x0 x1 x2 x3 x4 x5 x6) {A : Nat} (hA : A ≠ B) (i : Nat) (y : Value) : SevR (w.setCell ⟨A, i, none⟩ y) B x0 x1 x2 x3 x4 x5 x6 := by
  obtain ⟨h, h0, h1, h2, h3, h4, h5, h6, h7⟩ := h
  have o : ∀ j, (w.setCell ⟨A, i, none⟩ y).cell? ⟨B, j, none⟩ = w.cell? ⟨B, j, none⟩ := fun j => World.cell?_setCell_other w _ _ _ (ne_blk hA)
  exact ⟨by rw [size_set]; exact h, by rw [o 0]; exact h0, by rw [o 1]; exact h1, by rw [o 2]; exact h2, by rw [o 3]; exact h3, by rw [o 4]; exact h4, by rw [o 5]; exact h5, by rw [o 6]; exact h6, fun i => by rw [World.frozen?_setCell]; exact h7 i⟩
end
/-- A struct of three cells that is stored whole; of another block. -/
abbrev Tri (w : World) (B : Nat) (x y z : Value) : Prop := B < w.heap.size ∧ w.cell? ⟨B, 0, none⟩ = some x ∧ w.cell? ⟨B, 1, none⟩ = some y ∧ w.cell? ⟨B, 2, none⟩ = some z ∧ ∀ i, w.frozen? ⟨B, i, none⟩ = false
theorem tri_set {w : World} {B : Nat} {x y z : Value} (h : Tri w B x y z) (x' y' z' : Value) : Tri (((w.setCell ⟨B, 0, none⟩ x').setCell ⟨B, 1, none⟩ y').setCell ⟨B, 2, none⟩ z') B x' y' z' := by
  obtain ⟨h, h0, h1, h2, h3⟩ := h
  have a0 : (w.setCell ⟨B, 0, none⟩ x').cell? ⟨B, 0, none⟩ = some x' := World.cell?_setCell_same w _ _ h0
  have a1 : (w.setCell ⟨B, 0, none⟩ x').cell? ⟨B, 1, none⟩ = some y := by rw [World.cell?_setCell_other w _ _ _ (ne_off (by decide))]; exact h1
  have a2 : (w.setCell ⟨B, 0, none⟩ x').cell? ⟨B, 2, none⟩ = some z := by rw [World.cell?_setCell_other w _ _ _ (ne_off (by decide))]; exact h2
  have c0 : ((w.setCell ⟨B, 0, none⟩ x').setCell ⟨B, 1, none⟩ y').cell? ⟨B, 0, none⟩ = some x' := by rw [World.cell?_setCell_other _ _ _ _ (ne_off (by decide))]; exact a0
  have c1 : ((w.setCell ⟨B, 0, none⟩ x').setCell ⟨B, 1, none⟩ y').cell? ⟨B, 1, none⟩ = some y' := World.cell?_setCell_same _ _ _ a1
  have c2 : ((w.setCell ⟨B, 0, none⟩ x').setCell ⟨B, 1, none⟩ y').cell? ⟨B, 2, none⟩ = some z := by rw [World.cell?_setCell_other _ _ _ _ (ne_off (by decide))]; exact a2
  exact ⟨by rw [size_set, size_set, size_set]; exact h, by rw [World.cell?_setCell_other _ _ _ _ (ne_off (by decide))]; exact c0, by rw [World.cell?_setCell_other _ _ _ _ (ne_off (by decide))]; exact c1, World.cell?_setCell_same _ _ _ c2, fun i => by rw [World.frozen?_setCell, World.frozen?_setCell, World.frozen?_setCell]; exact h3 i⟩
theorem tri_one {w : World} {B : Nat} {x y z : Value} (h : Tri w B x y z) {A : Nat} (hA : A ≠ B) (i : Nat) (v : Value) : Tri (w.setCell ⟨A, i, none⟩ v) B x y z := by
  obtain ⟨h, h0, h1, h2, h3⟩ := h
  have o : ∀ j, (w.setCell ⟨A, i, none⟩ v).cell? ⟨B, j, none⟩ = w.cell? ⟨B, j, none⟩ := fun j => World.cell?_setCell_other w _ _ _ (ne_blk hA)
  exact ⟨by rw [size_set]; exact h, by rw [o 0]; exact h0, by rw [o 1]; exact h1, by rw [o 2]; exact h2, fun i => by rw [World.frozen?_setCell]; exact h3 i⟩
theorem tri_other {w : World} {B : Nat} {x y z : Value} (h : Tri w B x y z) {A : Nat} (hA : A ≠ B) (x' y' z' : Value) : Tri (((w.setCell ⟨A, 0, none⟩ x').setCell ⟨A, 1, none⟩ y').setCell ⟨A, 2, none⟩ z') B x y z := tri_one (tri_one (tri_one h hA 0 x') hA 1 y') hA 2 z'
/-- Three cells of another block stored. -/
theorem setO3 {w : World} {B : Nat} {x0 x1 x2 x3 x4 x5 x6 : Value} (h : SevR w B x0 x1 x2 x3 x4 x5 x6) {A : Nat} (hA : A ≠ B) (x' y' z' : Value) : SevR (((w.setCell ⟨A, 0, none⟩ x').setCell ⟨A, 1, none⟩ y').setCell ⟨A, 2, none⟩ z') B x0 x1 x2 x3 x4 x5 x6 := setO (setO (setO h hA 0 x') hA 1 y') hA 2 z'
end Go.Proofs.Ythegdhogpjhidaa.HstSet
