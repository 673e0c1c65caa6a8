/- The contracts of package choose: each call returns what the plain functions give, whatever its arguments; of what was there nothing has turned. -/
import Derived.Test.YtlmndigldifaoaaChoMath
import Derived.Test.YtlmndigldifaoaaImgWalk
import Derived.Test.YtlmndigldifaoaaJouWalk
import Derived.Deep.Cut
namespace Go.Proofs.Ytlmndigldifaoaa.ChoWalk
open Go.Proofs.Ytlmndigldifaoaa Go.RowKit Go.Proofs.Ytlmndigldifaoaa.Bytes Go.Proofs.Ytlmndigldifaoaa.NorWalk Go.Proofs.Ytlmndigldifaoaa.Ent Go.Proofs.Ytlmndigldifaoaa.EntRow Go.Proofs.Ytlmndigldifaoaa.EntWalk Go.Proofs.Ytlmndigldifaoaa.Jou Go.Proofs.Ytlmndigldifaoaa.JouRow Go.Proofs.Ytlmndigldifaoaa.JouWalk Go.Proofs.Ytlmndigldifaoaa.Ops Go.Proofs.Ytlmndigldifaoaa.Act Go.Proofs.Ytlmndigldifaoaa.ImgWalk Go.Proofs.Ytlmndigldifaoaa.Cho

theorem build_p0 (w : World) : (Instr.build 45 #[]).run Try.prog w = .ok (.agg #[.int .i64 0, .int .i64 0, .int .i64 0, .int .i64 0, .int .i64 0]) w := run_build w 45 _ _ (by kernel_rfl)
theorem ret_place {a b c d e x a' b' c' d' e' x' : Int} (h : a = a' ∧ b = b' ∧ c = c' ∧ d = d' ∧ e = e' ∧ x = x') : Ending.returned (.tuple #[.agg #[.int .i64 a, .int .i64 b, .int .i64 c, .int .i64 d, .int .i64 e], .int .i64 x]) = .returned (.tuple #[.agg #[.int .i64 a', .int .i64 b', .int .i64 c', .int .i64 d', .int .i64 e'], .int .i64 x']) := by
  obtain ⟨rfl, rfl, rfl, rfl, rfl, rfl⟩ := h
  rfl
theorem good_f {f : ByteArray} {q t z m : Int} (h : imgOk f q t z m = false) : goodB f q t z m = false := by unfold goodB; rw [h]; rfl
theorem set5b {w W : World} {a b c d e : Value} (h : Below w.heap.size w W) : Below w.heap.size w (((((W.setCell ⟨w.heap.size, 0, none⟩ a).setCell ⟨w.heap.size, 1, none⟩ b).setCell ⟨w.heap.size, 2, none⟩ c).setCell ⟨w.heap.size, 3, none⟩ d).setCell ⟨w.heap.size, 4, none⟩ e) :=
  ((((h.setCell (p := ⟨w.heap.size, 0, none⟩) (Nat.le_refl _) _).setCell (p := ⟨w.heap.size, 1, none⟩) (Nat.le_refl _) _).setCell (p := ⟨w.heap.size, 2, none⟩) (Nat.le_refl _) _).setCell (p := ⟨w.heap.size, 3, none⟩) (Nat.le_refl _) _).setCell (p := ⟨w.heap.size, 4, none⟩) (Nat.le_refl _) _
theorem ne_off {B i j : Nat} (h : i ≠ j) : (⟨B, i, none⟩ : Addr) ≠ ⟨B, j, none⟩ := fun e => by injection e; exact h (by omega)
theorem box5_set {W : World} {B : Nat} {a b c d e a' b' c' d' e' : Value} (h : Box5 W B a b c d e) : Box5 (((((W.setCell ⟨B, 0, none⟩ a').setCell ⟨B, 1, none⟩ b').setCell ⟨B, 2, none⟩ c').setCell ⟨B, 3, none⟩ d').setCell ⟨B, 4, none⟩ e') B a' b' c' d' e' := by
  obtain ⟨h0, h1, h2, h3, h4, h5, h6⟩ := h
  have o : ∀ (W : World) (i j : Nat) (v : Value), i ≠ j → (W.setCell ⟨B, i, none⟩ v).cell? ⟨B, j, none⟩ = W.cell? ⟨B, j, none⟩ := fun W i j v hij => World.cell?_setCell_other W _ _ _ (ne_off hij)
  refine ⟨by simp [World.setCell]; omega, ?_, ?_, ?_, ?_, ?_, fun i => by simp only [World.frozen?_setCell]; exact h6 i⟩
  · rw [o _ 4 0 _ (by omega), o _ 3 0 _ (by omega), o _ 2 0 _ (by omega), o _ 1 0 _ (by omega), World.cell?_setCell_same W _ _ h1]
  · rw [o _ 4 1 _ (by omega), o _ 3 1 _ (by omega), o _ 2 1 _ (by omega), World.cell?_setCell_same _ ⟨B, 1, none⟩ _ (by rw [o _ 0 1 _ (by omega)]; exact h2)]
  · rw [o _ 4 2 _ (by omega), o _ 3 2 _ (by omega), World.cell?_setCell_same _ ⟨B, 2, none⟩ _ (by rw [o _ 1 2 _ (by omega), o _ 0 2 _ (by omega)]; exact h3)]
  · rw [o _ 4 3 _ (by omega), World.cell?_setCell_same _ ⟨B, 3, none⟩ _ (by rw [o _ 2 3 _ (by omega), o _ 1 3 _ (by omega), o _ 0 3 _ (by omega)]; exact h4)]
  · rw [World.cell?_setCell_same _ ⟨B, 4, none⟩ _ (by rw [o _ 3 4 _ (by omega), o _ 2 4 _ (by omega), o _ 1 4 _ (by omega), o _ 0 4 _ (by omega)]; exact h5)]
end Go.Proofs.Ytlmndigldifaoaa.ChoWalk
