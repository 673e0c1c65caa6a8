/- The contracts of package entry: each call returns what the plain functions give, whatever its arguments; of what was there nothing has turned. -/
import Derived.Test.YtebbficaolommaaEntLow
import Derived.Deep.RegionWith
import Derived.Deep.DrawnRows
import Derived.Deep.RegionHeld3
import Derived.Laws.Closers25
import Derived.Laws.Tables
namespace Go.Proofs.Ytebbficaolommaa.EntWalk
open Go.Proofs.Ytebbficaolommaa Go.RowKit Go.Proofs.Ytebbficaolommaa.Bytes Go.Proofs.Ytebbficaolommaa.NorWalk Go.Proofs.Ytebbficaolommaa.Ent Go.Proofs.Ytebbficaolommaa.EntRow Go.Proofs.Ytebbficaolommaa.EntLow
attribute [local go_sem ↓] Go.wp_at_zero Go.wp_at_succ

theorem recMay_f {q t z m : Int} (h : recMay q t z m = false) : ¬ 1 ≤ q ∨ (1 ≤ q ∧ ¬ q ≤ 1048576) ∨ (1 ≤ q ∧ q ≤ 1048576 ∧ ¬ t = 0 ∧ ¬ t = 1) ∨ (1 ≤ q ∧ q ≤ 1048576 ∧ (t = 0 ∨ t = 1) ∧ ¬ 1 ≤ z) ∨ (1 ≤ q ∧ q ≤ 1048576 ∧ (t = 0 ∨ t = 1) ∧ 1 ≤ z ∧ ¬ z ≤ 288) ∨ (1 ≤ q ∧ q ≤ 1048576 ∧ (t = 0 ∨ t = 1) ∧ 1 ≤ z ∧ z ≤ 288 ∧ ¬ 0 ≤ m) ∨ (1 ≤ q ∧ q ≤ 1048576 ∧ (t = 0 ∨ t = 1) ∧ 1 ≤ z ∧ z ≤ 288 ∧ 0 ≤ m ∧ ¬ m ≤ 4294967295) := by
  unfold recMay at h
  have := of_decide_eq_false h
  omega
/-- lowest.Put where the number may be one. -/
def lowT (X K : Int) : ByteArray := lowS X.toNat K.toNat
theorem size_lowT (X K : Int) : (lowT X K).size ≤ K.toNat := by unfold lowT; rw [size_lowS]; exact Nat.le_refl _
theorem list_lowT (X K : Int) : (lowT X K).data.toList = lowL X.toNat K.toNat := rfl
/-- A text's number. -/
def numS (s : ByteArray) : Int := ((ofL s.data.toList : Nat) : Int)
theorem ext_le (s : ByteArray) (a b : Nat) (h : b - a ≤ 7) : (s.extract a b).size ≤ 7 := by rw [ByteArray.size_extract]; omega
theorem num_fields (s : ByteArray) : numS (s.extract 0 4) = (fq s.data.toList : Int) ∧ numS (s.extract 4 5) = (ft s.data.toList : Int) ∧ numS (s.extract 6 8) = (fz s.data.toList : Int) ∧ numS (s.extract 8 12) = (fm s.data.toList : Int) := by
  unfold numS fq ft fz fm
  rw [list_extract, list_extract, list_extract, list_extract]
  exact ⟨rfl, rfl, rfl, rfl⟩
/-- A text of 24 bytes: no record's numbers; numbers of one, but other bytes; one. -/
theorem getOk_c {s : ByteArray} (h1 : s.size = 24) : (recMay (numS (s.extract 0 4)) (numS (s.extract 4 5)) (numS (s.extract 6 8)) (numS (s.extract 8 12)) = false ∧ getOk s = false) ∨ (recMay (numS (s.extract 0 4)) (numS (s.extract 4 5)) (numS (s.extract 6 8)) (numS (s.extract 8 12)) = true ∧ ¬ putS (numS (s.extract 0 4)) (numS (s.extract 4 5)) (numS (s.extract 6 8)) (numS (s.extract 8 12)) = s ∧ getOk s = false) ∨ (recMay (numS (s.extract 0 4)) (numS (s.extract 4 5)) (numS (s.extract 6 8)) (numS (s.extract 8 12)) = true ∧ putS (numS (s.extract 0 4)) (numS (s.extract 4 5)) (numS (s.extract 6 8)) (numS (s.extract 8 12)) = s ∧ getOk s = true) := by
  obtain ⟨e1, e2, e3, e4⟩ := num_fields s
  rw [e1, e2, e3, e4]
  cases h2 : recMay (fq s.data.toList) (ft s.data.toList) (fz s.data.toList) (fm s.data.toList) with
  | false =>
    refine .inl ⟨rfl, ?_⟩
    unfold getOk
    exact decide_eq_false (fun h => by rw [h2] at h; exact absurd h.2.1 (by decide))
  | true =>
    by_cases h3 : putS (fq s.data.toList) (ft s.data.toList) (fz s.data.toList) (fm s.data.toList) = s
    · exact .inr (.inr ⟨rfl, h3, getOk_parts.2 ⟨h1, h2, (list_putS h2).symm.trans (congrArg (fun x => x.data.toList) h3)⟩⟩)
    · refine .inr (.inl ⟨rfl, h3, ?_⟩)
      unfold getOk
      refine decide_eq_false (fun h => h3 (ba_ext ?_))
      rw [list_putS h2]
      exact h.2.2
/-- A struct of four cells in a block of its own that may be written. -/
theorem resM (w : World) (x y z u : Value) (e : TypeId) : w.heap.size < (w.alloc (.cells #[x, y, z, u] e)).heap.size ∧ (w.alloc (.cells #[x, y, z, u] e)).cell? ⟨w.heap.size, 0, none⟩ = some x ∧ (w.alloc (.cells #[x, y, z, u] e)).cell? ⟨w.heap.size, 1, none⟩ = some y ∧ (w.alloc (.cells #[x, y, z, u] e)).cell? ⟨w.heap.size, 2, none⟩ = some z ∧ (w.alloc (.cells #[x, y, z, u] e)).cell? ⟨w.heap.size, 3, none⟩ = some u ∧ ∀ i, (w.alloc (.cells #[x, y, z, u] e)).frozen? ⟨w.heap.size, i, none⟩ = false := by
  obtain ⟨h1, h2, h3, h4, h5⟩ := boxM w x y z u e
  exact ⟨h1, h2, h3, h4, h5, fun i => World.frozen?_alloc_at _ e _ i rfl⟩
theorem resB {w w' : World} {B : Nat} {x y z u : Value} (h : B < w.heap.size ∧ w.cell? ⟨B, 0, none⟩ = some x ∧ w.cell? ⟨B, 1, none⟩ = some y ∧ w.cell? ⟨B, 2, none⟩ = some z ∧ w.cell? ⟨B, 3, none⟩ = some u ∧ ∀ i, w.frozen? ⟨B, i, none⟩ = false) (hb : Below w.heap.size w w') :
    B < w'.heap.size ∧ w'.cell? ⟨B, 0, none⟩ = some x ∧ w'.cell? ⟨B, 1, none⟩ = some y ∧ w'.cell? ⟨B, 2, none⟩ = some z ∧ w'.cell? ⟨B, 3, none⟩ = some u ∧ ∀ i, w'.frozen? ⟨B, i, none⟩ = false := by
  obtain ⟨h0, h1, h2, h3, h4, h5⟩ := h
  obtain ⟨g0, g1, g2, g3, g4⟩ := boxB ⟨h0, h1, h2, h3, h4⟩ hb
  exact ⟨g0, g1, g2, g3, g4, fun i => by rw [hb.frozen (p := ⟨B, i, none⟩) h0]; exact h5 i⟩
theorem ret_rec {a b c d e a' b' c' d' e' : Int} (h : a = a' ∧ b = b' ∧ c = c' ∧ d = d' ∧ e = e') : Ending.returned (.tuple #[.agg #[.int .i64 a, .int .i64 b, .int .i64 c, .int .i64 d], .int .i64 e]) = .returned (.tuple #[.agg #[.int .i64 a', .int .i64 b', .int .i64 c', .int .i64 d'], .int .i64 e']) := by
  obtain ⟨rfl, rfl, rfl, rfl, rfl⟩ := h
  rfl
theorem zero_rec {s : ByteArray} (h : getOk s = false) : (0 : Int) = gq s ∧ (0 : Int) = gt s ∧ (0 : Int) = gz s ∧ (0 : Int) = gm s ∧ (400 : Int) = errE (getOk s) := by
  obtain ⟨g1, g2, g3, g4⟩ := Ent.get_no h
  exact ⟨g1.symm, g2.symm, g3.symm, g4.symm, (errE_f h).symm⟩
theorem some_rec {s : ByteArray} (h : getOk s = true) : numS (s.extract 0 4) = gq s ∧ numS (s.extract 4 5) = gt s ∧ numS (s.extract 6 8) = gz s ∧ numS (s.extract 8 12) = gm s ∧ (0 : Int) = errE (getOk s) := by
  obtain ⟨g1, g2, g3, g4⟩ := Ent.get_ok h
  obtain ⟨f1, f2, f3, f4⟩ := num_fields s
  exact ⟨f1.trans g1.symm, f2.trans g2.symm, f3.trans g3.symm, f4.trans g4.symm, (errE_t h).symm⟩
end Go.Proofs.Ytebbficaolommaa.EntWalk
