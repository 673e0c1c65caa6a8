/- The contracts of the document's own staged record and of where the next record goes. -/
import Derived.Test.YthpoefaipmcceaaActNext
namespace Go.Proofs.Ythpoefaipmcceaa.ActApp
open Go.Proofs.Ythpoefaipmcceaa Go.RowKit Go.Proofs.Ythpoefaipmcceaa.Bytes Go.Proofs.Ythpoefaipmcceaa.NorWalk Go.Proofs.Ythpoefaipmcceaa.NorRef Go.Proofs.Ythpoefaipmcceaa.Ent Go.Proofs.Ythpoefaipmcceaa.EntRow Go.Proofs.Ythpoefaipmcceaa.EntWalk Go.Proofs.Ythpoefaipmcceaa.EntRef Go.Proofs.Ythpoefaipmcceaa.Jou Go.Proofs.Ythpoefaipmcceaa.JouRow Go.Proofs.Ythpoefaipmcceaa.JouWalk Go.Proofs.Ythpoefaipmcceaa.JouRef Go.Proofs.Ythpoefaipmcceaa.Ops Go.Proofs.Ythpoefaipmcceaa.Act Go.Proofs.Ythpoefaipmcceaa.ActRef Go.Proofs.Ythpoefaipmcceaa.ActNext

theorem rofOk_f {f : ByteArray} {t z : Int} (h : rofOk f t z = false) : mayB f = false ∨ mayB f = true ∧ baseOk t = false ∨ mayB f = true ∧ baseOk t = true ∧ upToB z 1 288 = false := by
  unfold rofOk at h
  have h' := of_decide_eq_false h
  unfold mayB baseOk upToB
  by_cases h1 : f.size = 768
  · rw [decide_eq_true h1]
    by_cases h2 : 0 ≤ t ∧ t ≤ 1
    · rw [decide_eq_true h2]
      exact .inr (.inr ⟨rfl, rfl, decide_eq_false (fun g => h' ⟨h1, h2.1, h2.2, g⟩)⟩)
    · rw [decide_eq_false h2]
      exact .inr (.inl ⟨rfl, rfl⟩)
  · rw [decide_eq_false h1]
    exact .inl rfl
theorem set4 {w W : World} (h : Below w.heap.size w W) (a b c d : Value) : Below w.heap.size w ((((W.setCell ⟨w.heap.size, 0, none⟩ a).setCell ⟨w.heap.size, 1, none⟩ b).setCell ⟨w.heap.size, 2, none⟩ c).setCell ⟨w.heap.size, 3, none⟩ d) :=
  (((h.setCell (p := ⟨w.heap.size, 0, none⟩) (Nat.le_refl _) _).setCell (p := ⟨w.heap.size, 1, none⟩) (Nat.le_refl _) _).setCell (p := ⟨w.heap.size, 2, none⟩) (Nat.le_refl _) _).setCell (p := ⟨w.heap.size, 3, none⟩) (Nat.le_refl _) _
theorem appOk_f {f : ByteArray} {q t z m : Int} (h : appOk f q t z m = false) : mayB f = false ∨ mayB f = true ∧ recMay q t z m = false := imgOk_f h
theorem news_of_owns {w : World} {base : Nat} {e : TypeId} {size g cap n : Nat} {xs : List Value} (h : w.ownsRow base e size (.slice (some ⟨g, 0, none⟩) n cap) n xs) : ∀ j u, xs[j]? = some u → w.cell? ((⟨g, 0, none⟩ : Addr).add j) = some u := by
  intro j u hu
  have hj : j < xs.length := (List.getElem?_eq_some_iff.1 hu).1
  have hadd : (⟨g, 0, none⟩ : Addr).add j = ⟨g, j, none⟩ := by unfold Addr.add; split <;> simp_all
  rw [hadd, h.cellAt j (by have := h.1; omega)]
  exact hu
theorem len6 (a : Int) (s : ByteArray) : (OpsRow.flat (wordsTo a s 6)).length = 6 * 3 := by rw [OpsRow.length_flat, length_wordsTo]
end Go.Proofs.Ythpoefaipmcceaa.ActApp
