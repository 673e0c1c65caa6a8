/- The contracts of the document's own journal (its records, the first blank place of a sector), and of the laws' helpers on rows of records. -/
import Derived.Test.YtmlfkbkpkgaefaaDoorBagJou
import Derived.Test.YtmlfkbkpkgaefaaDoorBagNor
import Derived.Test.YtmlfkbkpkgaefaaDoorEntRef
import Derived.Laws.StructEq
import Derived.Test.YtmlfkbkpkgaefaaDoorBagCrc
import Derived.Test.YtmlfkbkpkgaefaaDoorBagOps
import Derived.BigQuiet
namespace Go.Proofs.YtmlfkbkpkgaefaaDoor.JouRef
open Go.Proofs.YtmlfkbkpkgaefaaDoor Go.RowKit Go.Proofs.YtmlfkbkpkgaefaaDoor.Bytes Go.Proofs.YtmlfkbkpkgaefaaDoor.NorWalk Go.Proofs.YtmlfkbkpkgaefaaDoor.NorRef Go.Proofs.YtmlfkbkpkgaefaaDoor.Ent Go.Proofs.YtmlfkbkpkgaefaaDoor.EntRow Go.Proofs.YtmlfkbkpkgaefaaDoor.EntWalk Go.Proofs.YtmlfkbkpkgaefaaDoor.EntRef Go.Proofs.YtmlfkbkpkgaefaaDoor.Jou Go.Proofs.YtmlfkbkpkgaefaaDoor.JouRow Go.Proofs.YtmlfkbkpkgaefaaDoor.JouWalk

theorem numJ_any (n : Int) (w : World) : Calls Tryd.prog 9 #[.int .i64 n] w fun e w' => e = .returned (.int .i64 n) ∧ w' = w := by
  go_enter Tryd.func9, Tryd.ntmps9
  go_wp2
  go_ret
  exact ⟨rfl, rfl⟩
theorem freeRef_f {f : ByteArray} {s : Int} (h : freeOk f s = false) : mayB f = false ∨ mayB f = true ∧ upToB s 0 1 = false := by
  unfold freeOk at h
  have h' := of_decide_eq_false h
  unfold mayB upToB
  by_cases h1 : f.size = 768
  · rw [decide_eq_true h1]
    exact .inr ⟨rfl, decide_eq_false (fun g => h' ⟨h1, g⟩)⟩
  · rw [decide_eq_false h1]
    exact .inl rfl
theorem full24_any (w : World) : Calls Tryd.prog 10 #[.int .i64 24] w fun e w' => e = .returned (.string full24) ∧ Below w.heap.size w w' := full_any 24 w (by omega)
end Go.Proofs.YtmlfkbkpkgaefaaDoor.JouRef

/- The contracts of the document's own images, the active one, the next number, where the next record goes, a staged image's record. -/
namespace Go.Proofs.YtmlfkbkpkgaefaaDoor.ActRef
open Go.Proofs.YtmlfkbkpkgaefaaDoor Go.RowKit Go.Proofs.YtmlfkbkpkgaefaaDoor.Bytes Go.Proofs.YtmlfkbkpkgaefaaDoor.NorWalk Go.Proofs.YtmlfkbkpkgaefaaDoor.NorRef Go.Proofs.YtmlfkbkpkgaefaaDoor.Ent Go.Proofs.YtmlfkbkpkgaefaaDoor.EntRow Go.Proofs.YtmlfkbkpkgaefaaDoor.EntWalk Go.Proofs.YtmlfkbkpkgaefaaDoor.EntRef Go.Proofs.YtmlfkbkpkgaefaaDoor.Jou Go.Proofs.YtmlfkbkpkgaefaaDoor.JouRow Go.Proofs.YtmlfkbkpkgaefaaDoor.JouWalk Go.Proofs.YtmlfkbkpkgaefaaDoor.JouRef Go.Proofs.YtmlfkbkpkgaefaaDoor.Ops Go.Proofs.YtmlfkbkpkgaefaaDoor.Act

theorem ret_ii {a a' b b' : Int} (h1 : a = a') (h2 : b = b') : Ending.returned (.tuple #[.int .i64 a, .int .i64 b]) = .returned (.tuple #[.int .i64 a', .int .i64 b']) := by rw [h1, h2]
theorem ret_bi {a a' : Bool} {b b' : Int} (h1 : a = a') (h2 : b = b') : Ending.returned (.tuple #[.bool a, .int .i64 b]) = .returned (.tuple #[.bool a', .int .i64 b']) := by rw [h1, h2]
theorem base_up (t : Int) : upToB t 0 1 = baseOk t := rfl
theorem imgOk_f {f : ByteArray} {q t z m : Int} (h : imgOk f q t z m = false) : mayB f = false ∨ mayB f = true ∧ recMay q t z m = false := by
  unfold imgOk at h
  cases h1 : mayF f with
  | false => exact .inl h1
  | true => rw [h1, Bool.true_and] at h; exact .inr ⟨h1, h⟩
end Go.Proofs.YtmlfkbkpkgaefaaDoor.ActRef

/- The contracts of the document's own next number and of the active one. -/
namespace Go.Proofs.YtmlfkbkpkgaefaaDoor.ActNext
open Go.Proofs.YtmlfkbkpkgaefaaDoor Go.RowKit Go.Proofs.YtmlfkbkpkgaefaaDoor.Bytes Go.Proofs.YtmlfkbkpkgaefaaDoor.NorWalk Go.Proofs.YtmlfkbkpkgaefaaDoor.NorRef Go.Proofs.YtmlfkbkpkgaefaaDoor.Ent Go.Proofs.YtmlfkbkpkgaefaaDoor.EntRow Go.Proofs.YtmlfkbkpkgaefaaDoor.EntWalk Go.Proofs.YtmlfkbkpkgaefaaDoor.EntRef Go.Proofs.YtmlfkbkpkgaefaaDoor.Jou Go.Proofs.YtmlfkbkpkgaefaaDoor.JouRow Go.Proofs.YtmlfkbkpkgaefaaDoor.JouWalk Go.Proofs.YtmlfkbkpkgaefaaDoor.JouRef Go.Proofs.YtmlfkbkpkgaefaaDoor.Ops Go.Proofs.YtmlfkbkpkgaefaaDoor.Act Go.Proofs.YtmlfkbkpkgaefaaDoor.ActRef

theorem run_maxI {P : Program} (a b k : Int) (h : k = max a b) (ts : Array TypeId) (t : TypeId) (w : World) : (Builtin.max_ ts t #[.int .i64 a, .int .i64 b]).run P w = .ok (.int .i64 k) w := by
  simp [Builtin.max_, Builtin.max2]
  subst h
  repeat split
  all_goals omega
theorem build_pl0 (w : World) : (Instr.build 108 #[]).run Tryd.prog w = .ok (.agg #[.int .i64 0, .int .i64 0, .int .i64 0, .int .i64 0, .int .i64 0]) w := run_build w 108 _ _ (by kernel_rfl)
theorem ret_pl {a b c d e x a' b' c' d' e' x' : Int} (h : a = a' ∧ b = b' ∧ c = c' ∧ d = d' ∧ e = e' ∧ x = x') : Ending.returned (.tuple #[.agg #[.int .i64 a, .int .i64 b, .int .i64 c, .int .i64 d, .int .i64 e], .int .i64 x]) = .returned (.tuple #[.agg #[.int .i64 a', .int .i64 b', .int .i64 c', .int .i64 d', .int .i64 e'], .int .i64 x']) := by
  obtain ⟨rfl, rfl, rfl, rfl, rfl, rfl⟩ := h
  rfl
theorem set5 {w W : World} (h : Below w.heap.size w W) (a b c d e : Value) : Below w.heap.size w (((((W.setCell ⟨w.heap.size, 0, none⟩ a).setCell ⟨w.heap.size, 1, none⟩ b).setCell ⟨w.heap.size, 2, none⟩ c).setCell ⟨w.heap.size, 3, none⟩ d).setCell ⟨w.heap.size, 4, none⟩ e) :=
  ((((h.setCell (p := ⟨w.heap.size, 0, none⟩) (Nat.le_refl _) _).setCell (p := ⟨w.heap.size, 1, none⟩) (Nat.le_refl _) _).setCell (p := ⟨w.heap.size, 2, none⟩) (Nat.le_refl _) _).setCell (p := ⟨w.heap.size, 3, none⟩) (Nat.le_refl _) _).setCell (p := ⟨w.heap.size, 4, none⟩) (Nat.le_refl _) _
end Go.Proofs.YtmlfkbkpkgaefaaDoor.ActNext

/- The contracts of the document's own staged record and of where the next record goes. -/
namespace Go.Proofs.YtmlfkbkpkgaefaaDoor.ActApp
open Go.Proofs.YtmlfkbkpkgaefaaDoor Go.RowKit Go.Proofs.YtmlfkbkpkgaefaaDoor.Bytes Go.Proofs.YtmlfkbkpkgaefaaDoor.NorWalk Go.Proofs.YtmlfkbkpkgaefaaDoor.NorRef Go.Proofs.YtmlfkbkpkgaefaaDoor.Ent Go.Proofs.YtmlfkbkpkgaefaaDoor.EntRow Go.Proofs.YtmlfkbkpkgaefaaDoor.EntWalk Go.Proofs.YtmlfkbkpkgaefaaDoor.EntRef Go.Proofs.YtmlfkbkpkgaefaaDoor.Jou Go.Proofs.YtmlfkbkpkgaefaaDoor.JouRow Go.Proofs.YtmlfkbkpkgaefaaDoor.JouWalk Go.Proofs.YtmlfkbkpkgaefaaDoor.JouRef Go.Proofs.YtmlfkbkpkgaefaaDoor.Ops Go.Proofs.YtmlfkbkpkgaefaaDoor.Act Go.Proofs.YtmlfkbkpkgaefaaDoor.ActRef Go.Proofs.YtmlfkbkpkgaefaaDoor.ActNext

theorem rofOk_f {f : ByteArray} {t z : Int} (h : rofOk f t z = false) : mayB f = false ∨ mayB f = true ∧ baseOk t = false ∨ mayB f = true ∧ baseOk t = true ∧ upToB z 1 288 = false := by
  unfold rofOk at h
  have h' := of_decide_eq_false h
  unfold mayB baseOk upToB
  by_cases h1 : f.size = 768
  · rw [decide_eq_true h1]
    by_cases h2 : 0 ≤ t ∧ t ≤ 1
    · rw [decide_eq_true h2]
      exact .inr (.inr ⟨rfl, rfl, decide_eq_false (fun g => h' ⟨h1, h2.1, h2.2, g⟩)⟩)
    · rw [decide_eq_false h2]
      exact .inr (.inl ⟨rfl, rfl⟩)
  · rw [decide_eq_false h1]
    exact .inl rfl
theorem set4 {w W : World} (h : Below w.heap.size w W) (a b c d : Value) : Below w.heap.size w ((((W.setCell ⟨w.heap.size, 0, none⟩ a).setCell ⟨w.heap.size, 1, none⟩ b).setCell ⟨w.heap.size, 2, none⟩ c).setCell ⟨w.heap.size, 3, none⟩ d) :=
  (((h.setCell (p := ⟨w.heap.size, 0, none⟩) (Nat.le_refl _) _).setCell (p := ⟨w.heap.size, 1, none⟩) (Nat.le_refl _) _).setCell (p := ⟨w.heap.size, 2, none⟩) (Nat.le_refl _) _).setCell (p := ⟨w.heap.size, 3, none⟩) (Nat.le_refl _) _
theorem appOk_f {f : ByteArray} {q t z m : Int} (h : appOk f q t z m = false) : mayB f = false ∨ mayB f = true ∧ recMay q t z m = false := imgOk_f h
theorem news_of_owns {w : World} {base : Nat} {e : TypeId} {size g cap n : Nat} {xs : List Value} (h : w.ownsRow base e size (.slice (some ⟨g, 0, none⟩) n cap) n xs) : ∀ j u, xs[j]? = some u → w.cell? ((⟨g, 0, none⟩ : Addr).add j) = some u := by
  intro j u hu
  have hj : j < xs.length := (List.getElem?_eq_some_iff.1 hu).1
  have hadd : (⟨g, 0, none⟩ : Addr).add j = ⟨g, j, none⟩ := by unfold Addr.add; split <;> simp_all
  rw [hadd, h.cellAt j (by have := h.1; omega)]
  exact hu
theorem len6 (a : Int) (s : ByteArray) : (OpsRow.flat (wordsTo a s 6)).length = 6 * 3 := by rw [OpsRow.length_flat, length_wordsTo]
end Go.Proofs.YtmlfkbkpkgaefaaDoor.ActApp
