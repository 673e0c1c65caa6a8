/- The contracts of package place: the next record's number, the sector in which the active one stands, where the next one goes, the steps that lay it down; whatever the arguments. Of what was there nothing has turned. -/
import Derived.Test.YthcknngmpcepfaaBagCho
import Derived.Test.YthcknngmpcepfaaBagAct
import Derived.Test.YthcknngmpcepfaaBagOps
import Derived.Laws.OwnMore
namespace Go.Proofs.Ythcknngmpcepfaa.PlaWalk
open Go.Proofs.Ythcknngmpcepfaa Go.RowKit Go.Proofs.Ythcknngmpcepfaa.Bytes Go.Proofs.Ythcknngmpcepfaa.NorWalk Go.Proofs.Ythcknngmpcepfaa.Ent Go.Proofs.Ythcknngmpcepfaa.EntRow Go.Proofs.Ythcknngmpcepfaa.EntWalk Go.Proofs.Ythcknngmpcepfaa.Jou Go.Proofs.Ythcknngmpcepfaa.JouRow Go.Proofs.Ythcknngmpcepfaa.JouWalk Go.Proofs.Ythcknngmpcepfaa.Ops Go.Proofs.Ythcknngmpcepfaa.Act Go.Proofs.Ythcknngmpcepfaa.ActRef Go.Proofs.Ythcknngmpcepfaa.ActNext Go.Proofs.Ythcknngmpcepfaa.ActApp Go.Proofs.Ythcknngmpcepfaa.Cho Go.Proofs.Ythcknngmpcepfaa.ChoWalk

theorem ret_i {a b : Int} (h : a = b) : Ending.returned (.int .i64 a) = .returned (.int .i64 b) := by rw [h]
theorem ret_ib {a b : Int} {c d : Bool} (h : a = b) (g : c = d) : Ending.returned (.tuple #[.int .i64 a, .bool c]) = .returned (.tuple #[.int .i64 b, .bool d]) := by rw [h, g]
theorem act_pa (f : ByteArray) : 0 ≤ (actV f).pa ∧ (actV f).pa ≤ 168 := by
  rcases three f with ⟨_, _, h, _⟩ | ⟨_, _, h, _⟩ | ⟨_, h, _⟩
  · rw [h]; show (0 : Int) ≤ 0 ∧ (0 : Int) ≤ 168; omega
  · rw [h]; show (0 : Int) ≤ 0 ∧ (0 : Int) ≤ 168; omega
  · exact (act_rec h).2.2
theorem appOk_ff {f : ByteArray} {q t z m : Int} (h : appOk f q t z m = false) : recMay q t z m = false ∨ recMay q t z m = true ∧ mayB f = false := by
  unfold appOk at h
  cases hr : recMay q t z m with
  | false => exact .inl rfl
  | true => rw [hr, Bool.and_true] at h; exact .inr ⟨rfl, h⟩
end Go.Proofs.Ythcknngmpcepfaa.PlaWalk

/- The contracts of package stage and of the document's own steps that erase a slot: the row of steps, owned; the record of a slot's first bytes; whatever the arguments. Of what was there nothing has turned. -/
namespace Go.Proofs.Ythcknngmpcepfaa.StaWalk
open Go.Proofs.Ythcknngmpcepfaa Go.RowKit Go.Proofs.Ythcknngmpcepfaa.Bytes Go.Proofs.Ythcknngmpcepfaa.NorWalk Go.Proofs.Ythcknngmpcepfaa.Ent Go.Proofs.Ythcknngmpcepfaa.EntRow Go.Proofs.Ythcknngmpcepfaa.EntWalk Go.Proofs.Ythcknngmpcepfaa.Jou Go.Proofs.Ythcknngmpcepfaa.Ops Go.Proofs.Ythcknngmpcepfaa.Act Go.Proofs.Ythcknngmpcepfaa.ActRef Go.Proofs.Ythcknngmpcepfaa.ActApp Go.Proofs.Ythcknngmpcepfaa.ImgWalk Go.Proofs.Ythcknngmpcepfaa.PlaWalk Go.Proofs.Ythcknngmpcepfaa.Sta

theorem errG_t {ok : Bool} (h : ok = true) : errG ok = 0 := by rw [h]; rfl
theorem rof_c {f : ByteArray} {t z : Int} (h : rofOk f t z = false) : baseOk t = false ∨ (baseOk t = true ∧ mayB f = false) ∨ (baseOk t = true ∧ mayB f = true ∧ z < 1) ∨ (baseOk t = true ∧ mayB f = true ∧ ¬ z < 1 ∧ 288 < z) := by
  unfold rofOk at h
  have h' := of_decide_eq_false h
  unfold mayB baseOk
  by_cases h2 : 0 ≤ t ∧ t ≤ 1
  · rw [decide_eq_true h2]
    by_cases h1 : f.size = 768
    · rw [decide_eq_true h1]
      by_cases h3 : z < 1
      · exact .inr (.inr (.inl ⟨rfl, rfl, h3⟩))
      · exact .inr (.inr (.inr ⟨rfl, rfl, h3, by omega⟩))
    · rw [decide_eq_false h1]
      exact .inr (.inl ⟨rfl, rfl⟩)
  · rw [decide_eq_false h2]
    exact .inl rfl
end Go.Proofs.Ythcknngmpcepfaa.StaWalk
