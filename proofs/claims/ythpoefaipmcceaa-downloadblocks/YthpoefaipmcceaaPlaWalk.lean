/- The contracts of package place: the next record's number, the sector in which the active one stands, where the next one goes, the steps that lay it down; whatever the arguments. Of what was there nothing has turned. -/
import Derived.Test.YthpoefaipmcceaaChoWalk
import Derived.Test.YthpoefaipmcceaaActApp
import Derived.Test.YthpoefaipmcceaaOpsWords
import Derived.Laws.OwnMore
namespace Go.Proofs.Ythpoefaipmcceaa.PlaWalk
open Go.Proofs.Ythpoefaipmcceaa Go.RowKit Go.Proofs.Ythpoefaipmcceaa.Bytes Go.Proofs.Ythpoefaipmcceaa.NorWalk Go.Proofs.Ythpoefaipmcceaa.Ent Go.Proofs.Ythpoefaipmcceaa.EntRow Go.Proofs.Ythpoefaipmcceaa.EntWalk Go.Proofs.Ythpoefaipmcceaa.Jou Go.Proofs.Ythpoefaipmcceaa.JouRow Go.Proofs.Ythpoefaipmcceaa.JouWalk Go.Proofs.Ythpoefaipmcceaa.Ops Go.Proofs.Ythpoefaipmcceaa.Act Go.Proofs.Ythpoefaipmcceaa.ActRef Go.Proofs.Ythpoefaipmcceaa.ActNext Go.Proofs.Ythpoefaipmcceaa.ActApp Go.Proofs.Ythpoefaipmcceaa.Cho Go.Proofs.Ythpoefaipmcceaa.ChoWalk

theorem ret_i {a b : Int} (h : a = b) : Ending.returned (.int .i64 a) = .returned (.int .i64 b) := by rw [h]
theorem ret_ib {a b : Int} {c d : Bool} (h : a = b) (g : c = d) : Ending.returned (.tuple #[.int .i64 a, .bool c]) = .returned (.tuple #[.int .i64 b, .bool d]) := by rw [h, g]
theorem act_pa (f : ByteArray) : 0 ≤ (actV f).pa ∧ (actV f).pa ≤ 168 := by
  rcases three f with ⟨_, _, h, _⟩ | ⟨_, _, h, _⟩ | ⟨_, h, _⟩
  · rw [h]; show (0 : Int) ≤ 0 ∧ (0 : Int) ≤ 168; omega
  · rw [h]; show (0 : Int) ≤ 0 ∧ (0 : Int) ≤ 168; omega
  · exact (act_rec h).2.2
theorem appOk_ff {f : ByteArray} {q t z m : Int} (h : appOk f q t z m = false) : recMay q t z m = false ∨ recMay q t z m = true ∧ mayB f = false := by
  unfold appOk at h
  cases hr : recMay q t z m with
  | false => exact .inl rfl
  | true => rw [hr, Bool.and_true] at h; exact .inr ⟨rfl, h⟩
end Go.Proofs.Ythpoefaipmcceaa.PlaWalk
