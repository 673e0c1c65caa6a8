/- What a host that carries so many bytes asks, and what its request's bytes are; of what was there nothing has turned. -/
import Derived.Test.YthegdhogpjhidaaHstAwake
import Derived.Test.YthegdhogpjhidaaSetGet
namespace Go.Proofs.Ythegdhogpjhidaa.HstMore
open Go.Proofs.Ythegdhogpjhidaa Go.RowKit Go.Proofs.Ythegdhogpjhidaa.Bytes Go.Proofs.Ythegdhogpjhidaa.Sup Go.Proofs.Ythegdhogpjhidaa.Hst Go.Proofs.Ythegdhogpjhidaa.HstHost Go.Proofs.Ythegdhogpjhidaa.HstCarry
open Go.Proofs.Ythegdhogpjhidaa.Blo (nP pieceS)
theorem nP_iota (k : Nat) : nP (iotaS k) = (k + 31) / 32 := by unfold nP; rw [size_iotaS]
theorem ask_ok {p : Int} {k j : Nat} (h1 : 1 ≤ p) (h6 : p ≤ 6) (hk1 : 1 ≤ k) (hk : k ≤ 288) (hj : 32 * j < k + 32) : askB p (iotaS k) j 0 ⟨#[]⟩ 0 = true := by
  rw [ask_parts, host_parts, nP_iota, size_iotaS]
  exact ⟨⟨by omega, by omega, by decide, by decide, hk, .inl hk1, by omega, by omega, by decide, by decide, by decide⟩, by omega, by omega⟩
/-- A request got. -/
def Got (w : World) (c v n : Int) (e : Ending) (w' : World) : Prop := e = .returned (.tuple #[.agg #[.int .i64 c, .int .i64 v, .int .i64 n], .int .i64 0]) ∧ Below w.heap.size w w'
/-- What is asked, and what its bytes tell. -/
theorem told {ph : Int} {im : ByteArray} {bl : Int} {ag : Bool} {tr : Int} {rd : ByteArray} {rp : Int} {c v n : Int} {D : ByteArray} (h : askB ph im bl tr rd rp = true) (hU : askS ph im bl ag tr rd rp = supS c v n) (hD : askD ph im bl tr rd rp = D) (hs : supB c v n = true) : ∃ U, (∀ w, Calls Try.prog 10 #[.agg #[.int .i64 ph, .string im, .int .i64 bl, .bool ag, .int .i64 tr, .string rd, .int .i64 rp]] w (Asked w U D 0)) ∧ ∀ w, Calls Try.prog 19 #[.string U] w (Got w c v n) := by
  refine ⟨supS c v n, fun w => ?_, fun w => ?_⟩
  · have g := asks_any ph im bl ag tr rd rp w
    rw [hU, hD, h] at g
    exact g
  · have g := SetGet.refGet_any (supS c v n) w
    obtain ⟨g1, g2, g3, g4⟩ := got_put hs
    rw [g1, g2, g3, g4] at g
    exact g
/-- The ways of one of them: its phase, how it asks. -/
theorem told_ways (p : Int) (k j : Nat) (ag : Bool) (h1 : 1 ≤ p) (h6 : p ≤ 6) (hk1 : 1 ≤ k) (hk : k ≤ 288) (hj : 32 * j < k + 32) : ∃ c v n D U, (∀ w, Calls Try.prog 10 #[.agg #[.int .i64 p, .string (iotaS k), .int .i64 j, .bool ag, .int .i64 0, .string ⟨#[]⟩, .int .i64 0]] w (Asked w U D 0)) ∧ (∀ w, Calls Try.prog 19 #[.string U] w (Got w c v n)) ∧
    ((p = 1 ∧ ag = false ∧ c = 3 ∧ v = 0 ∧ n = 6 ∧ D = ⟨#[]⟩) ∨
    (p = 1 ∧ ag = true ∧ j = 0 ∧ c = 4 ∧ v = 0 ∧ n = 0 ∧ D = ⟨#[]⟩) ∨
    (p = 1 ∧ ag = true ∧ ¬ j = 0 ∧ c = 6 ∧ v = 0 ∧ n = 0 ∧ D = ⟨#[]⟩) ∨
    (p = 2 ∧ c = 1 ∧ v = j ∧ n = (pieceS (iotaS k) j).size ∧ D = pieceS (iotaS k) j) ∨
    ((p = 3 ∨ p = 5) ∧ c = 3 ∧ v = 0 ∧ n = 6 ∧ D = ⟨#[]⟩) ∨
    (p = 4 ∧ c = 1 ∧ v = j ∧ n = 0 ∧ D = ⟨#[]⟩) ∨
    (p = 6 ∧ c = 2 ∧ v = j ∧ n = 32 ∧ D = ⟨#[]⟩)) := by
  have hok := ask_ok (p := p) h1 h6 hk1 hk hj
  obtain ⟨i, hi, -, h9, -, -, hw⟩ := ask_ways ag hok
  obtain rfl : j = i := by omega
  have hz := size_piece_le (iotaS k) j
  have key : ∀ {c v n D}, askS p (iotaS k) j ag 0 ⟨#[]⟩ 0 = supS c v n → askD p (iotaS k) j 0 ⟨#[]⟩ 0 = D → supB c v n = true → ∃ U, (∀ w, Calls Try.prog 10 #[.agg #[.int .i64 p, .string (iotaS k), .int .i64 j, .bool ag, .int .i64 0, .string ⟨#[]⟩, .int .i64 0]] w (Asked w U D 0)) ∧ ∀ w, Calls Try.prog 19 #[.string U] w (Got w c v n) := fun hU hD hs => told hok hU hD hs
  rcases hw with ⟨e1, e2, hU, hD⟩ | ⟨e1, e2, e3, hU, hD⟩ | ⟨e1, e2, e3, hU, hD⟩ | ⟨e1, hU, hD⟩ | ⟨e1, hU, hD⟩ | ⟨e1, hU, hD⟩ | ⟨e1, hU, hD⟩
  · obtain ⟨U, c1, c2⟩ := key hU hD (by decide)
    exact ⟨_, _, _, _, U, c1, c2, .inl ⟨e1, e2, rfl, rfl, rfl, rfl⟩⟩
  · obtain ⟨U, c1, c2⟩ := key hU hD (by decide)
    exact ⟨_, _, _, _, U, c1, c2, .inr (.inl ⟨e1, e2, e3, rfl, rfl, rfl, rfl⟩)⟩
  · obtain ⟨U, c1, c2⟩ := key hU hD (by decide)
    exact ⟨_, _, _, _, U, c1, c2, .inr (.inr (.inl ⟨e1, e2, e3, rfl, rfl, rfl, rfl⟩))⟩
  · obtain ⟨U, c1, c2⟩ := key hU hD (supB_parts.2 ⟨by decide, by decide, by omega, by omega, by omega, by omega⟩)
    exact ⟨_, _, _, _, U, c1, c2, .inr (.inr (.inr (.inl ⟨e1, rfl, rfl, rfl, rfl⟩)))⟩
  · obtain ⟨U, c1, c2⟩ := key hU hD (by decide)
    exact ⟨_, _, _, _, U, c1, c2, .inr (.inr (.inr (.inr (.inl ⟨e1, rfl, rfl, rfl, rfl⟩))))⟩
  · obtain ⟨U, c1, c2⟩ := key hU hD (supB_parts.2 ⟨by decide, by decide, by omega, by omega, by decide, by decide⟩)
    exact ⟨_, _, _, _, U, c1, c2, .inr (.inr (.inr (.inr (.inr (.inl ⟨e1, rfl, rfl, rfl, rfl⟩)))))⟩
  · obtain ⟨U, c1, c2⟩ := key hU hD (supB_parts.2 ⟨by decide, by decide, by omega, by omega, by decide, by decide⟩)
    exact ⟨_, _, _, _, U, c1, c2, .inr (.inr (.inr (.inr (.inr (.inr ⟨e1, rfl, rfl, rfl, rfl⟩)))))⟩
end Go.Proofs.Ythegdhogpjhidaa.HstMore
