/- The contracts of package image: each call returns what the plain functions give, whatever its arguments; of what was there nothing has turned. -/
import Derived.Test.YtlmndigldifaoaaActMath
import Derived.Test.YtlmndigldifaoaaEntWalk
import Derived.Test.YtlmndigldifaoaaCrcSum
import Derived.Test.YtlmndigldifaoaaImgClone
import Derived.BigQuiet
namespace Go.Proofs.Ytlmndigldifaoaa.ImgWalk
open Go.Proofs.Ytlmndigldifaoaa Go.RowKit Go.Proofs.Ytlmndigldifaoaa.Bytes Go.Proofs.Ytlmndigldifaoaa.NorWalk Go.Proofs.Ytlmndigldifaoaa.Ent Go.Proofs.Ytlmndigldifaoaa.EntRow Go.Proofs.Ytlmndigldifaoaa.EntWalk Go.Proofs.Ytlmndigldifaoaa.Jou Go.Proofs.Ytlmndigldifaoaa.Ops Go.Proofs.Ytlmndigldifaoaa.Act Go.Proofs.Ytlmndigldifaoaa.ImgClone

theorem ret_pair {a a' b b' : Int} (h1 : a = a') (h2 : b = b') : Ending.returned (.tuple #[.int .i64 a, .int .i64 b]) = .returned (.tuple #[.int .i64 a', .int .i64 b']) := by rw [h1, h2]
theorem ret_good {a a' : Bool} {b b' : Int} (h1 : a = a') (h2 : b = b') : Ending.returned (.tuple #[.bool a, .int .i64 b]) = .returned (.tuple #[.bool a', .int .i64 b']) := by rw [h1, h2]
set_option maxRecDepth 100000 in
set_option maxHeartbeats 400000 in
theorem base_any (t : Int) (w : World) : Calls Try.prog 23 #[.int .i64 t] w fun e w' => e = .returned (.tuple #[.int .i64 (baseI t), .int .i64 (errI (baseOk t))]) ∧ w' = w := by
  cases h : baseOk t with
  | false =>
    have HB : Hid (baseI t = 0) := by unfold baseI; rw [h]; rfl
    have h1 : t < 0 ∨ (¬ t < 0 ∧ 2 ≤ t) := by
      unfold baseOk at h
      have := of_decide_eq_false h
      omega
    clear h
    rcases h1 with h1 | ⟨h1, h2⟩
    all_goals
      go_enter Try.func23, Try.ntmps23
      go_wp2
      go_ret2
      exact ⟨ret_pair HB.out.symm rfl, rfl⟩
  | true =>
    obtain ⟨h1, h2⟩ := baseOk_parts.1 h
    have HB : Hid (baseI t = 192 + 288 * t) := by show baseI t = _; unfold baseI; rw [if_pos h]
    clear h
    go_enter Try.func23, Try.ntmps23
    go_wp2
    go_ret2
    exact ⟨ret_pair (by rw [HB.out]; omega) rfl, rfl⟩
theorem base_nat (t p : Nat) (w : World) (ht : t ≤ 1) (hp : p = 192 + 288 * t) : Calls Try.prog 23 #[.int .i64 (t : Int)] w fun e w' => e = .returned (.tuple #[.int .i64 (p : Int), .int .i64 0]) ∧ w' = w := by
  have h := base_any (t : Int) w
  have h1 : baseOk (t : Int) = true := baseOk_parts.2 ⟨by omega, by omega⟩
  have h2 : baseI (t : Int) = (p : Int) := by unfold baseI; rw [if_pos h1]; omega
  rw [h1, h2] at h
  exact h
theorem imgOk_c {f : ByteArray} {q t z m : Int} (h : imgOk f q t z m = false) : baseOk t = false ∨ (baseOk t = true ∧ mayB f = false) ∨ (baseOk t = true ∧ mayB f = true ∧ recMay q t z m = false) := by
  unfold imgOk at h
  cases h0 : baseOk t with
  | false => exact .inl rfl
  | true =>
    cases h1 : mayF f with
    | false => exact .inr (.inl ⟨rfl, h1⟩)
    | true => rw [h1, Bool.true_and] at h; exact .inr (.inr ⟨rfl, h1, h⟩)
end Go.Proofs.Ytlmndigldifaoaa.ImgWalk
