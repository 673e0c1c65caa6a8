/- The contract of 'awake' of the laws over package answer, which asks what is known of a few answers: it answers true. -/
import Derived.Test.YtddelbjnnkhgbaaAnsWalk
import Derived.Laws.StructEq
namespace Go.Proofs.Ytddelbjnnkhgbaa.AnsAwake
open Go.Proofs.Ytddelbjnnkhgbaa Go.RowKit Go.Proofs.Ytddelbjnnkhgbaa.Bytes Go.Proofs.Ytddelbjnnkhgbaa.NorWalk Go.Proofs.Ytddelbjnnkhgbaa.Ent Go.Proofs.Ytddelbjnnkhgbaa.Ans Go.Proofs.Ytddelbjnnkhgbaa.AnsWalk
open Go.Proofs.Ytddelbjnnkhgbaa.OpsRow (boxM boxB boxD thenD)

theorem ok1 : ansB 3 9 7 = true := by decide
theorem known_is : ansS 3 9 7 = ⟨#[3, 9, 0, 0, 7, 0]⟩ := by decide +kernel
theorem none_is : isAns ⟨#[]⟩ = false := by decide
theorem c1 (w : World) : Calls Try.prog 7 #[.agg #[.int .i64 3, .int .i64 9, .int .i64 7]] w fun e w' => e = .returned (.tuple #[.string ⟨#[3, 9, 0, 0, 7, 0]⟩, .int .i64 0]) ∧ Below w.heap.size w w' := by
  have h := aput_yes 3 9 7 w ok1
  rw [known_is] at h
  exact h
theorem c2 (w : World) : Calls Try.prog 9 #[.string ⟨#[3, 9, 0, 0, 7, 0]⟩] w fun e w' => e = .returned (.tuple #[.agg #[.int .i64 3, .int .i64 9, .int .i64 7], .int .i64 0]) ∧ Below w.heap.size w w' := by
  have h := aget_put ok1 w
  rw [known_is] at h
  exact h
theorem c3 (w : World) : Calls Try.prog 7 #[.agg #[.int .i64 0, .int .i64 256, .int .i64 0]] w fun e w' => e = .returned (.tuple #[.string ⟨#[]⟩, .int .i64 1400]) ∧ Below w.heap.size w w' := aput_no 0 256 0 w (by decide)
theorem c4 (w : World) : Calls Try.prog 9 #[.string ⟨#[]⟩] w fun e w' => e = .returned (.tuple #[.agg #[.int .i64 0, .int .i64 0, .int .i64 0], .int .i64 1400]) ∧ Below w.heap.size w w' := aget_no none_is w
set_option maxRecDepth 100000 in
set_option maxHeartbeats 1000000 in
theorem awake_any (w : World) : Calls Try.prog 14 #[] w fun e w' => e = .returned (.bool true) ∧ Below w.heap.size w w' := by
  have b1 := build_ans
  have b2 := build_v
  have hB := (Below.refl w.heap.size w).alloc (Nat.le_refl _) (.cells #[.int .i64 3, .int .i64 9, .int .i64 7] 23)
  have hX := boxM w (.int .i64 3) (.int .i64 9) (.int .i64 7) 23
  have i1 := ok1
  go_enter Try.func14, Try.ntmps14
  go_wp2_with fail
  refine (c1 _).mono ?_; rintro e w' ⟨rfl, hb⟩; replace hB := hB.trans (hb.mono hB.size); replace hX := boxB hX hb; clear hb
  go_wp2_with fail
  refine (c2 _).mono ?_; rintro e w' ⟨rfl, hb⟩; replace hB := hB.trans (hb.mono hB.size); replace hX := boxB hX hb; clear hb
  have hY := boxM w' (.int .i64 3) (.int .i64 9) (.int .i64 7) 23
  replace hX := boxB hX ((Below.refl _ _).alloc (Nat.le_refl _) (.cells #[.int .i64 3, .int .i64 9, .int .i64 7] 23))
  replace hB := hB.alloc hB.size (.cells #[.int .i64 3, .int .i64 9, .int .i64 7] 23)
  go_wp2_with fail
  generalize w'.alloc (.cells #[.int .i64 3, .int .i64 9, .int .i64 7] 23) = W at *
  generalize w'.heap.size = G at *
  refine (c3 _).mono ?_; rintro e w3 ⟨rfl, hb⟩; replace hB := thenB hB hb; replace hX := boxB hX hb; replace hY := boxB hY hb; clear hb
  go_wp2_with fail
  refine (c4 _).mono ?_; rintro e w4 ⟨rfl, hb⟩; replace hB := thenB hB hb; replace hX := boxB hX hb; replace hY := boxB hY hb; clear hb
  replace hX := boxB hX ((Below.refl _ _).alloc (Nat.le_refl _) (.cells #[.int .i64 0, .int .i64 0, .int .i64 0] 23))
  replace hY := boxB hY ((Below.refl _ _).alloc (Nat.le_refl _) (.cells #[.int .i64 0, .int .i64 0, .int .i64 0] 23))
  replace hB := hB.alloc hB.size (.cells #[.int .i64 0, .int .i64 0, .int .i64 0] 23)
  go_wp2_with (first | (go_at_call 11; refine (num_any _ _).mono ?_; rintro e w' ⟨rfl, rfl⟩) | (go_at_call 12; refine (amay_any _ _ _ _).mono ?_; rintro e w' ⟨rfl, hb⟩; replace hB := thenB hB hb; clear hb))
  go_ret
  exact ⟨rfl, hB⟩
end Go.Proofs.Ytddelbjnnkhgbaa.AnsAwake
