/- The contract of 'awake' of the laws over package journal, which asks what is known of the flash of one record: it answers true. -/
import Derived.Test.YtinclijbmjaccaaHeldCalls
namespace Go.Proofs.Ytinclijbmjaccaa.JouAwake
open Go.Proofs.Ytinclijbmjaccaa Go.RowKit Go.Proofs.Ytinclijbmjaccaa.Bytes Go.Proofs.Ytinclijbmjaccaa.NorWalk Go.Proofs.Ytinclijbmjaccaa.NorRef Go.Proofs.Ytinclijbmjaccaa.Jou Go.Proofs.Ytinclijbmjaccaa.JouRow Go.Proofs.Ytinclijbmjaccaa.JouWalk Go.Proofs.Ytinclijbmjaccaa.JouRef Go.Proofs.Ytinclijbmjaccaa.Held Go.Proofs.Ytinclijbmjaccaa.HeldCalls

theorem scan_held (w : World) : Calls Try.prog 8 #[.string heldS] w fun e w' => ∃ g cap, e = .returned (.tuple #[.slice (some ⟨g, 0, none⟩) 1 cap, .int .i64 0]) ∧ 1 ≤ cap ∧ cap ≤ maxLen ∧ g < w'.heap.size ∧ PlIn w' g [⟨0, 1, 0, 12, sumAb⟩] ∧ Below w.heap.size w w' := by
  refine (scan_any heldS w).mono ?_
  rintro e w' ⟨v, rfl, hown, hb⟩
  rw [held_scan] at hown
  rw [mayF_t size_heldS]
  obtain ⟨g, cap, rfl, h1, h2, _, h3, h4⟩ := ownsP_form hown (by decide)
  exact ⟨g, cap, rfl, h1, h2, h3, h4, hb⟩
theorem free_held (w : World) : Calls Try.prog 10 #[.string heldS, .int .i64 0] w fun e w' => e = .returned (.tuple #[.int .i64 24, .bool true, .int .i64 0]) ∧ w' = w := by
  have h := free_any heldS 0 w
  rw [held_free.1, held_free.2, held_freeOk] at h
  exact h
theorem free_held2 (w : World) : Calls Try.prog 10 #[.string heldS, .int .i64 2] w fun e w' => e = .returned (.tuple #[.int .i64 0, .bool false, .int .i64 500]) ∧ w' = w := free_refused heldS 2 w held_freeNo
theorem scan_empty (w : World) : Calls Try.prog 8 #[.string ⟨#[]⟩] w fun e w' => e = .returned (.tuple #[.slice none 0 0, .int .i64 500]) ∧ w' = w := JouWalk.scan_no ⟨#[]⟩ w (by decide)
theorem one_in {w : World} {g : Nat} {M : Int} (h : PlIn w g [⟨0, 1, 0, 12, M⟩]) : w.cell? ⟨g, 0, none⟩ = some (.int .i64 0) ∧ w.cell? ⟨g, 1, none⟩ = some (.int .i64 1) ∧ w.cell? ⟨g, 3, none⟩ = some (.int .i64 12) :=
  ⟨h.pa 0 Nat.one_pos, h.pq 0 Nat.one_pos, h.pz 0 Nat.one_pos⟩
set_option maxHeartbeats 2000000 in
theorem awake_any (w : World) : Calls Try.prog 15 #[] w fun e w' => e = .returned (.bool true) ∧ Below w.heap.size w w' := by
  have hB : Below w.heap.size w w := Below.refl _ _
  have C1 := hide (fun w => held5_any w)
  have C2 := hide (fun w => scan_held w)
  have C3 := hide (fun w => free_held w)
  have C4 := hide (fun w => free_held2 w)
  have C5 := hide (fun w => scan_empty w)
  generalize sumAb = M at *
  generalize heldS = F at *
  go_enter Try.func15, Try.ntmps15
  go_wp2_with fail
  refine (C1.out _).mono ?_; rintro e w1 ⟨rfl, hb⟩; replace hB := thenB hB hb; clear hb
  go_wp2_with fail
  refine (C2.out _).mono ?_; rintro e w2 ⟨g, cap, rfl, hc1, hc2, hg, hin, hb⟩; replace hB := thenB hB hb; clear hb
  go_wp2_with fail
  refine (C1.out _).mono ?_; rintro e w3 ⟨rfl, hb⟩; replace hB := thenB hB hb; replace hin := hin.below hb hg; replace hg := Nat.lt_of_lt_of_le hg hb.size; clear hb
  go_wp2_with fail
  refine (C3.out _).mono ?_; rintro e w4 ⟨rfl, rfl⟩
  go_wp2_with fail
  refine (C1.out _).mono ?_; rintro e w5 ⟨rfl, hb⟩; replace hB := thenB hB hb; replace hin := hin.below hb hg; replace hg := Nat.lt_of_lt_of_le hg hb.size; clear hb
  go_wp2_with fail
  refine (C4.out _).mono ?_; rintro e w6 ⟨rfl, rfl⟩
  go_wp2_with fail
  refine (C5.out _).mono ?_; rintro e w7 ⟨rfl, rfl⟩
  obtain ⟨c0, c1, c2⟩ := one_in hin
  go_wp2_with (go_at_call 13; refine (numJ_any _ _).mono ?_; rintro e w' ⟨rfl, rfl⟩)
  go_ret
  exact ⟨rfl, hB⟩
end Go.Proofs.Ytinclijbmjaccaa.JouAwake
