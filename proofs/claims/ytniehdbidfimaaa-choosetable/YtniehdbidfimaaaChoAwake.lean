/- The contract of 'awake' of the laws over package choose, which asks what is known of the flash of one record, of a blank one and of none: it answers true. -/
import Derived.Test.YtniehdbidfimaaaHeldCalls
import Derived.Test.YtniehdbidfimaaaChoWalk
namespace Go.Proofs.Ytniehdbidfimaaa.ChoAwake
open Go.Proofs.Ytniehdbidfimaaa Go.RowKit Go.Proofs.Ytniehdbidfimaaa.Bytes Go.Proofs.Ytniehdbidfimaaa.NorWalk Go.Proofs.Ytniehdbidfimaaa.NorRef Go.Proofs.Ytniehdbidfimaaa.Jou Go.Proofs.Ytniehdbidfimaaa.JouRow Go.Proofs.Ytniehdbidfimaaa.JouRef Go.Proofs.Ytniehdbidfimaaa.Act Go.Proofs.Ytniehdbidfimaaa.Held Go.Proofs.Ytniehdbidfimaaa.HeldCalls Go.Proofs.Ytniehdbidfimaaa.Cho Go.Proofs.Ytniehdbidfimaaa.ChoWalk

theorem act_held (w : World) : Calls Try.prog 8 #[.string heldS] w fun e w' => e = .returned (.tuple #[.agg #[.int .i64 0, .int .i64 1, .int .i64 0, .int .i64 12, .int .i64 sumAb], .int .i64 0]) ∧ Below w.heap.size w w' := by
  have h := active_any heldS w
  rw [(act_may held_act).2.1, (act_may held_act).2.2] at h
  exact h
theorem oth_held (w : World) : Calls Try.prog 10 #[.string heldS] w fun e w' => e = .returned (.tuple #[.int .i64 1, .int .i64 0]) ∧ Below w.heap.size w w' := by
  have h := other_any heldS w
  rw [show othI heldS = 1 from by unfold othI; rw [held_act]; rfl, show errOt heldS = 0 from by unfold errOt; rw [mayF_t size_heldS]; rfl] at h
  exact h
theorem act_blank (w : World) : Calls Try.prog 8 #[.string Nor.blankS] w fun e w' => e = .returned (.tuple #[.agg #[.int .i64 0, .int .i64 0, .int .i64 0, .int .i64 0, .int .i64 0], .int .i64 701]) ∧ Below w.heap.size w w' := by
  have h := active_any Nor.blankS w
  rw [blank_act.2.1, blank_act.2.2] at h
  exact h
theorem oth_blank (w : World) : Calls Try.prog 10 #[.string Nor.blankS] w fun e w' => e = .returned (.tuple #[.int .i64 0, .int .i64 0]) ∧ Below w.heap.size w w' := by
  have h := other_any Nor.blankS w
  rw [show othI Nor.blankS = 0 from by unfold othI; rw [blank_act.1], show errOt Nor.blankS = 0 from by unfold errOt; rw [mayF_t Nor.size_blankS]; rfl] at h
  exact h
theorem act_empty (w : World) : Calls Try.prog 8 #[.string ⟨#[]⟩] w fun e w' => e = .returned (.tuple #[.agg #[.int .i64 0, .int .i64 0, .int .i64 0, .int .i64 0, .int .i64 0], .int .i64 700]) ∧ Below w.heap.size w w' := active_no ⟨#[]⟩ w (by decide)
set_option maxHeartbeats 4000000 in
theorem awake_any (w : World) : Calls Try.prog 13 #[] w fun e w' => e = .returned (.bool true) ∧ Below w.heap.size w w' := by
  have hB : Below w.heap.size w w := Below.refl _ _
  have C1 := hide (fun w => held7_any w)
  have C2 := hide (fun w => act_held w)
  have C3 := hide (fun w => oth_held w)
  have C4 := hide (fun w => refBlank_any w)
  have C5 := hide (fun w => act_blank w)
  have C6 := hide (fun w => oth_blank w)
  have C7 := hide (fun w => act_empty w)
  generalize sumAb = M at *
  generalize heldS = F at *
  generalize Nor.blankS = F0 at *
  go_enter Try.func13, Try.ntmps13
  go_wp2_with fail
  refine (C1.out _).mono ?_; rintro e w1 ⟨rfl, hb⟩; replace hB := thenB hB hb; clear hb
  go_wp2_with fail
  refine (C2.out _).mono ?_; rintro e w2 ⟨rfl, hb⟩; replace hB := thenB hB hb; clear hb
  have hX := box5M w2 (.int .i64 0) (.int .i64 1) (.int .i64 0) (.int .i64 12) (.int .i64 M) 25
  replace hB := hB.alloc hB.size (.cells #[.int .i64 0, .int .i64 1, .int .i64 0, .int .i64 12, .int .i64 M] 25)
  go_wp2_with fail
  generalize w2.alloc (.cells #[.int .i64 0, .int .i64 1, .int .i64 0, .int .i64 12, .int .i64 M] 25) = W2 at *
  generalize w2.heap.size = B at *
  refine (C1.out _).mono ?_; rintro e w3 ⟨rfl, hb⟩; replace hB := thenB hB hb; replace hX := box5B hX hb; clear hb
  go_wp2_with fail
  refine (C3.out _).mono ?_; rintro e w4 ⟨rfl, hb⟩; replace hB := thenB hB hb; replace hX := box5B hX hb; clear hb
  go_wp2_with fail
  refine (C4.out _).mono ?_; rintro e w5 ⟨rfl, hb⟩; replace hB := thenB hB hb; replace hX := box5B hX hb; clear hb
  go_wp2_with fail
  refine (C5.out _).mono ?_; rintro e w6 ⟨rfl, hb⟩; replace hB := thenB hB hb; replace hX := box5B hX hb; clear hb
  have hal := (Below.refl w6.heap.size w6).alloc (Nat.le_refl _) (.cells #[.int .i64 0, .int .i64 0, .int .i64 0, .int .i64 0, .int .i64 0] 25)
  replace hB := thenB hB hal
  replace hX := box5B hX hal
  clear hal
  go_wp2_with fail
  generalize w6.alloc (.cells #[.int .i64 0, .int .i64 0, .int .i64 0, .int .i64 0, .int .i64 0] 25) = W6 at *
  refine (C4.out _).mono ?_; rintro e w7 ⟨rfl, hb⟩; replace hB := thenB hB hb; replace hX := box5B hX hb; clear hb
  go_wp2_with fail
  refine (C6.out _).mono ?_; rintro e w8 ⟨rfl, hb⟩; replace hB := thenB hB hb; replace hX := box5B hX hb; clear hb
  go_wp2_with fail
  refine (C7.out _).mono ?_; rintro e w9 ⟨rfl, hb⟩; replace hB := thenB hB hb; replace hX := box5B hX hb; clear hb
  have hal := (Below.refl w9.heap.size w9).alloc (Nat.le_refl _) (.cells #[.int .i64 0, .int .i64 0, .int .i64 0, .int .i64 0, .int .i64 0] 25)
  replace hB := thenB hB hal
  replace hX := box5B hX hal
  clear hal
  go_upto_region 6 with fail
  generalize w9.alloc (.cells #[.int .i64 0, .int .i64 0, .int .i64 0, .int .i64 0, .int .i64 0] 25) = W9 at *
  unfold Box5 at hX
  go_wp2_with (go_at_call 12; refine (numJ_any _ _).mono ?_; rintro e w' ⟨rfl, rfl⟩)
  go_ret
  exact ⟨rfl, hB⟩
end Go.Proofs.Ytniehdbidfimaaa.ChoAwake
