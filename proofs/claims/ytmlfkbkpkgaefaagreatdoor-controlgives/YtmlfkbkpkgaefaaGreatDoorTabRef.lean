/- The contract of the document's own answer to package table: it returns what the same plain functions give. -/
import Derived.Test.YtmlfkbkpkgaefaaGreatDoorBagDoc
import Derived.Test.YtmlfkbkpkgaefaaGreatDoorBagTab
namespace Go.Proofs.YtmlfkbkpkgaefaaGreatDoor.TabRef
open Go.Proofs.YtmlfkbkpkgaefaaGreatDoor Go.RowKit Go.Proofs.YtmlfkbkpkgaefaaGreatDoor.Bytes Go.Proofs.YtmlfkbkpkgaefaaGreatDoor.NorWalk Go.Proofs.YtmlfkbkpkgaefaaGreatDoor.NorRef Go.Proofs.YtmlfkbkpkgaefaaGreatDoor.Ans Go.Proofs.YtmlfkbkpkgaefaaGreatDoor.AnsRef Go.Proofs.YtmlfkbkpkgaefaaGreatDoor.Tab

theorem ref_ways (s c : Int) : (saB s = false ∧ tokB s c = false) ∨ (saB s = true ∧ upToB c 0 6 = false ∧ tokB s c = false) ∨ (saB s = true ∧ upToB c 0 6 = true ∧ (0 ≤ s ∧ s ≤ 7) ∧ (0 ≤ c ∧ c ≤ 6) ∧ tokB s c = true) := by
  unfold saB upToB tokB
  simp only [decide_eq_true_eq, decide_eq_false_iff_not]
  omega
theorem li_0 (s : Int) : liB s 0 = false := by simp [liB, inTo, tabL]
set_option maxRecDepth 100000 in
set_option maxHeartbeats 4000000 in
theorem refAllowed_any (s c : Int) (w : World) : Calls Tryz.prog 15 #[.int .i64 s, .int .i64 c] w fun e w' => e = .returned (.tuple #[.bool (tabB s c), .int .i64 (errT (tokB s c))]) ∧ w' = w := by
  have C1 := hide fun w => refState_any s w
  have C2 := hide fun w => upTo_any c 0 6 w
  rcases ref_ways s c with ⟨h1, h3⟩ | ⟨h1, h2, h3⟩ | ⟨h1, h2, h4, h5, h3⟩
  · rw [tab_no h3, h3, errT_f]
    rw [h1] at C1
    clear C2 h1 h3
    go_enter Tryz.func15, Tryz.ntmps15
    go_wp2_with (go_at_call 38; refine (C1.out _).mono ?_; rintro e w' ⟨rfl, rfl⟩)
    go_ret2
    exact ⟨rfl, rfl⟩
  · rw [tab_no h3, h3, errT_f]
    rw [h1] at C1
    rw [h2] at C2
    clear h1 h2 h3
    go_enter Tryz.func15, Tryz.ntmps15
    go_wp2_with (first | (go_at_call 38; refine (C1.out _).mono ?_; rintro e w' ⟨rfl, rfl⟩) | (go_at_call 39; refine (C2.out _).mono ?_; rintro e w' ⟨rfl, rfl⟩))
    go_ret2
    exact ⟨rfl, rfl⟩
  · have HP : tabB s c = (alB c || liB s c) := by unfold tabB; rw [h3]; rfl
    rw [h3, errT_t, HP]
    rw [h1] at C1
    rw [h2] at C2
    clear h1 h2 h3 HP
    have HS := hide (states h4.1 h4.2)
    clear h4
    rcases codes h5.1 h5.2 with rfl | rfl | rfl | rfl | rfl | rfl | rfl
    · clear h5 HS
      rw [li_0]
      go_enter Tryz.func15, Tryz.ntmps15
      go_wp2_with (first | (go_at_call 38; refine (C1.out _).mono ?_; rintro e w' ⟨rfl, rfl⟩) | (go_at_call 39; refine (C2.out _).mono ?_; rintro e w' ⟨rfl, rfl⟩))
      go_ret2
      exact ⟨rfl, rfl⟩
    · clear h5
      rcases HS.out with rfl | rfl | rfl | rfl | rfl | rfl | rfl | rfl
      all_goals
        clear HS
        go_enter Tryz.func15, Tryz.ntmps15
        go_wp2_with (first | (go_at_call 38; refine (C1.out _).mono ?_; rintro e w' ⟨rfl, rfl⟩) | (go_at_call 39; refine (C2.out _).mono ?_; rintro e w' ⟨rfl, rfl⟩))
        go_ret2
        exact ⟨rfl, rfl⟩
    · clear h5
      rcases HS.out with rfl | rfl | rfl | rfl | rfl | rfl | rfl | rfl
      all_goals
        clear HS
        go_enter Tryz.func15, Tryz.ntmps15
        go_wp2_with (first | (go_at_call 38; refine (C1.out _).mono ?_; rintro e w' ⟨rfl, rfl⟩) | (go_at_call 39; refine (C2.out _).mono ?_; rintro e w' ⟨rfl, rfl⟩))
        go_ret2
        exact ⟨rfl, rfl⟩
    · clear h5 HS
      go_enter Tryz.func15, Tryz.ntmps15
      go_wp2_with (first | (go_at_call 38; refine (C1.out _).mono ?_; rintro e w' ⟨rfl, rfl⟩) | (go_at_call 39; refine (C2.out _).mono ?_; rintro e w' ⟨rfl, rfl⟩))
      go_ret2
      exact ⟨rfl, rfl⟩
    · clear h5
      rcases HS.out with rfl | rfl | rfl | rfl | rfl | rfl | rfl | rfl
      all_goals
        clear HS
        go_enter Tryz.func15, Tryz.ntmps15
        go_wp2_with (first | (go_at_call 38; refine (C1.out _).mono ?_; rintro e w' ⟨rfl, rfl⟩) | (go_at_call 39; refine (C2.out _).mono ?_; rintro e w' ⟨rfl, rfl⟩))
        go_ret2
        exact ⟨rfl, rfl⟩
    · clear h5 HS
      go_enter Tryz.func15, Tryz.ntmps15
      go_wp2_with (first | (go_at_call 38; refine (C1.out _).mono ?_; rintro e w' ⟨rfl, rfl⟩) | (go_at_call 39; refine (C2.out _).mono ?_; rintro e w' ⟨rfl, rfl⟩))
      go_ret2
      exact ⟨rfl, rfl⟩
    · clear h5
      rcases HS.out with rfl | rfl | rfl | rfl | rfl | rfl | rfl | rfl
      all_goals
        clear HS
        go_enter Tryz.func15, Tryz.ntmps15
        go_wp2_with (first | (go_at_call 38; refine (C1.out _).mono ?_; rintro e w' ⟨rfl, rfl⟩) | (go_at_call 39; refine (C2.out _).mono ?_; rintro e w' ⟨rfl, rfl⟩))
        go_ret2
        exact ⟨rfl, rfl⟩
end Go.Proofs.YtmlfkbkpkgaefaaGreatDoor.TabRef
