/- The contract of 'awake' of the laws over package table, which asks what is known of a few answers: it answers true. -/
import Derived.Test.YtnlhjpkhhkfijaaDoorTabWalk
namespace Go.Proofs.YtnlhjpkhhkfijaaDoor.TabAwake
open Go.Proofs.YtnlhjpkhhkfijaaDoor Go.RowKit Go.Proofs.YtnlhjpkhhkfijaaDoor.Bytes Go.Proofs.YtnlhjpkhhkfijaaDoor.NorWalk Go.Proofs.YtnlhjpkhhkfijaaDoor.Tab Go.Proofs.YtnlhjpkhhkfijaaDoor.TabLaid Go.Proofs.YtnlhjpkhhkfijaaDoor.TabWalk

theorem num_any (n : Int) (w : World) : Calls Tryd.prog 8 #[.int .i64 n] w fun e w' => e = .returned (.int .i64 n) ∧ w' = w := AnsWalk.num_any n w
theorem t1 : tabB 3 1 = true ∧ errT (tokB 3 1) = 0 := by decide
theorem t2 : tabB 2 1 = false ∧ errT (tokB 2 1) = 0 := by decide
theorem t3 : tabB 8 0 = false ∧ errT (tokB 8 0) = 1500 := by decide
theorem c1 (w : World) (hT : TabAt w) : Calls Tryd.prog 6 #[.int .i64 3, .int .i64 1] w fun e w' => e = .returned (.tuple #[.bool true, .int .i64 0]) ∧ Below w.heap.size w w' := by
  have h := allowed_any 3 1 w hT
  rw [t1.1, t1.2] at h
  exact h
theorem c2 (w : World) (hT : TabAt w) : Calls Tryd.prog 6 #[.int .i64 2, .int .i64 1] w fun e w' => e = .returned (.tuple #[.bool false, .int .i64 0]) ∧ Below w.heap.size w w' := by
  have h := allowed_any 2 1 w hT
  rw [t2.1, t2.2] at h
  exact h
theorem c3 (w : World) (hT : TabAt w) : Calls Tryd.prog 6 #[.int .i64 8, .int .i64 0] w fun e w' => e = .returned (.tuple #[.bool false, .int .i64 1500]) ∧ Below w.heap.size w w' := by
  have h := allowed_any 8 0 w hT
  rw [t3.1, t3.2] at h
  exact h
set_option maxRecDepth 100000 in
set_option maxHeartbeats 1000000 in
theorem awake_any (w : World) (hT : TabAt w) : Calls Tryd.prog 9 #[] w fun e w' => e = .returned (.bool true) ∧ Below w.heap.size w w' := by
  have hB := Below.refl w.heap.size w
  have HT := hide hT
  clear hT
  go_enter Tryd.func9, Tryd.ntmps9
  go_upto_region 2 with (go_at_call 6; refine (c1 _ HT.out).mono ?_; rintro e w1 ⟨rfl, hb⟩; replace hB := thenB hB hb; clear hb)
  go_upto_region 3 with (go_at_call 6; refine (c2 _ (HT.out.below hB)).mono ?_; rintro e w2 ⟨rfl, hb⟩; replace hB := thenB hB hb; clear hb)
  go_upto_region 4 with (go_at_call 6; refine (c3 _ (HT.out.below hB)).mono ?_; rintro e w3 ⟨rfl, hb⟩; replace hB := thenB hB hb; clear hb)
  go_wp2_with (go_at_call 8; refine (num_any _ _).mono ?_; rintro e w' ⟨rfl, rfl⟩)
  go_ret
  exact ⟨rfl, hB⟩
end Go.Proofs.YtnlhjpkhhkfijaaDoor.TabAwake
