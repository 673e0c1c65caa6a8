/- The contract of the document's own other slot. -/
import Derived.Test.YtmlfkbkpkgaefaaGreatDoorBagCho
import Derived.Test.YtmlfkbkpkgaefaaGreatDoorBagAct
namespace Go.Proofs.YtmlfkbkpkgaefaaGreatDoor.ChoRef
open Go.Proofs.YtmlfkbkpkgaefaaGreatDoor Go.RowKit Go.Proofs.YtmlfkbkpkgaefaaGreatDoor.Bytes Go.Proofs.YtmlfkbkpkgaefaaGreatDoor.Jou Go.Proofs.YtmlfkbkpkgaefaaGreatDoor.Act Go.Proofs.YtmlfkbkpkgaefaaGreatDoor.ActNext Go.Proofs.YtmlfkbkpkgaefaaGreatDoor.Cho

set_option maxHeartbeats 400000 in
theorem refOther_any (f : ByteArray) (w : World) : Calls Tryz.prog 64 #[.string f] w fun e w' => e = .returned (.tuple #[.int .i64 (othI f), .int .i64 (errOt f)]) ∧ Below w.heap.size w w' := by
  have HA := hide (fun w => refActive_any f w)
  rcases three f with ⟨_, _, _, h1, h2, h3⟩ | ⟨_, _, _, h1, h2, h3⟩ | ⟨_, h0, h1, h2, h3⟩
  · rw [h1] at HA
    rw [h2, h3]
    clear h1 h2 h3
    generalize actV f = p at *
    go_enter Tryz.func64, Tryz.ntmps64
    go_wp2_with (go_at_call 48; refine (HA.out _).mono ?_; rintro e w' ⟨rfl, hb⟩)
    go_ret2
    exact ⟨rfl, hb.alloc hb.size _⟩
  · rw [h1] at HA
    rw [h2, h3]
    clear h1 h2 h3
    generalize actV f = p at *
    go_enter Tryz.func64, Tryz.ntmps64
    go_wp2_with (go_at_call 48; refine (HA.out _).mono ?_; rintro e w' ⟨rfl, hb⟩)
    go_ret2
    exact ⟨rfl, hb.alloc hb.size _⟩
  · have hs := act_slot h0
    rw [h1] at HA
    rw [h2, h3]
    clear h0 h1 h2 h3
    generalize actV f = p at *
    have g0 : 0 ≤ p.pt := by omega
    have g1 : p.pt ≤ 1 := by omega
    clear hs
    generalize p.pt = T at *
    go_enter Tryz.func64, Tryz.ntmps64
    go_wp2_with (go_at_call 48; refine (HA.out _).mono ?_; rintro e w' ⟨rfl, hb⟩)
    go_ret2
    exact ⟨rfl, hb.alloc hb.size _⟩
end Go.Proofs.YtmlfkbkpkgaefaaGreatDoor.ChoRef
