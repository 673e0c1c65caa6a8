/- The contract of the document's own other slot. -/
import Derived.Test.YthdnpgkoanfijaaBagCho
import Derived.Test.YthdnpgkoanfijaaBagAct
namespace Go.Proofs.Ythdnpgkoanfijaa.ChoRef
open Go.Proofs.Ythdnpgkoanfijaa Go.RowKit Go.Proofs.Ythdnpgkoanfijaa.Bytes Go.Proofs.Ythdnpgkoanfijaa.Jou Go.Proofs.Ythdnpgkoanfijaa.Act Go.Proofs.Ythdnpgkoanfijaa.ActNext Go.Proofs.Ythdnpgkoanfijaa.Cho

set_option maxHeartbeats 400000 in
theorem refOther_any (f : ByteArray) (w : World) : Calls Try.prog 49 #[.string f] w fun e w' => e = .returned (.tuple #[.int .i64 (othI f), .int .i64 (errOt f)]) ∧ Below w.heap.size w w' := by
  have HA := hide (fun w => refActive_any f w)
  rcases three f with ⟨_, _, _, h1, h2, h3⟩ | ⟨_, _, _, h1, h2, h3⟩ | ⟨_, h0, h1, h2, h3⟩
  · rw [h1] at HA
    rw [h2, h3]
    clear h1 h2 h3
    generalize actV f = p at *
    go_enter Try.func49, Try.ntmps49
    go_wp2_with (go_at_call 38; refine (HA.out _).mono ?_; rintro e w' ⟨rfl, hb⟩)
    go_ret2
    exact ⟨rfl, hb.alloc hb.size _⟩
  · rw [h1] at HA
    rw [h2, h3]
    clear h1 h2 h3
    generalize actV f = p at *
    go_enter Try.func49, Try.ntmps49
    go_wp2_with (go_at_call 38; refine (HA.out _).mono ?_; rintro e w' ⟨rfl, hb⟩)
    go_ret2
    exact ⟨rfl, hb.alloc hb.size _⟩
  · have hs := act_slot h0
    rw [h1] at HA
    rw [h2, h3]
    clear h0 h1 h2 h3
    generalize actV f = p at *
    have g0 : 0 ≤ p.pt := by omega
    have g1 : p.pt ≤ 1 := by omega
    clear hs
    generalize p.pt = T at *
    go_enter Try.func49, Try.ntmps49
    go_wp2_with (go_at_call 38; refine (HA.out _).mono ?_; rintro e w' ⟨rfl, hb⟩)
    go_ret2
    exact ⟨rfl, hb.alloc hb.size _⟩
end Go.Proofs.Ythdnpgkoanfijaa.ChoRef
