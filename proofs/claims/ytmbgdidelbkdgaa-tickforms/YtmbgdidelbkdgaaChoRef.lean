/- The contract of the document's own other slot. -/
import Derived.Test.YtmbgdidelbkdgaaBagCho
import Derived.Test.YtmbgdidelbkdgaaBagAct
namespace Go.Proofs.Ytmbgdidelbkdgaa.ChoRef
open Go.Proofs.Ytmbgdidelbkdgaa Go.RowKit Go.Proofs.Ytmbgdidelbkdgaa.Bytes Go.Proofs.Ytmbgdidelbkdgaa.Jou Go.Proofs.Ytmbgdidelbkdgaa.Act Go.Proofs.Ytmbgdidelbkdgaa.ActNext Go.Proofs.Ytmbgdidelbkdgaa.Cho

set_option maxHeartbeats 400000 in
theorem refOther_any (f : ByteArray) (w : World) : Calls Try.prog 63 #[.string f] w fun e w' => e = .returned (.tuple #[.int .i64 (othI f), .int .i64 (errOt f)]) ∧ Below w.heap.size w w' := by
  have HA := hide (fun w => refActive_any f w)
  rcases three f with ⟨_, _, _, h1, h2, h3⟩ | ⟨_, _, _, h1, h2, h3⟩ | ⟨_, h0, h1, h2, h3⟩
  · rw [h1] at HA
    rw [h2, h3]
    clear h1 h2 h3
    generalize actV f = p at *
    go_enter Try.func63, Try.ntmps63
    go_wp2_with (go_at_call 71; refine (HA.out _).mono ?_; rintro e w' ⟨rfl, hb⟩)
    go_ret2
    exact ⟨rfl, hb.alloc hb.size _⟩
  · rw [h1] at HA
    rw [h2, h3]
    clear h1 h2 h3
    generalize actV f = p at *
    go_enter Try.func63, Try.ntmps63
    go_wp2_with (go_at_call 71; refine (HA.out _).mono ?_; rintro e w' ⟨rfl, hb⟩)
    go_ret2
    exact ⟨rfl, hb.alloc hb.size _⟩
  · have hs := act_slot h0
    rw [h1] at HA
    rw [h2, h3]
    clear h0 h1 h2 h3
    generalize actV f = p at *
    have g0 : 0 ≤ p.pt := by omega
    have g1 : p.pt ≤ 1 := by omega
    clear hs
    generalize p.pt = T at *
    go_enter Try.func63, Try.ntmps63
    go_wp2_with (go_at_call 71; refine (HA.out _).mono ?_; rintro e w' ⟨rfl, hb⟩)
    go_ret2
    exact ⟨rfl, hb.alloc hb.size _⟩
end Go.Proofs.Ytmbgdidelbkdgaa.ChoRef
