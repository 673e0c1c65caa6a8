/- The contract of 'sent' of the laws over ticks and statuses: a device that took a block of a blank flash. -/
import Derived.Test.YthdnpgkoanfijaaDnlAwake
namespace Go.Proofs.Ythdnpgkoanfijaa.TicSent
open Go.Proofs.Ythdnpgkoanfijaa Go.RowKit Go.Proofs.Ythdnpgkoanfijaa.Bytes Go.Proofs.Ythdnpgkoanfijaa.Nor Go.Proofs.Ythdnpgkoanfijaa.Ops Go.Proofs.Ythdnpgkoanfijaa.OpsRow Go.Proofs.Ythdnpgkoanfijaa.Dev Go.Proofs.Ythdnpgkoanfijaa.DevRow Go.Proofs.Ythdnpgkoanfijaa.DevSet Go.Proofs.Ythdnpgkoanfijaa.Dnl Go.Proofs.Ythdnpgkoanfijaa.DnlAwake
open Go.Proofs.Ythdnpgkoanfijaa.DevAwake (hal)
set_option maxRecDepth 100000 in
set_option maxHeartbeats 1000000 in
theorem sent19_any (w : World) : Calls Try.prog 16 #[] w fun r w' => ∃ a c, r = .returned (.agg #[.int .i64 1, .int .i64 0, .int .i64 1, .int .i64 32, .int .i64 0, .slice a 11 c]) ∧ IsSt w' (.slice a 11 c) sentL ∧ Below w.heap.size w w' := by
  have HD := hide down_sent
  have hR := resM w (.int .i64 0) (.int .i64 0) (.int .i64 0) (.int .i64 0) (.int .i64 0) (.slice none 0 0) 24
  have hB := (Below.refl w.heap.size w).alloc (Nat.le_refl _) (.cells #[.int .i64 0, .int .i64 0, .int .i64 0, .int .i64 0, .int .i64 0, .slice none 0 0] 24)
  go_enter Try.func16, Try.ntmps16
  go_wp2_with (first | (go_at_call 15; refine (NorRef.refBlank_any _).mono ?_; rintro e w' ⟨rfl, hb⟩; replace hB := thenB hB hb; replace hR := resB hR hb; clear hb) | (go_at_call 32; refine (DevRef.newRef_any _).mono ?_; rintro e w' ⟨rfl, hb⟩; replace hB := thenB hB hb; replace hR := resB hR hb; clear hb))
  refine (HD.out _).mono ?_
  rintro e w2 ⟨a, c, rfl, hI, hb⟩
  replace hB := thenB hB hb
  replace hI := owns_mono hI (Nat.succ_le_of_lt hR.1)
  replace hR := resB hR hb
  clear hb
  have hn := hal w2 (.cells #[.int .i64 1, .int .i64 0, .int .i64 1, .int .i64 32, .int .i64 0, .slice a 11 c] 24)
  replace hB := thenB hB hn
  replace hR := resB hR hn
  replace hI := owns_below hI hn
  clear hn
  go_wp2_with fail
  exact bodyPost_ret (v := .agg #[.int .i64 1, .int .i64 0, .int .i64 1, .int .i64 32, .int .i64 0, .slice a 11 c]) (by simp [results, Try.results16, go_sem, hR]) rfl ⟨a, c, rfl, ownsS_is (own6 hI (Nat.lt_succ_self _) _ _ _ _ _ _), set6 hB (Nat.le_refl _)⟩
end Go.Proofs.Ythdnpgkoanfijaa.TicSent
