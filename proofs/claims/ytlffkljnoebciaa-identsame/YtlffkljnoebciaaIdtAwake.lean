/- The contract of 'awake' of the laws over package ident, which asks what is known of a few numbers: it answers true. -/
import Derived.Test.YtlffkljnoebciaaIdtWalk
namespace Go.Proofs.Ytlffkljnoebciaa.IdtAwake
open Go.Proofs.Ytlffkljnoebciaa Go.RowKit Go.Proofs.Ytlffkljnoebciaa.Bytes Go.Proofs.Ytlffkljnoebciaa.NorWalk Go.Proofs.Ytlffkljnoebciaa.Suf Go.Proofs.Ytlffkljnoebciaa.Idt Go.Proofs.Ytlffkljnoebciaa.IdtWalk
open Go.Proofs.Ytlffkljnoebciaa.OpsRow (boxM boxB boxD thenD)

theorem build_ids (v p r : Int) (w : World) : (Instr.build 23 #[(0, .int .i64 v), (1, .int .i64 p), (2, .int .i64 r)]).run Try.prog w = .ok (.agg #[.int .i64 v, .int .i64 p, .int .i64 r]) w := run_build w 23 _ _ (by kernel_rfl)
theorem build_v (v : Int) (w : World) : (Instr.build 23 #[(0, .int .i64 v)]).run Try.prog w = .ok (.agg #[.int .i64 v, .int .i64 0, .int .i64 0]) w := run_build w 23 _ _ (by kernel_rfl)
theorem build_p (v : Int) (w : World) : (Instr.build 23 #[(1, .int .i64 v)]).run Try.prog w = .ok (.agg #[.int .i64 0, .int .i64 v, .int .i64 0]) w := run_build w 23 _ _ (by kernel_rfl)
theorem build_r (v : Int) (w : World) : (Instr.build 23 #[(2, .int .i64 v)]).run Try.prog w = .ok (.agg #[.int .i64 0, .int .i64 0, .int .i64 v]) w := run_build w 23 _ _ (by kernel_rfl)
set_option maxRecDepth 100000 in
set_option maxHeartbeats 1000000 in
theorem awake_any (w : World) : Calls Try.prog 12 #[] w fun e w' => e = .returned (.bool true) ∧ Below w.heap.size w w' := by
  have b1 := build_ids
  have b2 := build_v
  have hB := (Below.refl w.heap.size w).alloc (Nat.le_refl _) (.cells #[.int .i64 3, .int .i64 65535, .int .i64 7] 23)
  have hX := boxM w (.int .i64 3) (.int .i64 65535) (.int .i64 7) 23
  have h1 : mtB 3 65535 7 3 9 7 = true := by decide
  have h2 : mtB 3 9 7 3 65535 7 = false := by decide
  have h3 : mtB 3 65535 7 (-1) 0 0 = false := by decide
  have m1 : mtOk 3 65535 7 3 9 7 = true := by decide
  have m2 : mtOk 3 9 7 3 65535 7 = true := by decide
  have m3 : mtOk 3 65535 7 (-1) 0 0 = false := by decide
  have i1 : idsB 3 65535 7 = true := by decide
  have e1 : errM true = 0 := rfl
  have e2 : errM false = 1200 := rfl
  go_enter Try.func12, Try.ntmps12
  go_wp2_with (first | (go_at_call 7; refine (match_any _ _ _ _ _ _ _).mono ?_; rintro e w' ⟨rfl, hb⟩; replace hB := hB.trans (hb.mono hB.size); replace hX := boxB hX hb; clear hb) | (go_at_call 10; refine (imay_any _ _ _ _).mono ?_; rintro e w' ⟨rfl, hb⟩; replace hB := hB.trans (hb.mono hB.size); replace hX := boxB hX hb; clear hb) | (go_at_call 9; refine (num_any _ _).mono ?_; rintro e w' ⟨rfl, rfl⟩))
  go_ret
  exact ⟨rfl, hB⟩
end Go.Proofs.Ytlffkljnoebciaa.IdtAwake
