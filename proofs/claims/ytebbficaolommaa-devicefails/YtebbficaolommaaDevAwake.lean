/- The contract of 'awake' of the laws over package device, which asks what is known of a few devices: it answers true. -/
import Derived.Test.YtebbficaolommaaDevFail
import Derived.Test.YtebbficaolommaaDevHelp
namespace Go.Proofs.Ytebbficaolommaa.DevAwake
open Go.Proofs.Ytebbficaolommaa Go.RowKit Go.Proofs.Ytebbficaolommaa.Bytes Go.Proofs.Ytebbficaolommaa.Ops Go.Proofs.Ytebbficaolommaa.Dev Go.Proofs.Ytebbficaolommaa.DevRow Go.Proofs.Ytebbficaolommaa.DevWalk Go.Proofs.Ytebbficaolommaa.DevFail Go.Proofs.Ytebbficaolommaa.DevHelp

theorem build_x (x : Int) (w : World) : (Instr.build 24 #[(2, .int .i64 x)]).run Try.prog w = .ok (.agg #[.int .i64 0, .int .i64 0, .int .i64 x, .int .i64 0, .int .i64 0, .slice none 0 0]) w := run_build w 24 _ _ (by kernel_rfl)
theorem build_l (x : Int) (w : World) : (Instr.build 24 #[(4, .int .i64 x)]).run Try.prog w = .ok (.agg #[.int .i64 0, .int .i64 0, .int .i64 0, .int .i64 0, .int .i64 x, .slice none 0 0]) w := run_build w 24 _ _ (by kernel_rfl)
/-- Devices without steps: no memory is asked of. -/
theorem fail_bare {sa su nx gt sl s : Int} {o : Bool} (h : failB ⟨sa, su, nx, gt, sl, []⟩ s = o) (w : World) : Calls Try.prog 8 #[.agg #[.int .i64 sa, .int .i64 su, .int .i64 nx, .int .i64 gt, .int .i64 sl, .slice none 0 0], .int .i64 s] w fun r w' => r = .returned (.tuple #[.agg #[.int .i64 (faSa o), .int .i64 (faSu o s), .int .i64 0, .int .i64 0, .int .i64 0, .slice none 0 0], .int .i64 (errD o)]) ∧ Below w.heap.size w w' := by
  have g := fail_any ⟨sa, su, nx, gt, sl, []⟩ (.slice none 0 0) s w (isSt_nil w)
  rw [h] at g
  exact g
theorem may_bare {sa su nx gt sl : Int} {o : Bool} (h : devB ⟨sa, su, nx, gt, sl, []⟩ = o) (w : World) : Calls Try.prog 12 #[.agg #[.int .i64 sa, .int .i64 su, .int .i64 nx, .int .i64 gt, .int .i64 sl, .slice none 0 0]] w fun r w' => r = .returned (.bool o) ∧ Below w.heap.size w w' := by
  have g := dmay_any ⟨sa, su, nx, gt, sl, []⟩ (.slice none 0 0) w (isSt_nil w)
  rw [h] at g
  exact g
theorem same_bare (sa su nx gt sl : Int) (w : World) : Calls Try.prog 10 #[.agg #[.int .i64 sa, .int .i64 su, .int .i64 nx, .int .i64 gt, .int .i64 sl, .slice none 0 0], .agg #[.int .i64 sa, .int .i64 su, .int .i64 nx, .int .i64 gt, .int .i64 sl, .slice none 0 0]] w fun r w' => r = .returned (.bool true) ∧ Below w.heap.size w w' :=
  sameDev_yes ⟨sa, su, nx, gt, sl, []⟩ _ _ w (isSt_nil w) (isSt_nil w)
theorem hal (w : World) (o : Obj) : Below w.heap.size w (w.alloc o) := (Below.refl _ _).alloc (Nat.le_refl _) _
theorem c1 (w : World) : Calls Try.prog 8 #[.agg #[.int .i64 0, .int .i64 0, .int .i64 3, .int .i64 0, .int .i64 0, .slice none 0 0], .int .i64 3] w fun r w' => r = .returned (.tuple #[.agg #[.int .i64 7, .int .i64 3, .int .i64 0, .int .i64 0, .int .i64 0, .slice none 0 0], .int .i64 0]) ∧ Below w.heap.size w w' := fail_bare (o := true) rfl w
theorem c2 (w : World) : Calls Try.prog 8 #[.agg #[.int .i64 0, .int .i64 0, .int .i64 0, .int .i64 0, .int .i64 0, .slice none 0 0], .int .i64 0] w fun r w' => r = .returned (.tuple #[.agg #[.int .i64 0, .int .i64 0, .int .i64 0, .int .i64 0, .int .i64 0, .slice none 0 0], .int .i64 1600]) ∧ Below w.heap.size w w' := fail_bare (o := false) rfl w
theorem m1 : devB ⟨7, 3, 0, 0, 0, []⟩ = true := rfl
theorem m2 : devB ⟨0, 0, 0, 0, 2, []⟩ = false := rfl
set_option maxRecDepth 100000 in
set_option maxHeartbeats 2000000 in
theorem awake_any (w : World) : Calls Try.prog 16 #[] w fun e w' => e = .returned (.bool true) ∧ Below w.heap.size w w' := by
  have b1 := build_x
  have b2 := build_l
  have b3 := build_d0
  have b4 := build_d2
  have i1 := m1
  have i2 := m2
  have hB := Below.refl w.heap.size w
  go_enter Try.func16, Try.ntmps16
  go_wp2_with fail
  refine (c1 _).mono ?_; rintro e u1 ⟨rfl, hb⟩; replace hB := thenB hB hb; clear hb
  have hX := sixM u1 (.int .i64 7) (.int .i64 3) (.int .i64 0) (.int .i64 0) (.int .i64 0) (.slice none 0 0) 24
  replace hB := hB.alloc hB.size (.cells #[.int .i64 7, .int .i64 3, .int .i64 0, .int .i64 0, .int .i64 0, .slice none 0 0] 24)
  go_wp2_with fail
  generalize u1.alloc (.cells #[.int .i64 7, .int .i64 3, .int .i64 0, .int .i64 0, .int .i64 0, .slice none 0 0] 24) = W at *
  generalize u1.heap.size = G at *
  refine (c2 _).mono ?_; rintro e u2 ⟨rfl, hb⟩; replace hB := thenB hB hb; replace hX := sixB hX hb; clear hb
  replace hX := sixB hX (hal u2 (.cells #[.int .i64 0, .int .i64 0, .int .i64 0, .int .i64 0, .int .i64 0, .slice none 0 0] 24))
  replace hB := hB.alloc hB.size (.cells #[.int .i64 0, .int .i64 0, .int .i64 0, .int .i64 0, .int .i64 0, .slice none 0 0] 24)
  go_wp2_with (first | (go_at_call 11; refine (num_any _ _).mono ?_; rintro e w' ⟨rfl, rfl⟩) | (go_at_call 14; refine (new_any _).mono ?_; rintro e w' ⟨rfl, hb⟩; replace hB := thenB hB hb; replace hX := sixB hX hb; clear hb) | (go_at_call 10; refine (same_bare _ _ _ _ _ _).mono ?_; rintro e w' ⟨rfl, hb⟩; replace hB := thenB hB hb; replace hX := sixB hX hb; clear hb) | (go_at_call 12; refine (may_bare rfl _).mono ?_; rintro e w' ⟨rfl, hb⟩; replace hB := thenB hB hb; replace hX := sixB hX hb; clear hb))
  go_ret
  exact ⟨rfl, hB⟩
end Go.Proofs.Ytebbficaolommaa.DevAwake
