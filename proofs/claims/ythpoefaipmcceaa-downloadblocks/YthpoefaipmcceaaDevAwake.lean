/- The contract of 'awake' of the laws over package device, which asks what is known of a few devices: it answers true. -/
import Derived.Test.YthpoefaipmcceaaDevFail
import Derived.Test.YthpoefaipmcceaaDevHelp
namespace Go.Proofs.Ythpoefaipmcceaa.DevAwake
open Go.Proofs.Ythpoefaipmcceaa Go.RowKit Go.Proofs.Ythpoefaipmcceaa.Bytes Go.Proofs.Ythpoefaipmcceaa.Ops Go.Proofs.Ythpoefaipmcceaa.Dev Go.Proofs.Ythpoefaipmcceaa.DevRow Go.Proofs.Ythpoefaipmcceaa.DevWalk Go.Proofs.Ythpoefaipmcceaa.DevFail Go.Proofs.Ythpoefaipmcceaa.DevHelp

theorem build_x (x : Int) (w : World) : (Instr.build 24 #[(2, .int .i64 x)]).run Try.prog w = .ok (.agg #[.int .i64 0, .int .i64 0, .int .i64 x, .int .i64 0, .int .i64 0, .slice none 0 0]) w := run_build w 24 _ _ (by kernel_rfl)
theorem build_l (x : Int) (w : World) : (Instr.build 24 #[(4, .int .i64 x)]).run Try.prog w = .ok (.agg #[.int .i64 0, .int .i64 0, .int .i64 0, .int .i64 0, .int .i64 x, .slice none 0 0]) w := run_build w 24 _ _ (by kernel_rfl)
/-- Devices without steps: no memory is asked of. -/
theorem fail_bare {sa su nx gt sl s : Int} {o : Bool} (h : failB ⟨sa, su, nx, gt, sl, []⟩ s = o) (w : World) : Calls Try.prog 40 #[.agg #[.int .i64 sa, .int .i64 su, .int .i64 nx, .int .i64 gt, .int .i64 sl, .slice none 0 0], .int .i64 s] w fun r w' => r = .returned (.tuple #[.agg #[.int .i64 (faSa o), .int .i64 (faSu o s), .int .i64 0, .int .i64 0, .int .i64 0, .slice none 0 0], .int .i64 (errD o)]) ∧ Below w.heap.size w w' := by
  have g := fail_any ⟨sa, su, nx, gt, sl, []⟩ (.slice none 0 0) s w (isSt_nil w)
  rw [h] at g
  exact g
theorem may_bare {sa su nx gt sl : Int} {o : Bool} (h : devB ⟨sa, su, nx, gt, sl, []⟩ = o) (w : World) : Calls Try.prog 21 #[.agg #[.int .i64 sa, .int .i64 su, .int .i64 nx, .int .i64 gt, .int .i64 sl, .slice none 0 0]] w fun r w' => r = .returned (.bool o) ∧ Below w.heap.size w w' := by
  have g := dmay_any ⟨sa, su, nx, gt, sl, []⟩ (.slice none 0 0) w (isSt_nil w)
  rw [h] at g
  exact g
theorem same_bare (sa su nx gt sl : Int) (w : World) : Calls Try.prog 11 #[.agg #[.int .i64 sa, .int .i64 su, .int .i64 nx, .int .i64 gt, .int .i64 sl, .slice none 0 0], .agg #[.int .i64 sa, .int .i64 su, .int .i64 nx, .int .i64 gt, .int .i64 sl, .slice none 0 0]] w fun r w' => r = .returned (.bool true) ∧ Below w.heap.size w w' :=
  sameDev_yes ⟨sa, su, nx, gt, sl, []⟩ _ _ w (isSt_nil w) (isSt_nil w)
theorem hal (w : World) (o : Obj) : Below w.heap.size w (w.alloc o) := (Below.refl _ _).alloc (Nat.le_refl _) _
end Go.Proofs.Ythpoefaipmcceaa.DevAwake
