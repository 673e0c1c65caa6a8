/- Whatever the number: the law DeviceNew returns true (a new device may be and is idle; what fails again is as new but for its status), and the argument reads as it did; no condition. -/
import Derived.Test.YtebbficaolommaaRows
import Derived.Test.YtebbficaolommaaNorMath
import Derived.Test.YtebbficaolommaaBytes
import Derived.Test.YtebbficaolommaaNorWalk
import Derived.Test.YtebbficaolommaaOpsMath
import Derived.Test.YtebbficaolommaaOpsRow
import Derived.Test.YtebbficaolommaaOpsWalk
import Derived.Test.YtebbficaolommaaCrcMath
import Derived.Test.YtebbficaolommaaEntMath
import Derived.Test.YtebbficaolommaaEntRow
import Derived.Test.YtebbficaolommaaEntLow
import Derived.Test.YtebbficaolommaaEntWalk
import Derived.Test.YtebbficaolommaaSufMath
import Derived.Test.YtebbficaolommaaAnsMath
import Derived.Test.YtebbficaolommaaAnsWalk
import Derived.Test.YtebbficaolommaaDevRow
import Derived.Test.YtebbficaolommaaDevMath
import Derived.Test.YtebbficaolommaaDevWalk
import Derived.Test.YtebbficaolommaaDevFail
import Derived.Test.YtebbficaolommaaDevHelp
import Derived.Test.YtebbficaolommaaDevAwake
import Derived.ChangeOld
import Derived.Below
import Derived.WalkKit
import Derived.ProofKit
import Derived.OpenShut
import Derived.ShutString
namespace Go.Proofs.Ytebbficaolommaa.deviceNew
open Go.ChangeShapes Go.WideShapes Go.ChangeAt Go.RowKit
open Go.ChangeMaps (open_string shut_string)
set_option linter.unusedVariables false

open Go.Proofs.Ytebbficaolommaa.Bytes
open Go.Proofs.Ytebbficaolommaa.Dev
open Go.Proofs.Ytebbficaolommaa.DevRow
open Go.Proofs.Ytebbficaolommaa.DevWalk
open Go.Proofs.Ytebbficaolommaa.DevHelp
open Go.Proofs.Ytebbficaolommaa.DevAwake
theorem own : ownKnob Try.prog.godebug = none := by kernel_rfl

theorem fl_of {K : Nat} (h1 : 1 ≤ K) (h2 : K ≤ 6) : flB (K : Int) = true := flB_parts.2 (by omega)
theorem st_of {K : Nat} (h2 : K ≤ 6) : Ans.stB (K : Int) = true := Ans.stB_parts.2 (by omega)
theorem f_new {K : Nat} (h1 : 1 ≤ K) (h2 : K ≤ 6) : failB ⟨0, 0, 0, 0, 0, []⟩ (K : Int) = true := by
  unfold failB
  rw [fl_of h1 h2]
  rfl
theorem f_more {K M : Nat} (h1 : 1 ≤ K) (h2 : K ≤ 6) (h3 : 1 ≤ M) (h4 : M ≤ 6) : failB ⟨7, (K : Int), 0, 0, 0, []⟩ (M : Int) = true := by
  unfold failB
  rw [fl_of h3 h4, failed_may (fl_of h1 h2)]
  rfl
set_option maxRecDepth 100000 in
set_option maxHeartbeats 2000000 in
theorem walk (a0 : Int) (w0 : (Lit.int .i64 a0).wf = true) (w : World) :
    Calls Try.prog 6 #[.int .i64 a0] w fun e w' => e = .returned (.bool true) ∧ Below w.heap.size w w' := by
  obtain ⟨k, hk, mk⟩ : ∃ k : Nat, k < 6 ∧ wrap64 ((IntKind.u64.wrap a0).tmod 6) = (k : Int) := mod_u64 a0 6 (by omega) (by omega)
  obtain ⟨K, hK⟩ : ∃ K : Nat, K = 1 + k := ⟨_, rfl⟩
  have hK1 : (1 : Int) + (k : Int) = (K : Int) := by omega
  obtain ⟨M, hM⟩ : ∃ M : Nat, M = 1 + K % 6 := ⟨_, rfl⟩
  have hM0 : (1 : Int) + (K : Int) % 6 = (M : Int) := by omega
  have q1 : 1 ≤ K := by omega
  have q2 : K ≤ 6 := by omega
  have C1 := hide fun w => fail_bare (f_new q1 q2) w
  have C2 := hide fun w => fail_bare (f_more q1 q2 (show 1 ≤ M by omega) (show M ≤ 6 by omega)) w
  simp only [faSa, faSu, errD, if_true] at C1 C2
  have i1 := new_may
  have b4 := build_d2
  have f1 : ((K : Int) == (K : Int)) = true := beq_self_eq_true _
  have hB := Below.refl w.heap.size w
  clear hK hM
  go_enter Try.func6, Try.ntmps6
  go_wp2_with (go_at_call 16; refine (awake_any _).mono ?_; rintro e u1 ⟨rfl, hb⟩; replace hB := thenB hB hb; clear hb)
  refine (new_any _).mono ?_; rintro e u2 ⟨rfl, hb⟩; replace hB := thenB hB hb; clear hb
  have hX := sixM u2 (.int .i64 0) (.int .i64 0) (.int .i64 0) (.int .i64 0) (.int .i64 0) (.slice none 0 0) 24
  replace hB := hB.alloc hB.size (.cells #[.int .i64 0, .int .i64 0, .int .i64 0, .int .i64 0, .int .i64 0, .slice none 0 0] 24)
  go_wp2_with fail
  generalize u2.alloc (.cells #[.int .i64 0, .int .i64 0, .int .i64 0, .int .i64 0, .int .i64 0, .slice none 0 0] 24) = W2 at *
  generalize u2.heap.size = G2 at *
  refine (C1.out _).mono ?_; rintro e u3 ⟨rfl, hb⟩; replace hB := thenB hB hb; replace hX := sixB hX hb; clear hb
  have hY := sixM u3 (.int .i64 7) (.int .i64 (K : Int)) (.int .i64 0) (.int .i64 0) (.int .i64 0) (.slice none 0 0) 24
  replace hX := sixB hX (hal u3 (.cells #[.int .i64 7, .int .i64 (K : Int), .int .i64 0, .int .i64 0, .int .i64 0, .slice none 0 0] 24))
  replace hB := hB.alloc hB.size (.cells #[.int .i64 7, .int .i64 (K : Int), .int .i64 0, .int .i64 0, .int .i64 0, .slice none 0 0] 24)
  go_wp2_with fail
  generalize u3.alloc (.cells #[.int .i64 7, .int .i64 (K : Int), .int .i64 0, .int .i64 0, .int .i64 0, .slice none 0 0] 24) = W3 at *
  generalize u3.heap.size = G3 at *
  refine (C2.out _).mono ?_; rintro e u4 ⟨rfl, hb⟩; replace hB := thenB hB hb; replace hX := sixB hX hb; replace hY := sixB hY hb; clear hb
  have hZ := sixM u4 (.int .i64 7) (.int .i64 (M : Int)) (.int .i64 0) (.int .i64 0) (.int .i64 0) (.slice none 0 0) 24
  replace hX := sixB hX (hal u4 (.cells #[.int .i64 7, .int .i64 (M : Int), .int .i64 0, .int .i64 0, .int .i64 0, .slice none 0 0] 24))
  replace hY := sixB hY (hal u4 (.cells #[.int .i64 7, .int .i64 (M : Int), .int .i64 0, .int .i64 0, .int .i64 0, .slice none 0 0] 24))
  replace hB := hB.alloc hB.size (.cells #[.int .i64 7, .int .i64 (M : Int), .int .i64 0, .int .i64 0, .int .i64 0, .slice none 0 0] 24)
  go_wp2_with fail
  generalize u4.alloc (.cells #[.int .i64 7, .int .i64 (M : Int), .int .i64 0, .int .i64 0, .int .i64 0, .slice none 0 0] 24) = W4 at *
  generalize u4.heap.size = G4 at *
  refine (may_bare i1 _).mono ?_; rintro e u5 ⟨rfl, hb⟩; replace hB := thenB hB hb; replace hX := sixB hX hb; replace hY := sixB hY hb; replace hZ := sixB hZ hb; clear hb
  go_wp2_with (first | (go_at_call 11; refine (num_any _ _).mono ?_; rintro e w' ⟨rfl, rfl⟩) | (go_at_call 10; refine (same_bare _ _ _ _ _ _).mono ?_; rintro e w' ⟨rfl, hb⟩; replace hB := thenB hB hb; clear hb))
  go_ret
  exact ⟨rfl, hB⟩

set_option maxRecDepth 100000 in
theorem lifted (os : Os) (started : os.Started) (H : Type) (enc : TypeId × Value → H) :
    ReturnsInHanded {} Try.checked os 6 .any (Rows.deviceNewSpec.pre6 enc Try.prog Try.f6 Rows.deviceNewRow.domain false) (Rows.deviceNewSpec.post enc Try.prog Try.f6 false true false false) := by
  refine returnsInHanded_of_change (C := Try.checked) own started (by kernel_rfl) Try.func6
    (ChangeSpec.witness6 (enc := enc) (C := Try.checked) false ⟨#[], #[.int .i64 0], []⟩ 8 (by kernel_rfl) (by kernel_rfl) (by kernel_rfl) (by kernel_rfl)) ?_
  intro W base args ds gs before hval0 hW hcnd _
  have hval : ∀ (j : Nat) t v, Try.f6.params[j]? = some t → args[j]? = some v → Value.okWide Try.prog W .any base t v := hval0
  have hW' := hW
  obtain ⟨p, q, hA0, hV, rfl, hfz, hnd⟩ := hW
  have hA : DataW.TrodAll enc Try.prog W 0 (fun _ => true) true Try.f6.params.toList args.toList ds p := hA0
  rw [Try.params6] at hA hval
  obtain ⟨v0, vs0, d0, ds0, p0, q0, hargs, rfl, rfl, h0, r0⟩ := trodAll_cons hA
  obtain ⟨rfl, rfl, rfl⟩ := trodAll_nil r0
  obtain rfl : args = #[v0] := by cases args; simp_all
  obtain ⟨rfl, rfl⟩ := trodVars_none hV
  obtain ⟨a0, rfl, rfl, rfl, w0⟩ := open_int Try.underlying3 (hval 0 3 v0 rfl rfl) h0
  clear hA0 hval0
  refine (walk a0 w0 W).mono fun e W' ⟨he, bel⟩ => ?_
  subst he
  exact ⟨_, rfl, _, _, _, [], _, [], hW', (trodAll_cons_mk (shut_bool Try.underlying4 _) trodAll_mk0), (trodAll_cons_mk (shut_int Try.underlying3 w0) trodAll_mk0), rfl, bel.frame _, fun h => by cases h⟩

theorem over : Rows.deviceNewRow.holds Try.pinned (OpenSpec.ofChange Rows.deviceNewSpec) :=
  OpenClaim.holds_of_wide 6 Try.f6 rfl rfl rfl rfl rfl rfl rfl ⟨rfl, rfl, rfl, rfl, rfl⟩ rfl rfl rfl rfl rfl (by kernel_rfl) Try.func6 (by kernel_rfl)
    (of_decide_eq_true (by kernel_rfl)) (by unfold Func.isWrapper; first | (rw [if_pos (by decide +kernel)]; kernel_rfl) | (rw [if_neg (by decide +kernel)]; exact ⟨rfl, rfl⟩))
    (fun os started H enc _ => lifted os started H enc)

theorem proved : Rows.DeviceNewSaid :=
  over
#print axioms proved
end Go.Proofs.Ytebbficaolommaa.deviceNew
