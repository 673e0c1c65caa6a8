/- Whatever the text: the law Chooses returns true (Active and Other of package choose answer as the document's own), and the argument reads as it did; no condition. -/
import Derived.Test.YtniehdbidfimaaaRows
import Derived.Test.YtniehdbidfimaaaChoAwake
import Derived.Test.YtniehdbidfimaaaChoRef
import Derived.ChangeOld
import Derived.Below
import Derived.WalkKit
import Derived.ProofKit
import Derived.OpenShut
import Derived.ShutString
namespace Go.Proofs.Ytniehdbidfimaaa.chooses
open Go.ChangeShapes Go.WideShapes Go.ChangeAt Go.RowKit
open Go.ChangeMaps (open_string shut_string)
set_option linter.unusedVariables false

open Go.Proofs.Ytniehdbidfimaaa.Bytes
open Go.Proofs.Ytniehdbidfimaaa.Jou
open Go.Proofs.Ytniehdbidfimaaa.JouRow
open Go.Proofs.Ytniehdbidfimaaa.JouRef
open Go.Proofs.Ytniehdbidfimaaa.Act
open Go.Proofs.Ytniehdbidfimaaa.ActNext
open Go.Proofs.Ytniehdbidfimaaa.Cho
open Go.Proofs.Ytniehdbidfimaaa.ChoWalk
open Go.Proofs.Ytniehdbidfimaaa.ChoRef
open Go.Proofs.Ytniehdbidfimaaa.ChoAwake
theorem own : ownKnob Try.prog.godebug = none := by kernel_rfl

set_option maxHeartbeats 2000000 in
theorem walk (a0 : ByteArray) (w0 : a0.size ≤ maxLen) (w : World) :
    Calls Try.prog 3 #[.string a0] w fun e w' => e = .returned (.bool true) ∧ Below w.heap.size w w' := by
  have hB : Below w.heap.size w w := Below.refl _ _
  have C1 := hide (fun w => active_any a0 w)
  have C2 := hide (fun w => refActive_any a0 w)
  have C3 := hide (fun w => other_any a0 w)
  have C4 := hide (fun w => refOther_any a0 w)
  generalize errA a0 = E1 at *
  generalize errOt a0 = E2 at *
  generalize othI a0 = O at *
  generalize (actV a0).pa = A at *
  generalize (actV a0).pq = Q at *
  generalize (actV a0).pt = T at *
  generalize (actV a0).pz = Z at *
  generalize (actV a0).pm = M at *
  go_enter Try.func3, Try.ntmps3
  go_wp2_with fail
  refine (C1.out _).mono ?_; rintro e w1 ⟨rfl, hb⟩; replace hB := thenB hB hb; clear hb
  have hX := box5M w1 (.int .i64 A) (.int .i64 Q) (.int .i64 T) (.int .i64 Z) (.int .i64 M) 25
  replace hB := hB.alloc hB.size (.cells #[.int .i64 A, .int .i64 Q, .int .i64 T, .int .i64 Z, .int .i64 M] 25)
  go_wp2_with fail
  generalize w1.alloc (.cells #[.int .i64 A, .int .i64 Q, .int .i64 T, .int .i64 Z, .int .i64 M] 25) = W1 at *
  generalize w1.heap.size = B1 at *
  refine (C2.out _).mono ?_; rintro e w2 ⟨rfl, hb⟩; replace hB := thenB hB hb; replace hX := box5B hX hb; clear hb
  have hal := (Below.refl w2.heap.size w2).alloc (Nat.le_refl _) (.cells #[.int .i64 A, .int .i64 Q, .int .i64 T, .int .i64 Z, .int .i64 M] 25)
  have hY := box5M w2 (.int .i64 A) (.int .i64 Q) (.int .i64 T) (.int .i64 Z) (.int .i64 M) 25
  replace hB := thenB hB hal
  replace hX := box5B hX hal
  clear hal
  go_wp2_with fail
  generalize w2.alloc (.cells #[.int .i64 A, .int .i64 Q, .int .i64 T, .int .i64 Z, .int .i64 M] 25) = W2 at *
  generalize w2.heap.size = B2 at *
  refine (C3.out _).mono ?_; rintro e w3 ⟨rfl, hb⟩; replace hB := thenB hB hb; replace hX := box5B hX hb; replace hY := box5B hY hb; clear hb
  go_wp2_with fail
  refine (C4.out _).mono ?_; rintro e w4 ⟨rfl, hb⟩; replace hB := thenB hB hb; replace hX := box5B hX hb; replace hY := box5B hY hb; clear hb
  unfold Box5 at hX hY
  go_wp2_with (first | (go_at_call 12; refine (numJ_any _ _).mono ?_; rintro e w' ⟨rfl, rfl⟩) | (go_at_call 13; refine (awake_any _).mono ?_; rintro e w9 ⟨rfl, hb⟩; replace hB := thenB hB hb; clear hb))
  go_ret
  exact ⟨rfl, hB⟩

set_option maxRecDepth 100000 in
theorem lifted (os : Os) (started : os.Started) (H : Type) (enc : TypeId × Value → H) :
    ReturnsInHanded {} Try.checked os 3 .any (Rows.choosesSpec.pre6 enc Try.prog Try.f3 Rows.choosesRow.domain false) (Rows.choosesSpec.post enc Try.prog Try.f3 false true false false) := by
  refine returnsInHanded_of_change (C := Try.checked) own started (by kernel_rfl) Try.func3
    (ChangeSpec.witness6 (enc := enc) (C := Try.checked) false ⟨#[], #[.string ByteArray.empty], []⟩ 8 (by kernel_rfl) (by kernel_rfl) (by kernel_rfl) (by kernel_rfl)) ?_
  intro W base args ds gs before hval0 hW hcnd _
  have hval : ∀ (j : Nat) t v, Try.f3.params[j]? = some t → args[j]? = some v → Value.okWide Try.prog W .any base t v := hval0
  have hW' := hW
  obtain ⟨p, q, hA0, hV, rfl, hfz, hnd⟩ := hW
  have hA : DataW.TrodAll enc Try.prog W 0 (fun _ => true) true Try.f3.params.toList args.toList ds p := hA0
  rw [Try.params3] at hA hval
  obtain ⟨v0, vs0, d0, ds0, p0, q0, hargs, rfl, rfl, h0, r0⟩ := trodAll_cons hA
  obtain ⟨rfl, rfl, rfl⟩ := trodAll_nil r0
  obtain rfl : args = #[v0] := by cases args; simp_all
  obtain ⟨rfl, rfl⟩ := trodVars_none hV
  obtain ⟨a0, rfl, rfl, rfl, w0⟩ := open_string Try.underlying9 (hval 0 9 v0 rfl rfl) h0
  clear hA0 hval0
  refine (walk a0 w0 W).mono fun e W' ⟨he, bel⟩ => ?_
  subst he
  exact ⟨_, rfl, _, _, _, [], _, [], hW', (trodAll_cons_mk (shut_bool Try.underlying4 _) trodAll_mk0), (trodAll_cons_mk (shut_string Try.underlying9 w0) trodAll_mk0), rfl, bel.frame _, fun h => by cases h⟩

theorem over : Rows.choosesRow.holds Try.pinned (OpenSpec.ofChange Rows.choosesSpec) :=
  OpenClaim.holds_of_wide 3 Try.f3 rfl rfl rfl rfl rfl rfl rfl ⟨rfl, rfl, rfl, rfl, rfl⟩ rfl rfl rfl rfl rfl (by kernel_rfl) Try.func3 (by kernel_rfl)
    (of_decide_eq_true (by kernel_rfl)) (by unfold Func.isWrapper; first | (rw [if_pos (by decide +kernel)]; kernel_rfl) | (rw [if_neg (by decide +kernel)]; exact ⟨rfl, rfl⟩))
    (fun os started H enc _ => lifted os started H enc)

theorem proved : Rows.ChoosesSaid :=
  over
#print axioms proved
end Go.Proofs.Ytniehdbidfimaaa.chooses
