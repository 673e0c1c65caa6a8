/- Whatever the two numbers: the law Tables returns true (Allowed answers as the document does), and the arguments read as they did; the variable 'skiff/table.allowed' reads as the program's text lays it (a tied card). -/
import Derived.Test.YtnlhjpkhhkfijaaDoorRows
import Derived.Test.YtnlhjpkhhkfijaaDoorNorMath
import Derived.Test.YtnlhjpkhhkfijaaDoorBytes
import Derived.Test.YtnlhjpkhhkfijaaDoorNorWalk
import Derived.Test.YtnlhjpkhhkfijaaDoorNorRef
import Derived.Test.YtnlhjpkhhkfijaaDoorOpsMath
import Derived.Test.YtnlhjpkhhkfijaaDoorOpsRow
import Derived.Test.YtnlhjpkhhkfijaaDoorCrcMath
import Derived.Test.YtnlhjpkhhkfijaaDoorEntMath
import Derived.Test.YtnlhjpkhhkfijaaDoorEntRow
import Derived.Test.YtnlhjpkhhkfijaaDoorEntLow
import Derived.Test.YtnlhjpkhhkfijaaDoorEntWalk
import Derived.Test.YtnlhjpkhhkfijaaDoorEntRef
import Derived.Test.YtnlhjpkhhkfijaaDoorSufMath
import Derived.Test.YtnlhjpkhhkfijaaDoorSetMath
import Derived.Test.YtnlhjpkhhkfijaaDoorSetWalk
import Derived.Test.YtnlhjpkhhkfijaaDoorAnsMath
import Derived.Test.YtnlhjpkhhkfijaaDoorAnsWalk
import Derived.Test.YtnlhjpkhhkfijaaDoorAnsRef
import Derived.Test.YtnlhjpkhhkfijaaDoorTabMath
import Derived.Test.YtnlhjpkhhkfijaaDoorTabLaid
import Derived.Test.YtnlhjpkhhkfijaaDoorTabWalk
import Derived.Test.YtnlhjpkhhkfijaaDoorTabRef
import Derived.Test.YtnlhjpkhhkfijaaDoorTabAwake
import Derived.WalkKit
import Derived.ProofKit
import Derived.OpenShut
import Derived.ShutString
import Derived.ChangeOld
import Derived.Below
import Derived.Test.YtnlhjpkhhkfijaaDoorCards
import Derived.Test.YtnlhjpkhhkfijaaDoorTie
import Derived.LaidMore
import Derived.Handed
import Derived.LaidLaws
namespace Go.Proofs.YtnlhjpkhhkfijaaDoor.tables
open Go.ChangeShapes Go.WideShapes Go.ChangeAt Go.RowKit
open Go.ChangeMaps (open_string shut_string)
set_option linter.unusedVariables false

open Go.Proofs.YtnlhjpkhhkfijaaDoor.Bytes
open Go.Proofs.YtnlhjpkhhkfijaaDoor.Tab
open Go.Proofs.YtnlhjpkhhkfijaaDoor.TabLaid
open Go.Proofs.YtnlhjpkhhkfijaaDoor.TabWalk
open Go.Proofs.YtnlhjpkhhkfijaaDoor.TabRef
open Go.Proofs.YtnlhjpkhhkfijaaDoor.TabAwake
theorem own : ownKnob Tryd.prog.godebug = none := by kernel_rfl
theorem laidOut : laidOutB Tryd.prog = true := by kernel_rfl
theorem door_met (os : Os) (args : Array Value) : laidMetH Tryd.prog Rows.tablesRow.laid ((World.doorLaid Tryd.prog 22 os).forCall (fun _ _ => 0) ⟨#[], args, []⟩).memory :=
  laidMetH_of_parts3 (fuel := 8) (laidMet_of_run' 8 (by kernel_rfl) (by kernel_rfl)) (by kernel_rfl) (by kernel_rfl)

set_option maxRecDepth 100000 in
set_option maxHeartbeats 2000000 in
theorem walk (a0 : Int) (a1 : Int) (w0 : (Lit.int .i64 a0).wf = true) (w1 : (Lit.int .i64 a1).wf = true) (w : World) (hL : laidMetH Tryd.prog Rows.tablesRow.laid w) :
    Calls Tryd.prog 3 #[.int .i64 a0, .int .i64 a1] w fun e w' => e = .returned (.bool true) ∧ Below w.heap.size w w' := by
  have HT := hide (tab_of_laid hL (by kernel_rfl) (List.mem_singleton.2 rfl))
  have hB := Below.refl w.heap.size w
  have C1 := hide fun w h => allowed_any a0 a1 w h
  have C2 := hide fun w => refAllowed_any a0 a1 w
  generalize tabB a0 a1 = A at *
  generalize errT (tokB a0 a1) = E at *
  clear hL
  go_enter Tryd.func3, Tryd.ntmps3
  go_wp2_with (first | (go_at_call 6; refine (C1.out _ HT.out).mono ?_; rintro e u1 ⟨rfl, hb⟩; replace hB := thenB hB hb; clear hb) | (go_at_call 7; refine (C2.out _).mono ?_; rintro e u2 ⟨rfl, rfl⟩) | (go_at_call 8; refine (num_any _ _).mono ?_; rintro e u3 ⟨rfl, rfl⟩) | (go_at_call 9; refine (awake_any _ (HT.out.below hB)).mono ?_; rintro e u4 ⟨rfl, hb⟩; replace hB := thenB hB hb; clear hb))
  go_ret
  exact ⟨rfl, hB⟩

set_option maxRecDepth 100000 in
theorem lifted (os : Os) (started : os.Started) (H : Type) (enc : TypeId × Value → H) :
    ReturnsInHanded {} Tryd.checked os 3 .any (fun w args => (Rows.tablesSpec.pre enc Tryd.prog Tryd.f3 Rows.tablesRow.domain false w args ∧ laidMetH Tryd.prog Rows.tablesRow.laid w) ∧ sizedMet enc Tryd.prog Tryd.f3 (OpenSpec.ofChange Rows.tablesSpec) false w args) (Rows.tablesSpec.post enc Tryd.prog Tryd.f3 false true false false) := by
  refine returnsInHanded_of_change_and (C := Tryd.checked) (X := fun w _ => laidMetH Tryd.prog Rows.tablesRow.laid w) (fun _ _ _ hh h => h.of_heap hh) own started (by kernel_rfl) Tryd.func3
    (ChangeSpec.witness_shaped (enc := enc) (C := Tryd.checked) (os := os) (X := fun w _ => laidMetH Tryd.prog Rows.tablesRow.laid w) false (World.doorLaid Tryd.prog 22 os) #[.int .i64 0, .int .i64 0] 8 rfl (World.shaped_of_RefB (by kernel_rfl) (by kernel_rfl)) (by kernel_rfl) (by kernel_rfl) (by kernel_rfl) (door_met os _)) ?_
  intro W base args ds gs before hval0 hW hcnd hsz0 hL _
  have hval : ∀ (j : Nat) t v, Tryd.f3.params[j]? = some t → args[j]? = some v → Value.okWide Tryd.prog W .any base t v := hval0
  have hW' := hW
  obtain ⟨p, q, hA0, hV, rfl, hfz, hnd⟩ := hW
  have hA : DataW.TrodAll enc Tryd.prog W 0 (fun _ => true) true Tryd.f3.params.toList args.toList ds p := hA0
  rw [Tryd.params3] at hA hval
  obtain ⟨v0, vs0, d0, ds0, p0, q0, hargs, rfl, rfl, h0, r0⟩ := trodAll_cons hA
  obtain ⟨v1, vs1, d1, ds1, p1, q1, rfl, rfl, rfl, h1, r1⟩ := trodAll_cons r0
  obtain ⟨rfl, rfl, rfl⟩ := trodAll_nil r1
  obtain rfl : args = #[v0, v1] := by cases args; simp_all
  obtain ⟨rfl, rfl⟩ := trodVars_none hV
  obtain ⟨a0, rfl, rfl, rfl, w0⟩ := open_int Tryd.underlying3 (hval 0 3 v0 rfl rfl) h0
  obtain ⟨a1, rfl, rfl, rfl, w1⟩ := open_int Tryd.underlying3 (hval 1 3 v1 rfl rfl) h1
  clear hA0 hval0
  refine (walk a0 a1 w0 w1 W hL).mono fun e W' ⟨he, bel⟩ => ?_
  subst he
  exact ⟨_, rfl, _, _, _, [], _, [], hW', (trodAll_cons_mk (shut_bool Tryd.underlying4 _) trodAll_mk0), (trodAll_cons_mk (shut_int Tryd.underlying3 w0) (trodAll_cons_mk (shut_int Tryd.underlying3 w1) trodAll_mk0)), rfl, bel.frame _, fun h => by cases h⟩

theorem over : Rows.tablesRow.holds Tryd.pinned (OpenSpec.ofChange Rows.tablesSpec) :=
  OpenClaim.holds_of_wide 3 Tryd.f3 rfl rfl rfl rfl rfl rfl rfl ⟨rfl, rfl, rfl, rfl, rfl⟩ rfl rfl rfl rfl rfl (by kernel_rfl) Tryd.func3 (by kernel_rfl)
    (of_decide_eq_true (by kernel_rfl)) (by unfold Func.isWrapper; first | (rw [if_pos (by decide +kernel)]; kernel_rfl) | (rw [if_neg (by decide +kernel)]; exact ⟨rfl, rfl⟩))
    (fun os started H enc _ => lifted os started H enc)

theorem plain (f : FuncId) (fn : Func) (hf : Tryd.pinned.checked.prog.funcNamed "skiff/skifflaw15.Tables" = some f) (hfn : Tryd.pinned.checked.prog.funcs[f]? = some fn) :
    false = Tryd.pinned.checked.prog.looks [] ∧ ∀ (j : Nat) t, fn.params[j]? = some t → Tryd.pinned.checked.prog.wantsStandIn t = false := by
  obtain rfl : f = 3 := Option.some.inj ((show Tryd.prog.funcNamed "skiff/skifflaw15.Tables" = some 3 by kernel_rfl).symm.trans hf) |>.symm
  obtain rfl : fn = Tryd.f3 := (Option.some.inj (Tryd.func3.symm.trans hfn)).symm
  refine ⟨by kernel_rfl, fun j t ht => ?_⟩
  rw [Tryd.params3] at ht
  rcases j with _ | _ | j
  · obtain rfl : 3 = t := by simpa using ht
    exact (show Tryd.prog.wantsStandIn 3 = false by kernel_rfl)
  · obtain rfl : 3 = t := by simpa using ht
    exact (show Tryd.prog.wantsStandIn 3 = false by kernel_rfl)
  · simp at ht
theorem proved : Rows.TablesCardSaid :=
  Claim7.holds_tied_plain_at .later [] _ _ _ _ over (fun _ h => by cases h) (by kernel_rfl) (fun _ h => by cases h) tables_row_tie rfl ⟨rfl, rfl⟩ (by kernel_rfl) rfl plain (by kernel_rfl)
#print axioms proved
end Go.Proofs.YtnlhjpkhhkfijaaDoor.tables
