/- Whatever the text and the number: the law Journals returns true (Scan and Free of package journal answer as the document's own; what Scan hands out may be written over), and the arguments read as they did; no condition. -/
import Derived.Test.YtinclijbmjaccaaRows
import Derived.Test.YtinclijbmjaccaaJouAwake
import Derived.ChangeOld
import Derived.Below
import Derived.WalkKit
import Derived.ProofKit
import Derived.OpenShut
import Derived.ShutString
namespace Go.Proofs.Ytinclijbmjaccaa.journals
open Go.ChangeShapes Go.WideShapes Go.ChangeAt Go.RowKit
open Go.ChangeMaps (open_string shut_string)
set_option linter.unusedVariables false

open Go.Proofs.Ytinclijbmjaccaa.Bytes
open Go.Proofs.Ytinclijbmjaccaa.Jou
open Go.Proofs.Ytinclijbmjaccaa.JouRow
open Go.Proofs.Ytinclijbmjaccaa.JouWalk
open Go.Proofs.Ytinclijbmjaccaa.JouRef
open Go.Proofs.Ytinclijbmjaccaa.JouAwake
theorem own : ownKnob Try.prog.godebug = none := by kernel_rfl

theorem few (f : ByteArray) : (scanL f).length ≤ 65536 := Nat.le_trans (scan_len f) (by omega)
set_option maxHeartbeats 2000000 in
theorem walk (a0 : ByteArray) (a1 : Int) (w0 : a0.size ≤ maxLen) (w1 : (Lit.int .i64 a1).wf = true) (w : World) :
    Calls Try.prog 3 #[.string a0, .int .i64 a1] w fun e w' => e = .returned (.bool true) ∧ Below w.heap.size w w' := by
  have hB : Below w.heap.size w w := Below.refl _ _
  have HL := hide (few a0)
  have C1 := hide (fun w => scan_any a0 w)
  have C2 := hide (fun w => refScan_any a0 w)
  have C3 := hide (fun w => free_any a0 a1 w)
  have C4 := hide (fun w => refFree_any a0 a1 w)
  generalize errJ (mayF a0) = E1 at *
  generalize errJ (freeOk a0 a1) = E2 at *
  generalize freeAt a0 a1 = A at *
  generalize freeIs a0 a1 = I at *
  generalize scanL a0 = L at *
  go_enter Try.func3, Try.ntmps3
  go_wp2_with fail
  refine (C1.out _).mono ?_
  rintro e w1 ⟨v1, rfl, ho1, hb⟩
  replace hB := thenB hB hb; clear hb
  go_wp2_with fail
  refine (C2.out _).mono ?_
  rintro e w2 ⟨v2, rfl, ho2, hb⟩
  replace ho1 := OpsRow.owns_below ho1 hb; replace hB := thenB hB hb; clear hb
  go_wp2_with fail
  refine (C3.out _).mono ?_
  rintro e w3 ⟨rfl, rfl⟩
  go_wp2_with fail
  refine (C4.out _).mono ?_
  rintro e w4 ⟨rfl, hb⟩
  replace ho1 := OpsRow.owns_below ho1 hb; replace ho2 := OpsRow.owns_below ho2 hb; replace hB := thenB hB hb; clear hb
  go_wp2_with fail
  refine (samePl_yes _ _ L _ HL.out (ownsP_is ho1) (ownsP_is ho2)).mono ?_
  rintro e w5 ⟨rfl, hb⟩
  replace ho1 := OpsRow.owns_below ho1 hb; replace hB := thenB hB hb; clear hb ho2
  go_wp2_with (go_at_call 13; refine (numJ_any _ _).mono ?_; rintro e w' ⟨rfl, rfl⟩)
  refine (spoilPl_any _ L _ w.heap.size HL.out ho1).mono ?_
  rintro e w6 ⟨rfl, hb⟩
  replace hB := hB.trans hb; clear hb ho1
  go_wp2_with (go_at_call 15; refine (awake_any _).mono ?_; rintro e w7 ⟨rfl, hb⟩)
  go_ret
  exact ⟨rfl, thenB hB hb⟩

set_option maxRecDepth 100000 in
theorem lifted (os : Os) (started : os.Started) (H : Type) (enc : TypeId × Value → H) :
    ReturnsInHanded {} Try.checked os 3 .any (Rows.journalsSpec.pre6 enc Try.prog Try.f3 Rows.journalsRow.domain false) (Rows.journalsSpec.post enc Try.prog Try.f3 false true false false) := by
  refine returnsInHanded_of_change (C := Try.checked) own started (by kernel_rfl) Try.func3
    (ChangeSpec.witness6 (enc := enc) (C := Try.checked) false ⟨#[], #[.string ByteArray.empty, .int .i64 0], []⟩ 8 (by kernel_rfl) (by kernel_rfl) (by kernel_rfl) (by kernel_rfl)) ?_
  intro W base args ds gs before hval0 hW hcnd _
  have hval : ∀ (j : Nat) t v, Try.f3.params[j]? = some t → args[j]? = some v → Value.okWide Try.prog W .any base t v := hval0
  have hW' := hW
  obtain ⟨p, q, hA0, hV, rfl, hfz, hnd⟩ := hW
  have hA : DataW.TrodAll enc Try.prog W 0 (fun _ => true) true Try.f3.params.toList args.toList ds p := hA0
  rw [Try.params3] at hA hval
  obtain ⟨v0, vs0, d0, ds0, p0, q0, hargs, rfl, rfl, h0, r0⟩ := trodAll_cons hA
  obtain ⟨v1, vs1, d1, ds1, p1, q1, rfl, rfl, rfl, h1, r1⟩ := trodAll_cons r0
  obtain ⟨rfl, rfl, rfl⟩ := trodAll_nil r1
  obtain rfl : args = #[v0, v1] := by cases args; simp_all
  obtain ⟨rfl, rfl⟩ := trodVars_none hV
  obtain ⟨a0, rfl, rfl, rfl, w0⟩ := open_string Try.underlying9 (hval 0 9 v0 rfl rfl) h0
  obtain ⟨a1, rfl, rfl, rfl, w1⟩ := open_int Try.underlying3 (hval 1 3 v1 rfl rfl) h1
  clear hA0 hval0
  refine (walk a0 a1 w0 w1 W).mono fun e W' ⟨he, bel⟩ => ?_
  subst he
  exact ⟨_, rfl, _, _, _, [], _, [], hW', (trodAll_cons_mk (shut_bool Try.underlying4 _) trodAll_mk0), (trodAll_cons_mk (shut_string Try.underlying9 w0) (trodAll_cons_mk (shut_int Try.underlying3 w1) trodAll_mk0)), rfl, bel.frame _, fun h => by cases h⟩

theorem over : Rows.journalsRow.holds Try.pinned (OpenSpec.ofChange Rows.journalsSpec) :=
  OpenClaim.holds_of_wide 3 Try.f3 rfl rfl rfl rfl rfl rfl rfl ⟨rfl, rfl, rfl, rfl, rfl⟩ rfl rfl rfl rfl rfl (by kernel_rfl) Try.func3 (by kernel_rfl)
    (of_decide_eq_true (by kernel_rfl)) (by unfold Func.isWrapper; first | (rw [if_pos (by decide +kernel)]; kernel_rfl) | (rw [if_neg (by decide +kernel)]; exact ⟨rfl, rfl⟩))
    (fun os started H enc _ => lifted os started H enc)

theorem proved : Rows.JournalsSaid :=
  over
#print axioms proved
end Go.Proofs.Ytinclijbmjaccaa.journals
