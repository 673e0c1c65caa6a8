/- Whatever the two numbers: the law NorForms returns true (flashes, places, words, bits and sectors that are none are refused), and the arguments read as they did; no condition. -/
import Derived.Test.YtfneeijadhahlaaRows
import Derived.Test.YtfneeijadhahlaaNorMath
import Derived.Test.YtfneeijadhahlaaBytes
import Derived.Test.YtfneeijadhahlaaShelf
import Derived.Test.YtfneeijadhahlaaNorWalk
import Derived.Test.YtfneeijadhahlaaNorRef
import Derived.Test.YtfneeijadhahlaaNorAwake
import Derived.Deep.DeepCutAuto
import Derived.Deep.CutBlock
import Derived.Deep.RegionWith
import Derived.RegionTactic
import Derived.ChangeOld
import Derived.Below
import Derived.WalkKit
import Derived.ProofKit
import Derived.OpenShut
import Derived.ShutString
namespace Go.Proofs.Ytfneeijadhahlaa.norForms
open Go.ChangeShapes Go.WideShapes Go.ChangeAt Go.RowKit
open Go.ChangeMaps (open_string shut_string)
set_option linter.unusedVariables false

open Go.Proofs.Ytfneeijadhahlaa.Bytes
open Go.Proofs.Ytfneeijadhahlaa.NorWalk
open Go.Proofs.Ytfneeijadhahlaa.NorRef
open Go.Proofs.Ytfneeijadhahlaa.NorAwake
theorem own : ownKnob Try.prog.godebug = none := by kernel_rfl

set_option maxHeartbeats 10000000 in
set_option maxRecDepth 100000 in
theorem walk (a0 : Int) (a1 : Int) (w0 : (Lit.int .i64 a0).wf = true) (w1 : (Lit.int .i64 a1).wf = true) (w : World) :
    Calls Try.prog 5 #[.int .i64 a0, .int .i64 a1] w fun e w' => e = .returned (.bool true) ∧ Below w.heap.size w w' := by
  have hB : Below w.heap.size w w := Below.refl _ _
  obtain ⟨d, hd, md⟩ : ∃ k : Nat, k ≤ 1023 ∧ bits .and .i64 a1 1023 = (k : Int) := mask_i64 a1 1023 (by omega)
  obtain ⟨b, hb1, mb⟩ : ∃ k : Nat, k ≤ 1 ∧ bits .and .i64 a1 1 = (k : Int) := mask_i64 a1 1 (by omega)
  obtain ⟨c, hc1, mc⟩ : ∃ k : Nat, k ≤ 1 ∧ bits .and .i64 a0 1 = (k : Int) := mask_i64 a0 1 (by omega)
  go_enter Try.func5, Try.ntmps5
  go_upto_block 0 with (first | (go_at_call 22; refine (awake_any _).mono ?_; rintro e w' ⟨rfl, hb⟩; replace hB := hB.trans (hb.mono hB.size); clear hb) | (go_at_call 21; refine (refBlank_any _).mono ?_; rintro e w' ⟨rfl, hb⟩; replace hB := hB.trans (hb.mono hB.size); clear hb))
  have sz0 := Nor.size_blankS
  go_cut [6, 7, 8, 10] (fun s6 s7 s8 s10 wx => w' = wx ∧ ∃ F p V s, s6 = .string F ∧ s7 = .int .i64 p ∧ s8 = .string V ∧ s10 = .int .i64 s ∧ Refused F p V s)
  case first =>
    go_wp2
    · go_meet
      exact ⟨rfl, _, _, _, _, rfl, rfl, rfl, rfl, refused_size _ _ _ (by rw [size_cut]; decide)⟩
    · go_meet
      exact ⟨rfl, _, _, _, _, rfl, rfl, rfl, rfl, refused_size _ _ _ (by rw [size_more]; decide)⟩
    · go_meet
      exact ⟨rfl, _, _, _, _, rfl, rfl, rfl, rfl, refused_place _ _ (by omega) (by omega)⟩
    · go_meet
      exact ⟨rfl, _, _, _, _, rfl, rfl, rfl, rfl, refused_place _ _ (by omega) (by omega)⟩
    · go_meet
      exact ⟨rfl, _, _, _, _, rfl, rfl, rfl, rfl, refused_place _ _ (by omega) (by omega)⟩
    · go_meet
      exact ⟨rfl, _, _, _, _, rfl, rfl, rfl, rfl, refused_word _ _ (by decide) (by omega)⟩
    · go_meet
      exact ⟨rfl, _, _, _, _, rfl, rfl, rfl, rfl, refused_word _ _ (by decide) (by omega)⟩
    · go_meet
      exact ⟨rfl, _, _, _, _, rfl, rfl, rfl, rfl, refused_size _ _ _ (by decide)⟩
  case rest =>
    obtain ⟨rfl, F, p, V, s, rfl, rfl, rfl, rfl, t1, t2, t3, t4⟩ := hcut
    have e2 : Nor.errN false = 200 := rfl
    go_upto_region 30 with (first | (go_at_call 9; refine (program_any _ _ _ _).mono ?_; rintro e w' ⟨rfl, hb⟩; replace hB := hB.trans (hb.mono hB.size); clear hb) | (go_at_call 11; refine (torn_any _ _ _ _ _).mono ?_; rintro e w' ⟨rfl, hb⟩; replace hB := hB.trans (hb.mono hB.size); clear hb) | (go_at_call 13; refine (erase_any _ _ _).mono ?_; rintro e w' ⟨rfl, hb⟩; replace hB := hB.trans (hb.mono hB.size); clear hb) | (go_at_call 15; refine (worn_any _ _ _ _).mono ?_; rintro e w' ⟨rfl, hb⟩; replace hB := hB.trans (hb.mono hB.size); clear hb))
    clear t1 t2 t3 t4 e2 sz0 md mb
    have hc : bits .and .i64 a0 1 = 0 ∨ bits .and .i64 a0 1 = 1 := by omega
    clear mc
    go_cut [20, 21] (fun s20 s21 wx => Below w.heap.size w wx ∧ s21 = .int .i64 200 ∧ ∃ S, s20 = .string S)
    case first =>
      rcases hc with hc | hc
      all_goals
        go_region_with (first | (go_at_call 21; refine (refBlank_any _).mono ?_; rintro e w2 ⟨rfl, hb⟩; have oc := old_cells hb) | (go_at_call 11; refine (torn_any _ _ _ _ _).mono ?_; rintro e w3 ⟨rfl, hb3⟩))
      all_goals go_wp2_with fail
      all_goals go_meet
      all_goals refine ⟨?_, congrArg (Value.int .i64) (Nor.errN_f (no3 (by rw [IntKind.wrap_i64]; omega))), _, rfl⟩
      all_goals first
        | exact thenB ((thenB hB.drew hb).alloc (thenB hB.drew hb).size _) hb3
        | exact thenB (thenB (hB.alloc hB.size _).drew hb) hb3
    case rest =>
      obtain ⟨hB2, rfl, S, rfl⟩ := hcut
      clear hB
      rename Below _ _ _ => hB
      go_upto_region 31 with fail
      go_cut [22, 23] (fun s22 s23 wx => Below w.heap.size w wx ∧ s23 = .int .i64 200 ∧ ∃ S, s22 = .string S)
      case first =>
        rcases hc with hc | hc
        all_goals
          go_region_with (first | (go_at_call 21; refine (refBlank_any _).mono ?_; rintro e w2 ⟨rfl, hb⟩; have oc := old_cells hb) | (go_at_call 15; refine (worn_any _ _ _ _).mono ?_; rintro e w3 ⟨rfl, hb3⟩))
        all_goals go_wp2_with fail
        all_goals go_meet
        all_goals refine ⟨?_, congrArg (Value.int .i64) (Nor.errN_f (no4 (by rw [IntKind.wrap_i64]; omega))), _, rfl⟩
        all_goals first
          | exact thenB ((thenB hB.drew hb).alloc (thenB hB.drew hb).size _) hb3
          | exact thenB (thenB (hB.alloc hB.size _).drew hb) hb3
      case rest =>
        obtain ⟨hB3, rfl, S2, rfl⟩ := hcut
        go_wp2_with (first | (go_at_call 17; refine (num_any _ _).mono ?_; rintro e w' ⟨rfl, rfl⟩))
        go_ret
        exact ⟨rfl, hB3⟩

set_option maxRecDepth 100000 in
theorem lifted (os : Os) (started : os.Started) (H : Type) (enc : TypeId × Value → H) :
    ReturnsInHanded {} Try.checked os 5 .any (Rows.norFormsSpec.pre6 enc Try.prog Try.f5 Rows.norFormsRow.domain false) (Rows.norFormsSpec.post enc Try.prog Try.f5 false true false false) := by
  refine returnsInHanded_of_change (C := Try.checked) own started (by kernel_rfl) Try.func5
    (ChangeSpec.witness6 (enc := enc) (C := Try.checked) false ⟨#[], #[.int .i64 0, .int .i64 0], []⟩ 8 (by kernel_rfl) (by kernel_rfl) (by kernel_rfl) (by kernel_rfl)) ?_
  intro W base args ds gs before hval0 hW hcnd _
  have hval : ∀ (j : Nat) t v, Try.f5.params[j]? = some t → args[j]? = some v → Value.okWide Try.prog W .any base t v := hval0
  have hW' := hW
  obtain ⟨p, q, hA0, hV, rfl, hfz, hnd⟩ := hW
  have hA : DataW.TrodAll enc Try.prog W 0 (fun _ => true) true Try.f5.params.toList args.toList ds p := hA0
  rw [Try.params5] at hA hval
  obtain ⟨v0, vs0, d0, ds0, p0, q0, hargs, rfl, rfl, h0, r0⟩ := trodAll_cons hA
  obtain ⟨v1, vs1, d1, ds1, p1, q1, rfl, rfl, rfl, h1, r1⟩ := trodAll_cons r0
  obtain ⟨rfl, rfl, rfl⟩ := trodAll_nil r1
  obtain rfl : args = #[v0, v1] := by cases args; simp_all
  obtain ⟨rfl, rfl⟩ := trodVars_none hV
  obtain ⟨a0, rfl, rfl, rfl, w0⟩ := open_int Try.underlying3 (hval 0 3 v0 rfl rfl) h0
  obtain ⟨a1, rfl, rfl, rfl, w1⟩ := open_int Try.underlying3 (hval 1 3 v1 rfl rfl) h1
  clear hA0 hval0
  refine (walk a0 a1 w0 w1 W).mono fun e W' ⟨he, bel⟩ => ?_
  subst he
  exact ⟨_, rfl, _, _, _, [], _, [], hW', (trodAll_cons_mk (shut_bool Try.underlying4 _) trodAll_mk0), (trodAll_cons_mk (shut_int Try.underlying3 w0) (trodAll_cons_mk (shut_int Try.underlying3 w1) trodAll_mk0)), rfl, bel.frame _, fun h => by cases h⟩

theorem over : Rows.norFormsRow.holds Try.pinned (OpenSpec.ofChange Rows.norFormsSpec) :=
  OpenClaim.holds_of_wide 5 Try.f5 rfl rfl rfl rfl rfl rfl rfl ⟨rfl, rfl, rfl, rfl, rfl⟩ rfl rfl rfl rfl rfl (by kernel_rfl) Try.func5 (by kernel_rfl)
    (of_decide_eq_true (by kernel_rfl)) (by unfold Func.isWrapper; first | (rw [if_pos (by decide +kernel)]; kernel_rfl) | (rw [if_neg (by decide +kernel)]; exact ⟨rfl, rfl⟩))
    (fun os started H enc _ => lifted os started H enc)

theorem proved : Rows.NorFormsSaid :=
  over
#print axioms proved
end Go.Proofs.Ytfneeijadhahlaa.norForms
