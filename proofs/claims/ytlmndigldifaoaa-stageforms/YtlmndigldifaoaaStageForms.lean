/- Whatever the two numbers: the law StageForms returns true (slots, sizes and flashes that are none are refused; behind the greatest number there is none), and the arguments read as they did; no condition. -/
import Derived.Test.YtlmndigldifaoaaRows
import Derived.Test.YtlmndigldifaoaaStaAwake
import Derived.Test.YtlmndigldifaoaaEntRef
import Derived.BigQuiet
import Derived.ChangeOld
import Derived.Below
import Derived.WalkKit
import Derived.ProofKit
import Derived.OpenShut
import Derived.ShutString
namespace Go.Proofs.Ytlmndigldifaoaa.stageForms
open Go.ChangeShapes Go.WideShapes Go.ChangeAt Go.RowKit
open Go.ChangeMaps (open_string shut_string)
set_option linter.unusedVariables false

open Go.Proofs.Ytlmndigldifaoaa.Bytes
open Go.Proofs.Ytlmndigldifaoaa.NorWalk
open Go.Proofs.Ytlmndigldifaoaa.NorRef
open Go.Proofs.Ytlmndigldifaoaa.Ent
open Go.Proofs.Ytlmndigldifaoaa.EntRow
open Go.Proofs.Ytlmndigldifaoaa.EntWalk
open Go.Proofs.Ytlmndigldifaoaa.EntRef
open Go.Proofs.Ytlmndigldifaoaa.Jou
open Go.Proofs.Ytlmndigldifaoaa.JouRef
open Go.Proofs.Ytlmndigldifaoaa.Act
open Go.Proofs.Ytlmndigldifaoaa.Held
open Go.Proofs.Ytlmndigldifaoaa.HeldCalls
open Go.Proofs.Ytlmndigldifaoaa.Sta
open Go.Proofs.Ytlmndigldifaoaa.StaWalk
open Go.Proofs.Ytlmndigldifaoaa.StaAwake
theorem own : ownKnob Try.prog.godebug = none := by kernel_rfl

theorem build_top (w : World) : (Instr.build 29 #[(0, .int .i64 1048576), (2, .int .i64 5)]).run Try.prog w = .ok (.agg #[.int .i64 1048576, .int .i64 0, .int .i64 5, .int .i64 0]) w := run_build w 29 _ _ (by kernel_rfl)
theorem may_top : recMay 1048576 0 5 0 = true := by decide
/-- A record's bytes in the first place, all else blank. -/
def fullF (S : ByteArray) : ByteArray := S ++ Nor.blankS.extract 24 Nor.blankS.size
theorem size_fullF {S : ByteArray} (hS : S.size = 24) : (fullF S).size = 768 := by
  unfold fullF
  rw [ByteArray.size_append, ByteArray.size_extract, Nor.size_blankS, hS]
  omega
theorem full_list (S : ByteArray) : (fullF S).data.toList = S.data.toList ++ Nor.blankL.drop 24 := by
  unfold fullF
  rw [list_append, list_tail, Held.list_blankS]
theorem full_scan {q t z m : Int} (h : recMay q t z m = true) : scanL (fullF (putS q t z m)) = [⟨0, q, t, z, m⟩] := by
  have hS := size_putS h
  have hl : (putS q t z m).data.toList.length = 24 := by rw [Nor.size_list]; exact hS
  have h1 : slotS (fullF (putS q t z m)) 0 = putS q t z m := slotS_is hS fun i hi => by
    rw [full_list, List.getElem?_append_left (by omega), Nat.mul_zero, Nat.zero_add]
  rw [scan_ok (size_fullF hS), found_one (p := 0) h h1 8 (fun j h2 h3 => slot_full fun i hi => ?_), if_pos (by omega)]
  · rfl
  · rw [full_list, List.getElem?_append_right (by omega), hl, List.getElem?_drop, show 24 + (24 * j + i - 24) = 24 * j + i from by omega, Nor.get_blankL _ (by omega)]
theorem record_full (t : Nat) (ht : t ≤ 1) (w : World) : Calls Try.prog 10 #[.string (fullF (putS 1048576 0 5 0)), .int .i64 (t : Int), .int .i64 5] w fun e w' => e = .returned (.tuple #[.agg #[.int .i64 0, .int .i64 0, .int .i64 0, .int .i64 0], .int .i64 801]) ∧ Below w.heap.size w w' := by
  have h := record_any (fullF (putS 1048576 0 5 0)) (t : Int) 5 w
  have hz := size_fullF (size_putS may_top)
  obtain ⟨v1, v2, v3, v4, v5⟩ := rof_full (f := fullF (putS 1048576 0 5 0)) (t := (t : Int)) (z := 5) (rofOk_parts.2 ⟨hz, by omega, by omega, by omega, by omega⟩) (by unfold topI; rw [full_scan may_top]; show ¬ max (0 : Int) 1048576 < 1048576; omega)
  rw [v1, v2, v3, v4, v5] at h
  exact h
theorem no_rof {f : ByteArray} {t z : Int} (h : ¬ (f.size = 768 ∧ 0 ≤ t ∧ t ≤ 1 ∧ 1 ≤ z ∧ z ≤ 288)) : rofOk f t z = false := by unfold rofOk; exact decide_eq_false h
theorem no_base {t : Int} (h : ¬ (0 ≤ t ∧ t ≤ 1)) : baseOk t = false := by unfold baseOk; exact decide_eq_false h
theorem thenA {w a b : World} {o : Obj} (hB : Below w.heap.size w a) (hb : Below (a.alloc o).heap.size (a.alloc o) b) : Below w.heap.size w b := thenB (hB.alloc hB.size o) hb
theorem thenAA {w a b : World} {o p : Obj} (hB : Below w.heap.size w a) (hb : Below ((a.alloc o).alloc p).heap.size ((a.alloc o).alloc p) b) : Below w.heap.size w b := thenA (hB.alloc hB.size o) hb
theorem heldZ (w : World) : Calls Try.prog 20 #[] w fun e w' => ∃ F : ByteArray, e = .returned (.string F) ∧ ((F.size : Int) == 768) = true ∧ Below w.heap.size w w' := by
  refine (held9_any w).mono ?_
  rintro e w' ⟨rfl, hb⟩
  exact ⟨_, rfl, by rw [size_heldS]; rfl, hb⟩
set_option maxRecDepth 100000 in
set_option maxHeartbeats 4000000 in
theorem walk (a0 : Int) (a1 : Int) (w0 : (Lit.int .i64 a0).wf = true) (w1 : (Lit.int .i64 a1).wf = true) (w : World) :
    Calls Try.prog 5 #[.int .i64 a0, .int .i64 a1] w fun e w' => e = .returned (.bool true) ∧ Below w.heap.size w w' := by
  have hB : Below w.heap.size w w := Below.refl _ _
  obtain ⟨d, hd, md⟩ : ∃ k : Nat, k ≤ 1023 ∧ bits .and .i64 a1 1023 = (k : Int) := mask_i64 a1 1023 (by omega)
  obtain ⟨c, hc, mc⟩ : ∃ k : Nat, k ≤ 1 ∧ bits .and .i64 a0 1 = (k : Int) := mask_i64 a0 1 (by omega)
  have C1 := hide (fun w => refBlank_any w)
  have C2 := hide (fun w => record_full c hc w)
  have C3 := hide (fun w => record_zero (fullF (putS 1048576 0 5 0)) (c : Int) w)
  have C4 := hide (fun w => refPut_any 1048576 0 5 0 w)
  have C5 := hide (fun w => heldZ w)
  rw [may_top] at C4
  have e0 : errE true = 0 := rfl
  have br := build_top
  have z1 : Nor.blankS.size ≤ 768 := by rw [Nor.size_blankS]; omega
  have z2 : 768 ≤ Nor.blankS.size := by rw [Nor.size_blankS]; omega
  have z3 : (1 : Int) ≤ (Nor.blankS.size : Int) := by omega
  have z4 : (24 : Int) ≤ (Nor.blankS.size : Int) := by omega
  have M1 : Hid (rofOk (Nor.blankS.extract 1 Nor.blankS.size) 0 5 = false) := no_rof (by rw [ByteArray.size_extract]; omega)
  have HF : Hid (putS 1048576 0 5 0 ++ Nor.blankS.extract 24 Nor.blankS.size = fullF (putS 1048576 0 5 0)) := rfl
  have s1 : (putS 1048576 0 5 0).size ≤ 24 := by rw [size_putS may_top]; omega
  have q1 : ¬ 9223372036854775807 < (putS 1048576 0 5 0).size + (Nor.blankS.extract 24 Nor.blankS.size).size := by rw [ByteArray.size_extract]; omega
  generalize fullF (putS 1048576 0 5 0) = X at *
  generalize putS 1048576 0 5 0 = S at *
  generalize Nor.blankS = F at *
  obtain rfl | rfl : c = 0 ∨ c = 1 := by omega
  all_goals
    clear hc
    go_enter Try.func5, Try.ntmps5
    go_wp2_with (first | (go_at_call 15; refine (awake_any _).mono ?_; rintro e w' ⟨rfl, hb⟩; replace hB := hB.trans (hb.mono hB.size); clear hb) | (go_at_call 18; refine (C1.out _).mono ?_; rintro e w' ⟨rfl, hb⟩; replace hB := hB.trans (hb.mono hB.size); clear hb))
    refine (erases_no _ _ (no_base (by omega))).mono ?_; rintro e w2 ⟨rfl, rfl⟩
    go_wp2_with fail
    refine (record_no _ _ _ _ M1.out).mono ?_; rintro e w3 ⟨rfl, hb⟩; replace hB := thenA hB hb; clear hb
    go_wp2_with fail
    refine (record_no _ _ _ _ (no_rof (by omega))).mono ?_; rintro e w4 ⟨rfl, hb⟩; replace hB := thenAA hB hb; clear hb
    go_wp2_with fail
    refine (record_no _ _ _ _ (no_rof (by omega))).mono ?_; rintro e w5 ⟨rfl, hb⟩; replace hB := thenAA hB hb; clear hb
    go_wp2_with fail
    refine (C4.out _).mono ?_; rintro e w6 ⟨rfl, hb⟩; replace hB := thenA hB hb; clear hb
    go_wp2_with fail
    rw [HF.out]
    refine (C2.out _).mono ?_; rintro e w7 ⟨rfl, hb⟩; replace hB := thenB hB hb; clear hb
    go_wp2_with fail
    refine (C3.out _).mono ?_; rintro e w8 ⟨rfl, hb⟩; replace hB := thenA hB hb; clear hb
    replace hB := hB.alloc hB.size (.cells #[.int .i64 0, .int .i64 0, .int .i64 0, .int .i64 0] 29)
    go_wp2_with (first | (go_at_call 13; refine (numJ_any _ _).mono ?_; rintro e w' ⟨rfl, rfl⟩) | (go_at_call 20; refine (C5.out _).mono ?_; rintro e w9 ⟨G, rfl, g1, hb⟩; replace hB := thenB hB hb; clear hb))
    go_ret
    exact ⟨rfl, hB⟩

set_option maxRecDepth 100000 in
theorem lifted (os : Os) (started : os.Started) (H : Type) (enc : TypeId × Value → H) :
    ReturnsInHanded {} Try.checked os 5 .any (Rows.stageFormsSpec.pre6 enc Try.prog Try.f5 Rows.stageFormsRow.domain false) (Rows.stageFormsSpec.post enc Try.prog Try.f5 false true false false) := by
  refine returnsInHanded_of_change (C := Try.checked) own started (by kernel_rfl) Try.func5
    (ChangeSpec.witness6 (enc := enc) (C := Try.checked) false ⟨#[], #[.int .i64 0, .int .i64 0], []⟩ 8 (by kernel_rfl) (by kernel_rfl) (by kernel_rfl) (by kernel_rfl)) ?_
  intro W base args ds gs before hval0 hW hcnd _
  have hval : ∀ (j : Nat) t v, Try.f5.params[j]? = some t → args[j]? = some v → Value.okWide Try.prog W .any base t v := hval0
  have hW' := hW
  obtain ⟨p, q, hA0, hV, rfl, hfz, hnd⟩ := hW
  have hA : DataW.TrodAll enc Try.prog W 0 (fun _ => true) true Try.f5.params.toList args.toList ds p := hA0
  rw [Try.params5] at hA hval
  obtain ⟨v0, vs0, d0, ds0, p0, q0, hargs, rfl, rfl, h0, r0⟩ := trodAll_cons hA
  obtain ⟨v1, vs1, d1, ds1, p1, q1, rfl, rfl, rfl, h1, r1⟩ := trodAll_cons r0
  obtain ⟨rfl, rfl, rfl⟩ := trodAll_nil r1
  obtain rfl : args = #[v0, v1] := by cases args; simp_all
  obtain ⟨rfl, rfl⟩ := trodVars_none hV
  obtain ⟨a0, rfl, rfl, rfl, w0⟩ := open_int Try.underlying3 (hval 0 3 v0 rfl rfl) h0
  obtain ⟨a1, rfl, rfl, rfl, w1⟩ := open_int Try.underlying3 (hval 1 3 v1 rfl rfl) h1
  clear hA0 hval0
  refine (walk a0 a1 w0 w1 W).mono fun e W' ⟨he, bel⟩ => ?_
  subst he
  exact ⟨_, rfl, _, _, _, [], _, [], hW', (trodAll_cons_mk (shut_bool Try.underlying4 _) trodAll_mk0), (trodAll_cons_mk (shut_int Try.underlying3 w0) (trodAll_cons_mk (shut_int Try.underlying3 w1) trodAll_mk0)), rfl, bel.frame _, fun h => by cases h⟩

theorem over : Rows.stageFormsRow.holds Try.pinned (OpenSpec.ofChange Rows.stageFormsSpec) :=
  OpenClaim.holds_of_wide 5 Try.f5 rfl rfl rfl rfl rfl rfl rfl ⟨rfl, rfl, rfl, rfl, rfl⟩ rfl rfl rfl rfl rfl (by kernel_rfl) Try.func5 (by kernel_rfl)
    (of_decide_eq_true (by kernel_rfl)) (by unfold Func.isWrapper; first | (rw [if_pos (by decide +kernel)]; kernel_rfl) | (rw [if_neg (by decide +kernel)]; exact ⟨rfl, rfl⟩))
    (fun os started H enc _ => lifted os started H enc)

theorem proved : Rows.StageFormsSaid :=
  over
#print axioms proved
end Go.Proofs.Ytlmndigldifaoaa.stageForms
