/- Whatever the place and the text: the law OpsWrite returns true (a text's words done one by one on blank flash write it, and turn nothing else), and the arguments read as they did; no condition. -/
import Derived.Test.YtdjiifponkclnaaRows
import Derived.Test.YtdjiifponkclnaaNorMath
import Derived.Test.YtdjiifponkclnaaBytes
import Derived.Test.YtdjiifponkclnaaNorWalk
import Derived.Test.YtdjiifponkclnaaNorRef
import Derived.Test.YtdjiifponkclnaaOpsMath
import Derived.Test.YtdjiifponkclnaaOpsRow
import Derived.Test.YtdjiifponkclnaaOpsWalk
import Derived.Test.YtdjiifponkclnaaOpsWords
import Derived.Test.YtdjiifponkclnaaOpsHelp
import Derived.Test.YtdjiifponkclnaaOpsAwake
import Derived.Deep.RegionWith
import Derived.RegionTactic
import Derived.Deep.DrawnRows
import Derived.Deep.RegionHeld3
import Derived.ChangeOld
import Derived.Below
import Derived.WalkKit
import Derived.ProofKit
import Derived.OpenShut
import Derived.ShutString
namespace Go.Proofs.Ytdjiifponkclnaa.opsWrite
open Go.ChangeShapes Go.WideShapes Go.ChangeAt Go.RowKit
open Go.ChangeMaps (open_string shut_string)
set_option linter.unusedVariables false

open Go.Proofs.Ytdjiifponkclnaa.Bytes
open Go.Proofs.Ytdjiifponkclnaa.NorRef
open Go.Proofs.Ytdjiifponkclnaa.Ops
open Go.Proofs.Ytdjiifponkclnaa.OpsRow
open Go.Proofs.Ytdjiifponkclnaa.OpsWalk
open Go.Proofs.Ytdjiifponkclnaa.OpsWords
open Go.Proofs.Ytdjiifponkclnaa.OpsHelp
open Go.Proofs.Ytdjiifponkclnaa.OpsAwake
theorem own : ownKnob Try.prog.godebug = none := by kernel_rfl

attribute [local go_sem ↓] Go.wp_at_zero Go.wp_at_succ
set_option maxHeartbeats 4000000 in
set_option maxRecDepth 100000 in
theorem walk (a0 : Int) (a1 : ByteArray) (w0 : (Lit.int .i64 a0).wf = true) (w1 : a1.size ≤ maxLen) (w : World) :
    Calls Try.prog 4 #[.int .i64 a0, .string a1] w fun e w' => e = .returned (.bool true) ∧ Below w.heap.size w w' := by
  have hB : Below w.heap.size w w := Below.refl _ _
  cases k1 : wordsOk a0 a1 with
  | false =>
    go_enter Try.func4, Try.ntmps4
    go_wp2_with (first | (go_at_call 20; refine (awake_any _).mono ?_; rintro e w' ⟨rfl, hb⟩; replace hB := hB.trans (hb.mono hB.size); clear hb) | (go_at_call 21; refine (refBlank_any _).mono ?_; rintro e w' ⟨rfl, hb⟩; replace hB := hB.trans (hb.mono hB.size); clear hb))
    refine (words_no _ _ _ k1).mono ?_
    rintro e w' ⟨rfl, rfl⟩
    go_wp2_with (first | (go_at_call 17; refine (num_any _ _).mono ?_; rintro e w' ⟨rfl, rfl⟩))
    go_ret
    exact ⟨rfl, hB⟩
  | true =>
    obtain ⟨p1, p2, p3, p4⟩ := wordsOk_parts.1 k1
    clear p3
    obtain ⟨p, rfl⟩ := Int.eq_ofNat_of_zero_le p1
    have hp : p + a1.size ≤ 768 := by omega
    have hN : wordsN a1 ≤ 192 := by unfold wordsN; omega
    have HG := hide (fun i h => get_wordsTo (p : Int) a1 (wordsN a1) i h)
    have HL := hide (length_wordsTo (p : Int) a1 (wordsN a1))
    have HS := hide (fun i hi => wrote_step k1 i hi)
    have HZ := hide (fun n => size_wroteS a1 p n)
    have H0 := hide (wroteS_0 a1 p)
    have m1 : (wroteS a1 p (wordsN a1)).extract p (p + a1.size) = a1 := ba_ext (by rw [list_extract, list_wroteS, show p + a1.size - p = a1.size from by omega]; exact wrote_mid k1)
    have m2 : (wroteS a1 p (wordsN a1)).extract 0 p = Nor.blankS.extract 0 p := ba_ext (by rw [list_head, list_head, list_wroteS]; exact wrote_head a1 p _)
    have m3 : (wroteS a1 p (wordsN a1)).extract (p + a1.size) (wroteS a1 p (wordsN a1)).size = Nor.blankS.extract (p + a1.size) Nor.blankS.size := ba_ext (by rw [list_tail, list_tail, list_wroteS]; exact wrote_tail a1 p _)
    have sz0 := Nor.size_blankS
    rw [size_wroteS, sz0] at m3
    have HM := hide (And.intro m1 (And.intro m2 m3))
    clear m1 m2 m3
    go_enter Try.func4, Try.ntmps4
    go_wp2_with (first | (go_at_call 20; refine (awake_any _).mono ?_; rintro e w' ⟨rfl, hb⟩; replace hB := hB.trans (hb.mono hB.size); clear hb) | (go_at_call 21; refine (refBlank_any _).mono ?_; rintro e w' ⟨rfl, hb⟩; replace hB := hB.trans (hb.mono hB.size); clear hb))
    refine (words_yes _ _ _ k1).mono ?_
    rintro e w1 ⟨v, rfl, hown, hb⟩
    replace hB := thenB hB hb
    clear hb
    generalize wordsN a1 = N at *
    obtain ⟨a, cap, rfl, ha⟩ := owns_is hown
    clear hown
    rw [HL.out]
    generalize wordsTo (p : Int) a1 N = l at *
    go_wp2_with (first | (go_at_call 17; refine (num_any _ _).mono ?_; rintro e w' ⟨rfl, rfl⟩))
    go_loopw [5, 8] (fun s x wr => ∃ j : Nat, j ≤ N ∧ x = .int .i64 j ∧ s = .string (wroteS a1 p j) ∧ Below w.heap.size w wr ∧ (l = [] ∨ ∃ g, a = some ⟨g, 0, none⟩ ∧ g < wr.heap.size ∧ OpsIn wr g l)) (fun _ x _ => N - (intOf x).toNat)
    case atStart => exact ⟨0, Nat.zero_le _, rfl, by rw [H0.out], hB, ha⟩
    case round =>
      clear hB ha
      obtain ⟨j, hj, rfl, rfl, hB, ha⟩ := hrel
      by_cases hlt : j < N
      · rcases ha with ha | ⟨g, rfl, hg, ha⟩
        · rw [ha] at HL; have := HL.out; simp at this; omega
        have hjl : j < l.length := by rw [HL.out]; exact hlt
        have c1 := ha.er j hjl
        have c2 := ha.pl j hjl
        have c3 := ha.tx j hjl
        rw [HG.out j hjl] at c1 c2 c3
        obtain ⟨s1, s2⟩ := HS.out j hlt
        have z1 := HZ.out (j + 1)
        have cD := fun w => do_any (wroteS a1 p j) false ((p : Int) + 4 * (j : Int)) (wordS a1 j) w
        rw [s1, s2] at cD
        have CD := hide cD
        clear cD s1 s2
        generalize hF1 : wroteS a1 p (j + 1) = F1 at *
        have HF1 := hide hF1
        clear hF1
        generalize wroteS a1 p j = F0 at *
        go_wp2_with fail
        refine (CD.out _).mono ?_
        rintro e w2 ⟨rfl, hb⟩
        have e0 : errO true = 0 := rfl
        have z2 : F1.size ≤ 768 := by omega
        go_wp2_with (first | (go_at_call 17; refine (num_any _ _).mono ?_; rintro e w' ⟨rfl, rfl⟩))
        refine ⟨⟨j + 1, by omega, by go_num, by rw [HF1.out], thenB hB hb, .inr ⟨g, rfl, Nat.lt_of_lt_of_le hg hb.size, ha.below hb hg⟩⟩, by simp [intOf]; omega⟩
      · obtain rfl : j = N := by omega
        obtain ⟨m1, m2, m3⟩ := HM.out
        have zF := HZ.out j
        clear HM HS HZ HG HL H0 ha
        generalize wroteS a1 p j = F at *
        obtain ⟨q, hq⟩ : ∃ q : Nat, q = p + a1.size := ⟨_, rfl⟩
        have hq1 : (p : Int) + (a1.size : Int) = (q : Int) := by omega
        have hq3 : IntKind.i64.wrap (q : Int) = (q : Int) := by rw [IntKind.wrap_i64]; omega
        have hq2 : q ≤ 768 := by omega
        have hq4 : p ≤ q := by omega
        rw [← hq] at m1 m3
        have d1 : decide ((a1.size : Int) ≤ 768 - (p : Int)) = true := by simp; omega
        have d2 : decide ((p : Int) ≤ 768) = true := by simp; omega
        have b1 : (0 : Int) ≤ (p : Int) := by omega
        have b2 : (p : Int) ≤ (q : Int) := by omega
        have b3 : (q : Int) ≤ 768 := by omega
        have hq5 : IntKind.i64.wrap (768 - (p : Int)) = 768 - (p : Int) := by rw [IntKind.wrap_i64]; omega
        have HQ : Hid (q = p + a1.size) := hq
        clear hq
        go_wp2
        go_region_held3 (fun _ => True) (trivial) (first | (go_at_call 21; refine (refBlank_any _).mono ?_; rintro e w' ⟨rfl, hb⟩; replace hB := thenD hb hB rfl rfl rfl rfl; clear hb))
        go_wp2
        go_ret
        exact ⟨rfl, hB⟩

set_option maxRecDepth 100000 in
theorem lifted (os : Os) (started : os.Started) (H : Type) (enc : TypeId × Value → H) :
    ReturnsInHanded {} Try.checked os 4 .any (Rows.opsWriteSpec.pre6 enc Try.prog Try.f4 Rows.opsWriteRow.domain false) (Rows.opsWriteSpec.post enc Try.prog Try.f4 false true false false) := by
  refine returnsInHanded_of_change (C := Try.checked) own started (by kernel_rfl) Try.func4
    (ChangeSpec.witness6 (enc := enc) (C := Try.checked) false ⟨#[], #[.int .i64 0, .string ByteArray.empty], []⟩ 8 (by kernel_rfl) (by kernel_rfl) (by kernel_rfl) (by kernel_rfl)) ?_
  intro W base args ds gs before hval0 hW hcnd _
  have hval : ∀ (j : Nat) t v, Try.f4.params[j]? = some t → args[j]? = some v → Value.okWide Try.prog W .any base t v := hval0
  have hW' := hW
  obtain ⟨p, q, hA0, hV, rfl, hfz, hnd⟩ := hW
  have hA : DataW.TrodAll enc Try.prog W 0 (fun _ => true) true Try.f4.params.toList args.toList ds p := hA0
  rw [Try.params4] at hA hval
  obtain ⟨v0, vs0, d0, ds0, p0, q0, hargs, rfl, rfl, h0, r0⟩ := trodAll_cons hA
  obtain ⟨v1, vs1, d1, ds1, p1, q1, rfl, rfl, rfl, h1, r1⟩ := trodAll_cons r0
  obtain ⟨rfl, rfl, rfl⟩ := trodAll_nil r1
  obtain rfl : args = #[v0, v1] := by cases args; simp_all
  obtain ⟨rfl, rfl⟩ := trodVars_none hV
  obtain ⟨a0, rfl, rfl, rfl, w0⟩ := open_int Try.underlying3 (hval 0 3 v0 rfl rfl) h0
  obtain ⟨a1, rfl, rfl, rfl, w1⟩ := open_string Try.underlying9 (hval 1 9 v1 rfl rfl) h1
  clear hA0 hval0
  refine (walk a0 a1 w0 w1 W).mono fun e W' ⟨he, bel⟩ => ?_
  subst he
  exact ⟨_, rfl, _, _, _, [], _, [], hW', (trodAll_cons_mk (shut_bool Try.underlying4 _) trodAll_mk0), (trodAll_cons_mk (shut_int Try.underlying3 w0) (trodAll_cons_mk (shut_string Try.underlying9 w1) trodAll_mk0)), rfl, bel.frame _, fun h => by cases h⟩

theorem over : Rows.opsWriteRow.holds Try.pinned (OpenSpec.ofChange Rows.opsWriteSpec) :=
  OpenClaim.holds_of_wide 4 Try.f4 rfl rfl rfl rfl rfl rfl rfl ⟨rfl, rfl, rfl, rfl, rfl⟩ rfl rfl rfl rfl rfl (by kernel_rfl) Try.func4 (by kernel_rfl)
    (of_decide_eq_true (by kernel_rfl)) (by unfold Func.isWrapper; first | (rw [if_pos (by decide +kernel)]; kernel_rfl) | (rw [if_neg (by decide +kernel)]; exact ⟨rfl, rfl⟩))
    (fun os started H enc _ => lifted os started H enc)

theorem proved : Rows.OpsWriteSaid :=
  over
#print axioms proved
end Go.Proofs.Ytdjiifponkclnaa.opsWrite
