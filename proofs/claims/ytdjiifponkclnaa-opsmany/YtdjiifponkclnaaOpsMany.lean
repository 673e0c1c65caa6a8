/- Whatever the place and the text: the law OpsMany returns true (a text has as many words as it needs, one behind the other, the last one filled), and the arguments read as they did; no condition. -/
import Derived.Test.YtdjiifponkclnaaRows
import Derived.Test.YtdjiifponkclnaaNorMath
import Derived.Test.YtdjiifponkclnaaBytes
import Derived.Test.YtdjiifponkclnaaNorWalk
import Derived.Test.YtdjiifponkclnaaNorRef
import Derived.Test.YtdjiifponkclnaaOpsMath
import Derived.Test.YtdjiifponkclnaaOpsRow
import Derived.Test.YtdjiifponkclnaaOpsWalk
import Derived.Test.YtdjiifponkclnaaOpsWords
import Derived.Test.YtdjiifponkclnaaOpsHelp
import Derived.Test.YtdjiifponkclnaaOpsAwake
import Derived.ChangeOld
import Derived.Below
import Derived.WalkKit
import Derived.ProofKit
import Derived.OpenShut
import Derived.ShutString
namespace Go.Proofs.Ytdjiifponkclnaa.opsMany
open Go.ChangeShapes Go.WideShapes Go.ChangeAt Go.RowKit
open Go.ChangeMaps (open_string shut_string)
set_option linter.unusedVariables false

open Go.Proofs.Ytdjiifponkclnaa.Bytes
open Go.Proofs.Ytdjiifponkclnaa.Ops
open Go.Proofs.Ytdjiifponkclnaa.OpsRow
open Go.Proofs.Ytdjiifponkclnaa.OpsWalk
open Go.Proofs.Ytdjiifponkclnaa.OpsWords
open Go.Proofs.Ytdjiifponkclnaa.OpsHelp
open Go.Proofs.Ytdjiifponkclnaa.OpsAwake
theorem own : ownKnob Try.prog.godebug = none := by kernel_rfl

set_option maxHeartbeats 2000000 in
theorem walk (a0 : Int) (a1 : ByteArray) (w0 : (Lit.int .i64 a0).wf = true) (w1 : a1.size ≤ maxLen) (w : World) :
    Calls Try.prog 7 #[.int .i64 a0, .string a1] w fun e w' => e = .returned (.bool true) ∧ Below w.heap.size w w' := by
  have hB : Below w.heap.size w w := Below.refl _ _
  cases k1 : wordsOk a0 a1 with
  | false =>
    go_enter Try.func7, Try.ntmps7
    go_wp2_with (first | (go_at_call 20; refine (awake_any _).mono ?_; rintro e w' ⟨rfl, hb⟩; replace hB := hB.trans (hb.mono hB.size); clear hb))
    refine (words_no _ _ _ k1).mono ?_
    rintro e w' ⟨rfl, rfl⟩
    go_wp2_with (first | (go_at_call 17; refine (num_any _ _).mono ?_; rintro e w' ⟨rfl, rfl⟩))
    go_ret
    exact ⟨rfl, hB⟩
  | true =>
    obtain ⟨p1, p2, p3, p4⟩ := wordsOk_parts.1 k1
    clear p3
    have hN : wordsN a1 ≤ 192 := by unfold wordsN; omega
    have hN1 : a1.size ≤ 4 * wordsN a1 := by unfold wordsN; omega
    have hN2 : 4 * wordsN a1 < a1.size + 4 := by unfold wordsN; omega
    have HM := hide (fun i hi => wordsMay k1 i hi)
    have HG := hide (fun i h => get_wordsTo a0 a1 (wordsN a1) i h)
    have HL := hide (length_wordsTo a0 a1 (wordsN a1))
    have HJ := hide (fun n => size_joinTo a1 n)
    have HH := hide (fun n h => join_head a1 n h)
    have H5 := hide (fun n i h hi => join_get a1 n i h hi)
    go_enter Try.func7, Try.ntmps7
    go_wp2_with (first | (go_at_call 20; refine (awake_any _).mono ?_; rintro e w' ⟨rfl, hb⟩; replace hB := hB.trans (hb.mono hB.size); clear hb))
    refine (words_yes _ _ _ k1).mono ?_
    rintro e w1 ⟨v, rfl, hown, hb⟩
    replace hB := thenB hB hb
    clear hb
    generalize wordsN a1 = N at *
    obtain ⟨a, cap, rfl, ha⟩ := owns_is hown
    clear hown
    rw [HL.out]
    generalize wordsTo a0 a1 N = l at *
    go_wp2_with (first | (go_at_call 17; refine (num_any _ _).mono ?_; rintro e w' ⟨rfl, rfl⟩))
    go_loopw [7, 8] (fun s x wr => ∃ j : Nat, j ≤ N ∧ x = .int .i64 j ∧ s = .string (joinTo a1 j) ∧ Below w.heap.size w wr ∧ (l = [] ∨ ∃ g, a = some ⟨g, 0, none⟩ ∧ g < wr.heap.size ∧ OpsIn wr g l)) (fun _ x _ => N - (intOf x).toNat)
    case atStart => exact ⟨0, Nat.zero_le _, rfl, rfl, hB, ha⟩
    case round =>
      clear hB ha
      obtain ⟨j, hj, rfl, rfl, hB, ha⟩ := hrel
      by_cases hlt : j < N
      · rcases ha with ha | ⟨g, rfl, hg, ha⟩
        · rw [ha] at HL; have := HL.out; simp at this; omega
        have hjl : j < l.length := by rw [HL.out]; exact hlt
        have c1 := ha.er j hjl
        have c2 := ha.pl j hjl
        have c3 := ha.tx j hjl
        rw [HG.out j hjl] at c1 c2 c3
        have m1 := HM.out j hlt
        have z1 := size_wordS a1 j
        have z2 : (joinTo a1 j).size ≤ 768 := by rw [HJ.out]; omega
        have HS : Hid (joinTo a1 (j + 1) = joinTo a1 j ++ wordS a1 j) := rfl
        generalize wordS a1 j = W at *
        go_wp2_with (go_at_call 18; refine (opMay_any _ _ _ _).mono ?_; rintro e w2 ⟨rfl, hb⟩; have oc := old_cells hb)
        refine ⟨⟨j + 1, by omega, by go_num, by rw [HS.out], thenB hB hb, .inr ⟨g, rfl, Nat.lt_of_lt_of_le hg hb.size, ha.below hb hg⟩⟩, by simp [intOf]; omega⟩
      · obtain rfl : j = N := by omega
        have zS : (joinTo a1 j).size = 4 * j := HJ.out j
        have hH : (joinTo a1 j).extract 0 a1.size = a1 := ba_ext (by rw [list_head]; exact HH.out j hN1)
        have zS1 : a1.size ≤ (joinTo a1 j).size := by omega
        have zS2 : (joinTo a1 j).size < a1.size + 4 := by omega
        have zS3 : (joinTo a1 j).size ≤ 768 := by omega
        have H6 := hide (fun i h hi => H5.out j i h hi)
        clear zS ha HG HL HJ HH H5 HM
        generalize joinTo a1 j = S at *
        go_wp2
        go_loopw [9] (fun x w2 => ∃ i : Nat, a1.size ≤ i ∧ i ≤ S.size ∧ x = .int .i64 i ∧ w2 = wr) (fun x _ => S.size - (intOf x).toNat)
        case atStart => exact ⟨a1.size, Nat.le_refl _, zS1, rfl, rfl⟩
        case round =>
          obtain ⟨i, hi1, hi2, rfl, rfl⟩ := hrel
          clear hH
          by_cases hlt2 : i < S.size
          · have h7 := H6.out i hi1 hlt2
            go_wp2
            exact ⟨⟨i + 1, by omega, by omega, by go_num, trivial⟩, by simp [intOf]; omega⟩
          · go_wp2
            go_ret
            exact ⟨rfl, hB⟩

set_option maxRecDepth 100000 in
theorem lifted (os : Os) (started : os.Started) (H : Type) (enc : TypeId × Value → H) :
    ReturnsInHanded {} Try.checked os 7 .any (Rows.opsManySpec.pre6 enc Try.prog Try.f7 Rows.opsManyRow.domain false) (Rows.opsManySpec.post enc Try.prog Try.f7 false true false false) := by
  refine returnsInHanded_of_change (C := Try.checked) own started (by kernel_rfl) Try.func7
    (ChangeSpec.witness6 (enc := enc) (C := Try.checked) false ⟨#[], #[.int .i64 0, .string ByteArray.empty], []⟩ 8 (by kernel_rfl) (by kernel_rfl) (by kernel_rfl) (by kernel_rfl)) ?_
  intro W base args ds gs before hval0 hW hcnd _
  have hval : ∀ (j : Nat) t v, Try.f7.params[j]? = some t → args[j]? = some v → Value.okWide Try.prog W .any base t v := hval0
  have hW' := hW
  obtain ⟨p, q, hA0, hV, rfl, hfz, hnd⟩ := hW
  have hA : DataW.TrodAll enc Try.prog W 0 (fun _ => true) true Try.f7.params.toList args.toList ds p := hA0
  rw [Try.params7] at hA hval
  obtain ⟨v0, vs0, d0, ds0, p0, q0, hargs, rfl, rfl, h0, r0⟩ := trodAll_cons hA
  obtain ⟨v1, vs1, d1, ds1, p1, q1, rfl, rfl, rfl, h1, r1⟩ := trodAll_cons r0
  obtain ⟨rfl, rfl, rfl⟩ := trodAll_nil r1
  obtain rfl : args = #[v0, v1] := by cases args; simp_all
  obtain ⟨rfl, rfl⟩ := trodVars_none hV
  obtain ⟨a0, rfl, rfl, rfl, w0⟩ := open_int Try.underlying3 (hval 0 3 v0 rfl rfl) h0
  obtain ⟨a1, rfl, rfl, rfl, w1⟩ := open_string Try.underlying9 (hval 1 9 v1 rfl rfl) h1
  clear hA0 hval0
  refine (walk a0 a1 w0 w1 W).mono fun e W' ⟨he, bel⟩ => ?_
  subst he
  exact ⟨_, rfl, _, _, _, [], _, [], hW', (trodAll_cons_mk (shut_bool Try.underlying4 _) trodAll_mk0), (trodAll_cons_mk (shut_int Try.underlying3 w0) (trodAll_cons_mk (shut_string Try.underlying9 w1) trodAll_mk0)), rfl, bel.frame _, fun h => by cases h⟩

theorem over : Rows.opsManyRow.holds Try.pinned (OpenSpec.ofChange Rows.opsManySpec) :=
  OpenClaim.holds_of_wide 7 Try.f7 rfl rfl rfl rfl rfl rfl rfl ⟨rfl, rfl, rfl, rfl, rfl⟩ rfl rfl rfl rfl rfl (by kernel_rfl) Try.func7 (by kernel_rfl)
    (of_decide_eq_true (by kernel_rfl)) (by unfold Func.isWrapper; first | (rw [if_pos (by decide +kernel)]; kernel_rfl) | (rw [if_neg (by decide +kernel)]; exact ⟨rfl, rfl⟩))
    (fun os started H enc _ => lifted os started H enc)

theorem proved : Rows.OpsManySaid :=
  over
#print axioms proved
end Go.Proofs.Ytdjiifponkclnaa.opsMany
