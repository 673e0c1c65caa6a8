/- Whatever the three numbers and the text: the law AnswerBack returns true (an answer comes back from its bytes; a text that is one is put as it stood), and the arguments read as they did; no condition. -/
import Derived.Test.YtddelbjnnkhgbaaRows
import Derived.Test.YtddelbjnnkhgbaaNorMath
import Derived.Test.YtddelbjnnkhgbaaBytes
import Derived.Test.YtddelbjnnkhgbaaNorWalk
import Derived.Test.YtddelbjnnkhgbaaOpsMath
import Derived.Test.YtddelbjnnkhgbaaOpsRow
import Derived.Test.YtddelbjnnkhgbaaCrcMath
import Derived.Test.YtddelbjnnkhgbaaEntMath
import Derived.Test.YtddelbjnnkhgbaaEntRow
import Derived.Test.YtddelbjnnkhgbaaEntLow
import Derived.Test.YtddelbjnnkhgbaaEntWalk
import Derived.Test.YtddelbjnnkhgbaaSufMath
import Derived.Test.YtddelbjnnkhgbaaAnsMath
import Derived.Test.YtddelbjnnkhgbaaAnsWalk
import Derived.Test.YtddelbjnnkhgbaaAnsAwake
import Derived.Laws.StructEq
import Derived.Deep.Cut
import Derived.ChangeOld
import Derived.Below
import Derived.WalkKit
import Derived.ProofKit
import Derived.OpenShut
import Derived.ShutString
namespace Go.Proofs.Ytddelbjnnkhgbaa.answerBack
open Go.ChangeShapes Go.WideShapes Go.ChangeAt Go.RowKit
open Go.ChangeMaps (open_string shut_string)
set_option linter.unusedVariables false

open Go.Proofs.Ytddelbjnnkhgbaa.Bytes
open Go.Proofs.Ytddelbjnnkhgbaa.Ans
open Go.Proofs.Ytddelbjnnkhgbaa.AnsWalk
open Go.Proofs.Ytddelbjnnkhgbaa.AnsAwake
theorem own : ownKnob Try.prog.godebug = none := by kernel_rfl

open Go.Proofs.Ytddelbjnnkhgbaa.OpsRow (boxM boxB)
set_option maxRecDepth 100000 in
set_option maxHeartbeats 4000000 in
theorem walk (a0 : Int) (a1 : Int) (a2 : Int) (a3 : ByteArray) (w0 : (Lit.int .i64 a0).wf = true) (w1 : (Lit.int .i64 a1).wf = true) (w2 : (Lit.int .i64 a2).wf = true) (w3 : a3.size ≤ maxLen) (w : World) :
    Calls Try.prog 5 #[.int .i64 a0, .int .i64 a1, .int .i64 a2, .string a3] w fun e w' => e = .returned (.bool true) ∧ Below w.heap.size w w' := by
  have HA := hide awake_any
  have b1 := build_ans
  have b2 := build_no
  obtain ⟨c, hc, mc⟩ : ∃ k : Nat, k < 7 ∧ wrap64 ((IntKind.u64.wrap a0).tmod 7) = (k : Int) := mod_u64 a0 7 (by omega) (by omega)
  obtain ⟨v, hv, mv⟩ : ∃ k : Nat, k ≤ 255 ∧ bits .and .i64 a1 255 = (k : Int) := mask_i64 a1 255 (by omega)
  obtain ⟨n, hn, mn⟩ : ∃ k : Nat, k ≤ 7 ∧ bits .and .i64 a2 7 = (k : Int) := mask_i64 a2 7 (by omega)
  have k1 : ansB (c : Int) (v : Int) (n : Int) = true := ansB_parts.2 (by omega)
  have CB := hide fun w => aput_yes (c : Int) (v : Int) (n : Int) w k1
  have CH := hide fun w => aget_put k1 w
  have z : (((ansS (c : Int) (v : Int) (n : Int)).size : Int) != 6) = false := by rw [size_ansS k1]; rfl
  obtain ⟨C, V, L, E, CG, hb0⟩ : ∃ C V L E, Hid (∀ w, Calls Try.prog 9 #[.string a3] w fun e w' => e = .returned (.tuple #[.agg #[.int .i64 C, .int .i64 V, .int .i64 L], .int .i64 E]) ∧ Below w.heap.size w w') ∧ Hid (((E != 0) = true ∧ C = 0 ∧ V = 0 ∧ L = 0) ∨ (E = 0 ∧ ∀ w, Calls Try.prog 7 #[.agg #[.int .i64 C, .int .i64 V, .int .i64 L]] w fun e w' => e = .returned (.tuple #[.string a3, .int .i64 0]) ∧ Below w.heap.size w w')) := by
    refine ⟨_, _, _, _, fun w => aget_any a3 w, ?_⟩
    cases k : isAns a3 with
    | false => exact .inl ⟨rfl, ans_none k⟩
    | true =>
      obtain ⟨u1, u2⟩ := put_ans k
      refine .inr ⟨rfl, fun w => ?_⟩
      have := aput_yes (aSt a3) (aTi a3) (aSa a3) w u1
      rw [u2] at this
      exact this
  clear k1 hc hv hn
  generalize ansS (c : Int) (v : Int) (n : Int) = S at *
  go_enter Try.func5, Try.ntmps5
  go_upto_region 4 with (go_at_call 14; refine (HA.out _).mono ?_; rintro e w1 ⟨rfl, hb1⟩)
  have hX := boxM w1 (.int .i64 (c : Int)) (.int .i64 (v : Int)) (.int .i64 (n : Int)) 23
  have hB := hb1.alloc hb1.size (.cells #[.int .i64 (c : Int), .int .i64 (v : Int), .int .i64 (n : Int)] 23)
  generalize w1.alloc (.cells #[.int .i64 (c : Int), .int .i64 (v : Int), .int .i64 (n : Int)] 23) = W1 at *
  generalize w1.heap.size = X at *
  clear hb1 mc mv mn
  go_wp2_with fail
  refine (CB.out _).mono ?_; rintro e w3 ⟨rfl, hb⟩; replace hB := thenB hB hb; replace hX := boxB hX hb; clear hb
  go_wp2_with fail
  refine (CH.out _).mono ?_; rintro e w4 ⟨rfl, hb⟩; replace hB := thenB hB hb; replace hX := boxB hX hb; clear hb
  have hY := boxM w4 (.int .i64 (c : Int)) (.int .i64 (v : Int)) (.int .i64 (n : Int)) 23
  replace hX := boxB hX ((Below.refl _ _).alloc (Nat.le_refl _) (.cells #[.int .i64 (c : Int), .int .i64 (v : Int), .int .i64 (n : Int)] 23))
  replace hB := hB.alloc hB.size (.cells #[.int .i64 (c : Int), .int .i64 (v : Int), .int .i64 (n : Int)] 23)
  go_wp2_with (first | (go_at_call 11; refine (num_any _ _).mono ?_; rintro e w' ⟨rfl, rfl⟩))
  generalize w4.alloc (.cells #[.int .i64 (c : Int), .int .i64 (v : Int), .int .i64 (n : Int)] 23) = W at *
  clear hX hY
  refine (CG.out _).mono ?_; rintro e w5 ⟨rfl, hb⟩; replace hB := thenB hB hb; clear hb
  rcases hb0.out with ⟨hE, rfl, rfl, rfl⟩ | ⟨rfl, cP⟩
  · have hZ := boxM w5 (.int .i64 0) (.int .i64 0) (.int .i64 0) 23
    replace hB := hB.alloc hB.size (.cells #[.int .i64 0, .int .i64 0, .int .i64 0] 23)
    go_wp2_with (first | (go_at_call 11; refine (num_any _ _).mono ?_; rintro e w' ⟨rfl, rfl⟩))
    go_ret
    exact ⟨rfl, hB⟩
  · have hZ := boxM w5 (.int .i64 C) (.int .i64 V) (.int .i64 L) 23
    replace hB := hB.alloc hB.size (.cells #[.int .i64 C, .int .i64 V, .int .i64 L] 23)
    have CP := hide cP
    clear cP
    go_wp2_with (first | (go_at_call 11; refine (num_any _ _).mono ?_; rintro e w' ⟨rfl, rfl⟩))
    refine (CP.out _).mono ?_; rintro e w6 ⟨rfl, hb⟩; replace hB := thenB hB hb; clear hb
    go_wp2_with (first | (go_at_call 11; refine (num_any _ _).mono ?_; rintro e w' ⟨rfl, rfl⟩))
    go_ret
    exact ⟨rfl, hB⟩

set_option maxRecDepth 100000 in
theorem lifted (os : Os) (started : os.Started) (H : Type) (enc : TypeId × Value → H) :
    ReturnsInHanded {} Try.checked os 5 .any (Rows.answerBackSpec.pre6 enc Try.prog Try.f5 Rows.answerBackRow.domain false) (Rows.answerBackSpec.post enc Try.prog Try.f5 false true false false) := by
  refine returnsInHanded_of_change (C := Try.checked) own started (by kernel_rfl) Try.func5
    (ChangeSpec.witness6 (enc := enc) (C := Try.checked) false ⟨#[], #[.int .i64 0, .int .i64 0, .int .i64 0, .string ByteArray.empty], []⟩ 8 (by kernel_rfl) (by kernel_rfl) (by kernel_rfl) (by kernel_rfl)) ?_
  intro W base args ds gs before hval0 hW hcnd _
  have hval : ∀ (j : Nat) t v, Try.f5.params[j]? = some t → args[j]? = some v → Value.okWide Try.prog W .any base t v := hval0
  have hW' := hW
  obtain ⟨p, q, hA0, hV, rfl, hfz, hnd⟩ := hW
  have hA : DataW.TrodAll enc Try.prog W 0 (fun _ => true) true Try.f5.params.toList args.toList ds p := hA0
  rw [Try.params5] at hA hval
  obtain ⟨v0, vs0, d0, ds0, p0, q0, hargs, rfl, rfl, h0, r0⟩ := trodAll_cons hA
  obtain ⟨v1, vs1, d1, ds1, p1, q1, rfl, rfl, rfl, h1, r1⟩ := trodAll_cons r0
  obtain ⟨v2, vs2, d2, ds2, p2, q2, rfl, rfl, rfl, h2, r2⟩ := trodAll_cons r1
  obtain ⟨v3, vs3, d3, ds3, p3, q3, rfl, rfl, rfl, h3, r3⟩ := trodAll_cons r2
  obtain ⟨rfl, rfl, rfl⟩ := trodAll_nil r3
  obtain rfl : args = #[v0, v1, v2, v3] := by cases args; simp_all
  obtain ⟨rfl, rfl⟩ := trodVars_none hV
  obtain ⟨a0, rfl, rfl, rfl, w0⟩ := open_int Try.underlying3 (hval 0 3 v0 rfl rfl) h0
  obtain ⟨a1, rfl, rfl, rfl, w1⟩ := open_int Try.underlying3 (hval 1 3 v1 rfl rfl) h1
  obtain ⟨a2, rfl, rfl, rfl, w2⟩ := open_int Try.underlying3 (hval 2 3 v2 rfl rfl) h2
  obtain ⟨a3, rfl, rfl, rfl, w3⟩ := open_string Try.underlying9 (hval 3 9 v3 rfl rfl) h3
  clear hA0 hval0
  refine (walk a0 a1 a2 a3 w0 w1 w2 w3 W).mono fun e W' ⟨he, bel⟩ => ?_
  subst he
  exact ⟨_, rfl, _, _, _, [], _, [], hW', (trodAll_cons_mk (shut_bool Try.underlying4 _) trodAll_mk0), (trodAll_cons_mk (shut_int Try.underlying3 w0) (trodAll_cons_mk (shut_int Try.underlying3 w1) (trodAll_cons_mk (shut_int Try.underlying3 w2) (trodAll_cons_mk (shut_string Try.underlying9 w3) trodAll_mk0)))), rfl, bel.frame _, fun h => by cases h⟩

theorem over : Rows.answerBackRow.holds Try.pinned (OpenSpec.ofChange Rows.answerBackSpec) :=
  OpenClaim.holds_of_wide 5 Try.f5 rfl rfl rfl rfl rfl rfl rfl ⟨rfl, rfl, rfl, rfl, rfl⟩ rfl rfl rfl rfl rfl (by kernel_rfl) Try.func5 (by kernel_rfl)
    (of_decide_eq_true (by kernel_rfl)) (by unfold Func.isWrapper; first | (rw [if_pos (by decide +kernel)]; kernel_rfl) | (rw [if_neg (by decide +kernel)]; exact ⟨rfl, rfl⟩))
    (fun os started H enc _ => lifted os started H enc)

theorem proved : Rows.AnswerBackSaid :=
  over
#print axioms proved
end Go.Proofs.Ytddelbjnnkhgbaa.answerBack
