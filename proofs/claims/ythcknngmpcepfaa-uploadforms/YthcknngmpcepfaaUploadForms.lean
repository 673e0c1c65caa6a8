/- Whatever the two numbers: the law UploadForms returns true (flashes, devices, states, blocks' numbers and lengths that may not be are refused), and the arguments read as they did; no condition. -/
import Derived.Test.YthcknngmpcepfaaRows
import Derived.Test.YthcknngmpcepfaaBagNor
import Derived.Test.YthcknngmpcepfaaBagDev
import Derived.Test.YthcknngmpcepfaaBagDnl
import Derived.Test.YthcknngmpcepfaaUplMath
import Derived.Test.YthcknngmpcepfaaUplGive
import Derived.Test.YthcknngmpcepfaaUplAwake
import Derived.Deep.Cut
import Derived.ChangeOld
import Derived.Below
import Derived.WalkKit
import Derived.ProofKit
import Derived.OpenShut
import Derived.ShutString
namespace Go.Proofs.Ythcknngmpcepfaa.uploadForms
open Go.ChangeShapes Go.WideShapes Go.ChangeAt Go.RowKit
open Go.ChangeMaps (open_string shut_string)
set_option linter.unusedVariables false

open Go.Proofs.Ythcknngmpcepfaa.Bytes
open Go.Proofs.Ythcknngmpcepfaa.NorRef
open Go.Proofs.Ythcknngmpcepfaa.Jou
open Go.Proofs.Ythcknngmpcepfaa.Dev
open Go.Proofs.Ythcknngmpcepfaa.DevRow
open Go.Proofs.Ythcknngmpcepfaa.DevHelp
open Go.Proofs.Ythcknngmpcepfaa.DevAwake
open Go.Proofs.Ythcknngmpcepfaa.Dnl
open Go.Proofs.Ythcknngmpcepfaa.Upl
theorem own : ownKnob Try.prog.godebug = none := by kernel_rfl

theorem no_ok {f : ByteArray} {d : FDev} {b n : Int} (h : ¬ (f.size = 768 ∧ 0 ≤ d.nx ∧ (d.sa = 0 ∨ d.sa = 6) ∧ 0 ≤ b ∧ b ≤ 65535 ∧ 0 ≤ n ∧ n ≤ 32)) : okU f d b n = false := by
  cases hc : okU f d b n with
  | false => rfl
  | true =>
    obtain ⟨h1, h2, h3, ⟨h4, h5⟩, h6, h7⟩ := okU_parts.1 hc
    obtain ⟨⟨g0, _⟩, _⟩ := dev_parts h2
    exact absurd ⟨may_size h1, g0, h3, h4, h5, h6, h7⟩ h
theorem no_give {f : ByteArray} {sa su nx gt sl b n : Int} (w : World) (h : ¬ (f.size = 768 ∧ 0 ≤ nx ∧ (sa = 0 ∨ sa = 6) ∧ 0 ≤ b ∧ b ≤ 65535 ∧ 0 ≤ n ∧ n ≤ 32)) : Calls Try.prog 10 #[.string f, .agg #[.int .i64 sa, .int .i64 su, .int .i64 nx, .int .i64 gt, .int .i64 sl, .slice none 0 0], .int .i64 b, .int .i64 n] w fun r w' => ∃ a c, r = .returned (.tuple #[.agg #[.int .i64 0, .int .i64 0, .int .i64 0, .int .i64 0, .int .i64 0, .slice a 0 c], .string ⟨#[]⟩, .int .i64 2000]) ∧ IsSt w' (.slice a 0 c) [] ∧ Below w.heap.size w w' :=
  UplAwake.none_given (d := ⟨sa, su, nx, gt, sl, []⟩) (no_ok h) _ w (isSt_nil w)
set_option maxRecDepth 100000 in
set_option maxHeartbeats 4000000 in
theorem walk (a0 : Int) (a1 : Int) (w0 : (Lit.int .i64 a0).wf = true) (w1 : (Lit.int .i64 a1).wf = true) (w : World) :
    Calls Try.prog 4 #[.int .i64 a0, .int .i64 a1] w fun e w' => e = .returned (.bool true) ∧ Below w.heap.size w w' := by
  have hB : Below w.heap.size w w := Below.refl _ _
  obtain ⟨d, hd, md⟩ : ∃ k : Nat, k ≤ 1023 ∧ bits .and .i64 a1 1023 = (k : Int) := mask_i64 a1 1023 (by omega)
  have eu : IntKind.u64.wrap a0 = a0 % 18446744073709551616 := by simp [IntKind.wrap, IntKind.bits, IntKind.signed]
  obtain ⟨n, hn, mn⟩ : ∃ k : Nat, k < 7 ∧ (IntKind.u64.wrap a0).tmod 7 = (k : Int) := by
    rw [eu, Int.tmod_eq_emod_of_nonneg (by omega)]
    exact ⟨(a0 % 18446744073709551616 % 7).toNat, by omega, by omega⟩
  obtain ⟨m, hm, mm⟩ : ∃ k : Nat, k < 6 ∧ (IntKind.u64.wrap a0 / 8).tmod 6 = (k : Int) := by
    rw [eu, Int.tmod_eq_emod_of_nonneg (by omega)]
    exact ⟨(a0 % 18446744073709551616 / 8 % 6).toNat, by omega, by omega⟩
  clear eu
  have C1 := hide (fun w => HeldCalls.held20_any w)
  have br := DevWalk.build_d0
  have z1 : Held.heldS.size ≤ 768 := by rw [Held.size_heldS]; omega
  have z2 : 768 ≤ Held.heldS.size := by rw [Held.size_heldS]; omega
  have z3 : (1 : Int) ≤ (Held.heldS.size : Int) := by omega
  have M1 : Hid (¬ (Held.heldS.extract 1 Held.heldS.size).size = 768) := by show ¬ _; rw [ByteArray.size_extract]; omega
  generalize Held.heldS = F at *
  have C5 := hide fun v w' h => sameDev_yes ⟨0, 0, 0, 0, 0, []⟩ v (.slice none 0 0) w' h (isSt_nil w')
  dsimp only at C5
  obtain rfl | rfl | rfl | rfl | rfl | rfl | rfl : n = 0 ∨ n = 1 ∨ n = 2 ∨ n = 3 ∨ n = 4 ∨ n = 5 ∨ n = 6 := by omega
  case' inr.inr.inl => obtain rfl | rfl | rfl | rfl | rfl | rfl : m = 0 ∨ m = 1 ∨ m = 2 ∨ m = 3 ∨ m = 4 ∨ m = 5 := by omega
  all_goals
    clear hn hm
    go_enter Try.func4, Try.ntmps4
    go_wp2_with (first | (go_at_call 15; refine (UplAwake.awake_any _).mono ?_; rintro e w' ⟨rfl, hb⟩; replace hB := hB.trans (hb.mono hB.size); clear hb) | (go_at_call 16; refine (C1.out _).mono ?_; rintro e w' ⟨rfl, hb⟩; replace hB := hB.trans (hb.mono hB.size); clear hb))
    refine (no_give _ ?_).mono ?_
    · have h1 := M1.out
      clear M1 C1 C5 hB
      rintro ⟨p1, p2, p3, p4, p5, p6, p7⟩
      first | omega | exact h1 p1
    rintro e u2 ⟨sa, sc, rfl, hI, hb⟩
    first | replace hB := thenB (thenB hB (hal _ _)) hb | replace hB := thenB (thenB (thenB hB (hal _ _)) (hal _ _)) hb
    have hQ := resM u2 (.int .i64 0) (.int .i64 0) (.int .i64 0) (.int .i64 0) (.int .i64 0) (.slice sa 0 sc) 24
    have hn := hal u2 (.cells #[.int .i64 0, .int .i64 0, .int .i64 0, .int .i64 0, .int .i64 0, .slice sa 0 sc] 24)
    replace hB := thenB hB hn
    replace hI := hI.below hn
    clear hn hb
    go_upto_region 20 with fail
    generalize u2.alloc _ = W2 at *
    generalize u2.heap.size = G2 at *
    go_wp2_with fail
    refine (C5.out _ _ hI).mono ?_; rintro e u3 ⟨rfl, hb⟩; replace hB := thenB hB hb; clear hb
    go_wp2_with (go_at_call 13; refine (num_any _ _).mono ?_; rintro e w' ⟨rfl, rfl⟩)
    go_ret
    exact ⟨rfl, hB⟩

set_option maxRecDepth 100000 in
theorem lifted (os : Os) (started : os.Started) (H : Type) (enc : TypeId × Value → H) :
    ReturnsInHanded {} Try.checked os 4 .any (Rows.uploadFormsSpec.pre6 enc Try.prog Try.f4 Rows.uploadFormsRow.domain false) (Rows.uploadFormsSpec.post enc Try.prog Try.f4 false true false false) := by
  refine returnsInHanded_of_change (C := Try.checked) own started (by kernel_rfl) Try.func4
    (ChangeSpec.witness6 (enc := enc) (C := Try.checked) false ⟨#[], #[.int .i64 0, .int .i64 0], []⟩ 8 (by kernel_rfl) (by kernel_rfl) (by kernel_rfl) (by kernel_rfl)) ?_
  intro W base args ds gs before hval0 hW hcnd _
  have hval : ∀ (j : Nat) t v, Try.f4.params[j]? = some t → args[j]? = some v → Value.okWide Try.prog W .any base t v := hval0
  have hW' := hW
  obtain ⟨p, q, hA0, hV, rfl, hfz, hnd⟩ := hW
  have hA : DataW.TrodAll enc Try.prog W 0 (fun _ => true) true Try.f4.params.toList args.toList ds p := hA0
  rw [Try.params4] at hA hval
  obtain ⟨v0, vs0, d0, ds0, p0, q0, hargs, rfl, rfl, h0, r0⟩ := trodAll_cons hA
  obtain ⟨v1, vs1, d1, ds1, p1, q1, rfl, rfl, rfl, h1, r1⟩ := trodAll_cons r0
  obtain ⟨rfl, rfl, rfl⟩ := trodAll_nil r1
  obtain rfl : args = #[v0, v1] := by cases args; simp_all
  obtain ⟨rfl, rfl⟩ := trodVars_none hV
  obtain ⟨a0, rfl, rfl, rfl, w0⟩ := open_int Try.underlying3 (hval 0 3 v0 rfl rfl) h0
  obtain ⟨a1, rfl, rfl, rfl, w1⟩ := open_int Try.underlying3 (hval 1 3 v1 rfl rfl) h1
  clear hA0 hval0
  refine (walk a0 a1 w0 w1 W).mono fun e W' ⟨he, bel⟩ => ?_
  subst he
  exact ⟨_, rfl, _, _, _, [], _, [], hW', (trodAll_cons_mk (shut_bool Try.underlying4 _) trodAll_mk0), (trodAll_cons_mk (shut_int Try.underlying3 w0) (trodAll_cons_mk (shut_int Try.underlying3 w1) trodAll_mk0)), rfl, bel.frame _, fun h => by cases h⟩

theorem over : Rows.uploadFormsRow.holds Try.pinned (OpenSpec.ofChange Rows.uploadFormsSpec) :=
  OpenClaim.holds_of_wide 4 Try.f4 rfl rfl rfl rfl rfl rfl rfl ⟨rfl, rfl, rfl, rfl, rfl⟩ rfl rfl rfl rfl rfl (by kernel_rfl) Try.func4 (by kernel_rfl)
    (of_decide_eq_true (by kernel_rfl)) (by unfold Func.isWrapper; first | (rw [if_pos (by decide +kernel)]; kernel_rfl) | (rw [if_neg (by decide +kernel)]; exact ⟨rfl, rfl⟩))
    (fun os started H enc _ => lifted os started H enc)

theorem proved : Rows.UploadFormsSaid :=
  over
#print axioms proved
end Go.Proofs.Ythcknngmpcepfaa.uploadForms
