/- Whatever the two numbers: the law ReplyForms returns true (no reply is taken by a host that may not be, or rests), and the arguments read as they did; no condition. -/
import Derived.Test.YtgkmallikomnaaaRows
import Derived.Test.YtgkmallikomnaaaBagNor
import Derived.Test.YtgkmallikomnaaaBagOps
import Derived.Test.YtgkmallikomnaaaBagSuf
import Derived.Test.YtgkmallikomnaaaBagSet
import Derived.Test.YtgkmallikomnaaaBagHst
import Derived.Test.YtgkmallikomnaaaBagHsr
import Derived.Test.YtgkmallikomnaaaRepMath
import Derived.Test.YtgkmallikomnaaaRepRef
import Derived.Test.YtgkmallikomnaaaRepTake
import Derived.Test.YtgkmallikomnaaaRepWalk
import Derived.Test.YtgkmallikomnaaaRepAwake
import Derived.Laws.StructEq
import Derived.Deep.Cut
import Derived.ChangeOld
import Derived.Below
import Derived.WalkKit
import Derived.ProofKit
import Derived.OpenShut
import Derived.ShutString
namespace Go.Proofs.Ytgkmallikomnaaa.replyForms
open Go.ChangeShapes Go.WideShapes Go.ChangeAt Go.RowKit
open Go.ChangeMaps (open_string shut_string)
set_option linter.unusedVariables false

open Go.Proofs.Ytgkmallikomnaaa.Bytes
open Go.Proofs.Ytgkmallikomnaaa.Hst
open Go.Proofs.Ytgkmallikomnaaa.HstWalk
open Go.Proofs.Ytgkmallikomnaaa.HstAsk
open Go.Proofs.Ytgkmallikomnaaa.HstCarry
open Go.Proofs.Ytgkmallikomnaaa.Rep
open Go.Proofs.Ytgkmallikomnaaa.RepTake
open Go.Proofs.Ytgkmallikomnaaa.RepWalk
open Go.Proofs.Ytgkmallikomnaaa.RepAwake
theorem own : ownKnob Try.prog.godebug = none := by kernel_rfl

open Go.Proofs.Ytgkmallikomnaaa.IdtWalk (num_any)
theorem no_may {p : Int} {im : ByteArray} {b : Int} {a : Bool} {t : Int} {rd : ByteArray} {rp : Int} (h : hostB p im b t rd rp = false) : okH ⟨p, im, b, a, t, rd, rp⟩ = false := by
  unfold okH askB
  dsimp only
  rw [h]
  rfl
theorem no_rest {p : Int} {im : ByteArray} {b : Int} {a : Bool} {t : Int} {rd : ByteArray} {rp : Int} (h : p = 0 ∨ p = 7) : okH ⟨p, im, b, a, t, rd, rp⟩ = false := by
  unfold okH askB restB
  dsimp only
  rw [decide_eq_true h]
  exact Bool.and_false _
theorem bad0 (d : Int) (h : 1 ≤ d) : okH ⟨0, iotaS 40, 0, false, 0, ⟨#[]⟩, 0⟩ = false := no_rest (.inl rfl)
theorem bad1 (d : Int) (h : 1 ≤ d) : okH ⟨7, iotaS 40, 0, false, 0, ⟨#[]⟩, 0⟩ = false := no_rest (.inr rfl)
theorem bad2 (d : Int) (h : 1 ≤ d) : okH ⟨1, iotaS 40, 2 + d, false, 0, ⟨#[]⟩, 0⟩ = false := no_may (host_no (by unfold Blo.nP; rw [size_iotaS]; omega))
theorem bad3 (d : Int) (h : 1 ≤ d) : okH ⟨1, iotaS 40, 0, false, 8 + d, ⟨#[]⟩, 0⟩ = false := no_may (host_no (by omega))
theorem bad4 (d : Int) (h : 1 ≤ d) : okH ⟨1, ⟨#[]⟩, 0, false, 0, ⟨#[]⟩, 0⟩ = false := by decide
theorem bad5 (d : Int) (h : 1 ≤ d) : okH ⟨7 + d, iotaS 40, 0, false, 0, ⟨#[]⟩, 0⟩ = false := no_may (host_no (by omega))
set_option maxRecDepth 100000 in
set_option maxHeartbeats 8000000 in
theorem walk (a0 : Int) (a1 : Int) (w0 : (Lit.int .i64 a0).wf = true) (w1 : (Lit.int .i64 a1).wf = true) (w : World) :
    Calls Try.prog 4 #[.int .i64 a0, .int .i64 a1] w fun e w' => e = .returned (.bool true) ∧ Below w.heap.size w w' := by
  have hB := Below.refl w.heap.size w
  obtain ⟨k, hk, mk⟩ : ∃ k : Nat, k ≤ 1023 ∧ bits .and .i64 a1 1023 = (k : Int) := mask_i64 a1 1023 (by omega)
  have eu : IntKind.u64.wrap a0 = a0 % 18446744073709551616 := by simp [IntKind.wrap, IntKind.bits, IntKind.signed]
  obtain ⟨n, hn, mn⟩ : ∃ k : Nat, k < 6 ∧ (IntKind.u64.wrap a0).tmod 6 = (k : Int) := by
    rw [eu, Int.tmod_eq_emod_of_nonneg (by omega)]
    exact ⟨(a0 % 18446744073709551616 % 6).toNat, by omega, by omega⟩
  clear eu
  have b0 := HstAsk.build_h0
  have b1 := build_rls
  have CW := hide (fun w => awake_any w)
  have CC := hide (fun w => carrying23_any 40 w (by decide) (by decide))
  obtain ⟨d, hd⟩ : ∃ d : Int, 1 + (k : Int) = d := ⟨_, rfl⟩
  have hd1 : 1 ≤ d := by omega
  have hd2 : d ≤ 1024 := by omega
  obtain rfl | rfl | rfl | rfl | rfl | rfl : n = 0 ∨ n = 1 ∨ n = 2 ∨ n = 3 ∨ n = 4 ∨ n = 5 := by omega
  · replace mn : (IntKind.u64.wrap a0).tmod 6 = 0 := mn
    have CT := hide (fun (lo st : Bool) w => none_took (lo := lo) (st := st) (t := ⟨#[]⟩) (bad0 d hd1) (by decide) w)
    unfold Taken zeroH at CT
    dsimp only at CT
    generalize iotaS 40 = A at *
    go_enter Try.func4, Try.ntmps4
    go_upto_region 5 with (first | (go_at_call 12; refine (CW.out _).mono ?_; rintro e1 w1 ⟨rfl, hb⟩; replace hB := thenB hB hb; clear hb) | (go_at_call 13; refine (CC.out _).mono ?_; rintro e1 w2 ⟨rfl, hb⟩; replace hB := thenB hB hb; clear hb))
    try rw [hd]
    have hX := sevRM w2 (.int .i64 1) (.string A) (.int .i64 0) (.bool false) (.int .i64 0) (.string ⟨#[]⟩) (.int .i64 0) 23
    have hn := hal w2 (.cells #[.int .i64 1, .string A, .int .i64 0, .bool false, .int .i64 0, .string ⟨#[]⟩, .int .i64 0] 23)
    have hl := hB.size
    replace hB := thenB hB hn
    clear hn CW CC
    generalize w2.alloc _ = W3 at *
    generalize w2.heap.size = G1 at *
    go_upto_region 17 with fail
    replace hX := HstSet.set0 hX (.int .i64 0)
    replace hB := hB.setCell (p := ⟨G1, 0, none⟩) hl (.int .i64 0)
    generalize W3.setCell _ _ = W4 at *
    clear hl
    go_upto_region 18 with (go_at_call 9; refine (CT.out _ _ _).mono ?_; rintro e1 w5 ⟨rfl, hb⟩; replace hB := thenB hB hb; clear hb hX)
    have hY := sevRM w5 (.int .i64 0) (.string ⟨#[]⟩) (.int .i64 0) (.bool false) (.int .i64 0) (.string ⟨#[]⟩) (.int .i64 0) 23
    have hn := hal w5 (.cells #[.int .i64 0, .string ⟨#[]⟩, .int .i64 0, .bool false, .int .i64 0, .string ⟨#[]⟩, .int .i64 0] 23)
    replace hB := thenB hB hn
    clear hn CT
    generalize w5.alloc _ = W5 at *
    generalize w5.heap.size = G5 at *
    go_wp2_with (go_at_call 11; refine (num_any _ _).mono ?_; rintro e1 w' ⟨rfl, rfl⟩)
    go_ret
    exact ⟨rfl, hB⟩
  · replace mn : (IntKind.u64.wrap a0).tmod 6 = 1 := mn
    have CT := hide (fun (lo st : Bool) w => none_took (lo := lo) (st := st) (t := ⟨#[]⟩) (bad1 d hd1) (by decide) w)
    unfold Taken zeroH at CT
    dsimp only at CT
    generalize iotaS 40 = A at *
    go_enter Try.func4, Try.ntmps4
    go_upto_region 5 with (first | (go_at_call 12; refine (CW.out _).mono ?_; rintro e1 w1 ⟨rfl, hb⟩; replace hB := thenB hB hb; clear hb) | (go_at_call 13; refine (CC.out _).mono ?_; rintro e1 w2 ⟨rfl, hb⟩; replace hB := thenB hB hb; clear hb))
    try rw [hd]
    have hX := sevRM w2 (.int .i64 1) (.string A) (.int .i64 0) (.bool false) (.int .i64 0) (.string ⟨#[]⟩) (.int .i64 0) 23
    have hn := hal w2 (.cells #[.int .i64 1, .string A, .int .i64 0, .bool false, .int .i64 0, .string ⟨#[]⟩, .int .i64 0] 23)
    have hl := hB.size
    replace hB := thenB hB hn
    clear hn CW CC
    generalize w2.alloc _ = W3 at *
    generalize w2.heap.size = G1 at *
    go_upto_region 17 with fail
    replace hX := HstSet.set0 hX (.int .i64 7)
    replace hB := hB.setCell (p := ⟨G1, 0, none⟩) hl (.int .i64 7)
    generalize W3.setCell _ _ = W4 at *
    clear hl
    go_upto_region 18 with (go_at_call 9; refine (CT.out _ _ _).mono ?_; rintro e1 w5 ⟨rfl, hb⟩; replace hB := thenB hB hb; clear hb hX)
    have hY := sevRM w5 (.int .i64 0) (.string ⟨#[]⟩) (.int .i64 0) (.bool false) (.int .i64 0) (.string ⟨#[]⟩) (.int .i64 0) 23
    have hn := hal w5 (.cells #[.int .i64 0, .string ⟨#[]⟩, .int .i64 0, .bool false, .int .i64 0, .string ⟨#[]⟩, .int .i64 0] 23)
    replace hB := thenB hB hn
    clear hn CT
    generalize w5.alloc _ = W5 at *
    generalize w5.heap.size = G5 at *
    go_wp2_with (go_at_call 11; refine (num_any _ _).mono ?_; rintro e1 w' ⟨rfl, rfl⟩)
    go_ret
    exact ⟨rfl, hB⟩
  · replace mn : (IntKind.u64.wrap a0).tmod 6 = 2 := mn
    have CT := hide (fun (lo st : Bool) w => none_took (lo := lo) (st := st) (t := ⟨#[]⟩) (bad2 d hd1) (by decide) w)
    unfold Taken zeroH at CT
    dsimp only at CT
    generalize iotaS 40 = A at *
    go_enter Try.func4, Try.ntmps4
    go_upto_region 5 with (first | (go_at_call 12; refine (CW.out _).mono ?_; rintro e1 w1 ⟨rfl, hb⟩; replace hB := thenB hB hb; clear hb) | (go_at_call 13; refine (CC.out _).mono ?_; rintro e1 w2 ⟨rfl, hb⟩; replace hB := thenB hB hb; clear hb))
    try rw [hd]
    have hX := sevRM w2 (.int .i64 1) (.string A) (.int .i64 0) (.bool false) (.int .i64 0) (.string ⟨#[]⟩) (.int .i64 0) 23
    have hn := hal w2 (.cells #[.int .i64 1, .string A, .int .i64 0, .bool false, .int .i64 0, .string ⟨#[]⟩, .int .i64 0] 23)
    have hl := hB.size
    replace hB := thenB hB hn
    clear hn CW CC
    generalize w2.alloc _ = W3 at *
    generalize w2.heap.size = G1 at *
    go_upto_region 17 with fail
    replace hX := HstSet.set2 hX (.int .i64 (2 + d))
    replace hB := hB.setCell (p := ⟨G1, 2, none⟩) hl (.int .i64 (2 + d))
    generalize W3.setCell _ _ = W4 at *
    clear hl
    go_upto_region 18 with (go_at_call 9; refine (CT.out _ _ _).mono ?_; rintro e1 w5 ⟨rfl, hb⟩; replace hB := thenB hB hb; clear hb hX)
    have hY := sevRM w5 (.int .i64 0) (.string ⟨#[]⟩) (.int .i64 0) (.bool false) (.int .i64 0) (.string ⟨#[]⟩) (.int .i64 0) 23
    have hn := hal w5 (.cells #[.int .i64 0, .string ⟨#[]⟩, .int .i64 0, .bool false, .int .i64 0, .string ⟨#[]⟩, .int .i64 0] 23)
    replace hB := thenB hB hn
    clear hn CT
    generalize w5.alloc _ = W5 at *
    generalize w5.heap.size = G5 at *
    go_wp2_with (go_at_call 11; refine (num_any _ _).mono ?_; rintro e1 w' ⟨rfl, rfl⟩)
    go_ret
    exact ⟨rfl, hB⟩
  · replace mn : (IntKind.u64.wrap a0).tmod 6 = 3 := mn
    have CT := hide (fun (lo st : Bool) w => none_took (lo := lo) (st := st) (t := ⟨#[]⟩) (bad3 d hd1) (by decide) w)
    unfold Taken zeroH at CT
    dsimp only at CT
    generalize iotaS 40 = A at *
    go_enter Try.func4, Try.ntmps4
    go_upto_region 5 with (first | (go_at_call 12; refine (CW.out _).mono ?_; rintro e1 w1 ⟨rfl, hb⟩; replace hB := thenB hB hb; clear hb) | (go_at_call 13; refine (CC.out _).mono ?_; rintro e1 w2 ⟨rfl, hb⟩; replace hB := thenB hB hb; clear hb))
    try rw [hd]
    have hX := sevRM w2 (.int .i64 1) (.string A) (.int .i64 0) (.bool false) (.int .i64 0) (.string ⟨#[]⟩) (.int .i64 0) 23
    have hn := hal w2 (.cells #[.int .i64 1, .string A, .int .i64 0, .bool false, .int .i64 0, .string ⟨#[]⟩, .int .i64 0] 23)
    have hl := hB.size
    replace hB := thenB hB hn
    clear hn CW CC
    generalize w2.alloc _ = W3 at *
    generalize w2.heap.size = G1 at *
    go_upto_region 17 with fail
    replace hX := HstSet.set4 hX (.int .i64 (8 + d))
    replace hB := hB.setCell (p := ⟨G1, 4, none⟩) hl (.int .i64 (8 + d))
    generalize W3.setCell _ _ = W4 at *
    clear hl
    go_upto_region 18 with (go_at_call 9; refine (CT.out _ _ _).mono ?_; rintro e1 w5 ⟨rfl, hb⟩; replace hB := thenB hB hb; clear hb hX)
    have hY := sevRM w5 (.int .i64 0) (.string ⟨#[]⟩) (.int .i64 0) (.bool false) (.int .i64 0) (.string ⟨#[]⟩) (.int .i64 0) 23
    have hn := hal w5 (.cells #[.int .i64 0, .string ⟨#[]⟩, .int .i64 0, .bool false, .int .i64 0, .string ⟨#[]⟩, .int .i64 0] 23)
    replace hB := thenB hB hn
    clear hn CT
    generalize w5.alloc _ = W5 at *
    generalize w5.heap.size = G5 at *
    go_wp2_with (go_at_call 11; refine (num_any _ _).mono ?_; rintro e1 w' ⟨rfl, rfl⟩)
    go_ret
    exact ⟨rfl, hB⟩
  · replace mn : (IntKind.u64.wrap a0).tmod 6 = 4 := mn
    have CT := hide (fun (lo st : Bool) w => none_took (lo := lo) (st := st) (t := ⟨#[]⟩) (bad4 d hd1) (by decide) w)
    unfold Taken zeroH at CT
    dsimp only at CT
    generalize iotaS 40 = A at *
    go_enter Try.func4, Try.ntmps4
    go_upto_region 5 with (first | (go_at_call 12; refine (CW.out _).mono ?_; rintro e1 w1 ⟨rfl, hb⟩; replace hB := thenB hB hb; clear hb) | (go_at_call 13; refine (CC.out _).mono ?_; rintro e1 w2 ⟨rfl, hb⟩; replace hB := thenB hB hb; clear hb))
    try rw [hd]
    have hX := sevRM w2 (.int .i64 1) (.string A) (.int .i64 0) (.bool false) (.int .i64 0) (.string ⟨#[]⟩) (.int .i64 0) 23
    have hn := hal w2 (.cells #[.int .i64 1, .string A, .int .i64 0, .bool false, .int .i64 0, .string ⟨#[]⟩, .int .i64 0] 23)
    have hl := hB.size
    replace hB := thenB hB hn
    clear hn CW CC
    generalize w2.alloc _ = W3 at *
    generalize w2.heap.size = G1 at *
    go_upto_region 17 with fail
    replace hX := HstSet.set1 hX (.string ⟨#[]⟩)
    replace hB := hB.setCell (p := ⟨G1, 1, none⟩) hl (.string ⟨#[]⟩)
    generalize W3.setCell _ _ = W4 at *
    clear hl
    go_upto_region 18 with (go_at_call 9; refine (CT.out _ _ _).mono ?_; rintro e1 w5 ⟨rfl, hb⟩; replace hB := thenB hB hb; clear hb hX)
    have hY := sevRM w5 (.int .i64 0) (.string ⟨#[]⟩) (.int .i64 0) (.bool false) (.int .i64 0) (.string ⟨#[]⟩) (.int .i64 0) 23
    have hn := hal w5 (.cells #[.int .i64 0, .string ⟨#[]⟩, .int .i64 0, .bool false, .int .i64 0, .string ⟨#[]⟩, .int .i64 0] 23)
    replace hB := thenB hB hn
    clear hn CT
    generalize w5.alloc _ = W5 at *
    generalize w5.heap.size = G5 at *
    go_wp2_with (go_at_call 11; refine (num_any _ _).mono ?_; rintro e1 w' ⟨rfl, rfl⟩)
    go_ret
    exact ⟨rfl, hB⟩
  · replace mn : (IntKind.u64.wrap a0).tmod 6 = 5 := mn
    have CT := hide (fun (lo st : Bool) w => none_took (lo := lo) (st := st) (t := ⟨#[]⟩) (bad5 d hd1) (by decide) w)
    unfold Taken zeroH at CT
    dsimp only at CT
    generalize iotaS 40 = A at *
    go_enter Try.func4, Try.ntmps4
    go_upto_region 5 with (first | (go_at_call 12; refine (CW.out _).mono ?_; rintro e1 w1 ⟨rfl, hb⟩; replace hB := thenB hB hb; clear hb) | (go_at_call 13; refine (CC.out _).mono ?_; rintro e1 w2 ⟨rfl, hb⟩; replace hB := thenB hB hb; clear hb))
    try rw [hd]
    have hX := sevRM w2 (.int .i64 1) (.string A) (.int .i64 0) (.bool false) (.int .i64 0) (.string ⟨#[]⟩) (.int .i64 0) 23
    have hn := hal w2 (.cells #[.int .i64 1, .string A, .int .i64 0, .bool false, .int .i64 0, .string ⟨#[]⟩, .int .i64 0] 23)
    have hl := hB.size
    replace hB := thenB hB hn
    clear hn CW CC
    generalize w2.alloc _ = W3 at *
    generalize w2.heap.size = G1 at *
    go_upto_region 17 with fail
    replace hX := HstSet.set0 hX (.int .i64 (7 + d))
    replace hB := hB.setCell (p := ⟨G1, 0, none⟩) hl (.int .i64 (7 + d))
    generalize W3.setCell _ _ = W4 at *
    clear hl
    go_upto_region 18 with (go_at_call 9; refine (CT.out _ _ _).mono ?_; rintro e1 w5 ⟨rfl, hb⟩; replace hB := thenB hB hb; clear hb hX)
    have hY := sevRM w5 (.int .i64 0) (.string ⟨#[]⟩) (.int .i64 0) (.bool false) (.int .i64 0) (.string ⟨#[]⟩) (.int .i64 0) 23
    have hn := hal w5 (.cells #[.int .i64 0, .string ⟨#[]⟩, .int .i64 0, .bool false, .int .i64 0, .string ⟨#[]⟩, .int .i64 0] 23)
    replace hB := thenB hB hn
    clear hn CT
    generalize w5.alloc _ = W5 at *
    generalize w5.heap.size = G5 at *
    go_wp2_with (go_at_call 11; refine (num_any _ _).mono ?_; rintro e1 w' ⟨rfl, rfl⟩)
    go_ret
    exact ⟨rfl, hB⟩

set_option maxRecDepth 100000 in
theorem lifted (os : Os) (started : os.Started) (H : Type) (enc : TypeId × Value → H) :
    ReturnsInHanded {} Try.checked os 4 .any (Rows.replyFormsSpec.pre6 enc Try.prog Try.f4 Rows.replyFormsRow.domain false) (Rows.replyFormsSpec.post enc Try.prog Try.f4 false true false false) := by
  refine returnsInHanded_of_change (C := Try.checked) own started (by kernel_rfl) Try.func4
    (ChangeSpec.witness6 (enc := enc) (C := Try.checked) false ⟨#[], #[.int .i64 0, .int .i64 0], []⟩ 8 (by kernel_rfl) (by kernel_rfl) (by kernel_rfl) (by kernel_rfl)) ?_
  intro W base args ds gs before hval0 hW hcnd _
  have hval : ∀ (j : Nat) t v, Try.f4.params[j]? = some t → args[j]? = some v → Value.okWide Try.prog W .any base t v := hval0
  have hW' := hW
  obtain ⟨p, q, hA0, hV, rfl, hfz, hnd⟩ := hW
  have hA : DataW.TrodAll enc Try.prog W 0 (fun _ => true) true Try.f4.params.toList args.toList ds p := hA0
  rw [Try.params4] at hA hval
  obtain ⟨v0, vs0, d0, ds0, p0, q0, hargs, rfl, rfl, h0, r0⟩ := trodAll_cons hA
  obtain ⟨v1, vs1, d1, ds1, p1, q1, rfl, rfl, rfl, h1, r1⟩ := trodAll_cons r0
  obtain ⟨rfl, rfl, rfl⟩ := trodAll_nil r1
  obtain rfl : args = #[v0, v1] := by cases args; simp_all
  obtain ⟨rfl, rfl⟩ := trodVars_none hV
  obtain ⟨a0, rfl, rfl, rfl, w0⟩ := open_int Try.underlying3 (hval 0 3 v0 rfl rfl) h0
  obtain ⟨a1, rfl, rfl, rfl, w1⟩ := open_int Try.underlying3 (hval 1 3 v1 rfl rfl) h1
  clear hA0 hval0
  refine (walk a0 a1 w0 w1 W).mono fun e W' ⟨he, bel⟩ => ?_
  subst he
  exact ⟨_, rfl, _, _, _, [], _, [], hW', (trodAll_cons_mk (shut_bool Try.underlying4 _) trodAll_mk0), (trodAll_cons_mk (shut_int Try.underlying3 w0) (trodAll_cons_mk (shut_int Try.underlying3 w1) trodAll_mk0)), rfl, bel.frame _, fun h => by cases h⟩

theorem over : Rows.replyFormsRow.holds Try.pinned (OpenSpec.ofChange Rows.replyFormsSpec) :=
  OpenClaim.holds_of_wide 4 Try.f4 rfl rfl rfl rfl rfl rfl rfl ⟨rfl, rfl, rfl, rfl, rfl⟩ rfl rfl rfl rfl rfl (by kernel_rfl) Try.func4 (by kernel_rfl)
    (of_decide_eq_true (by kernel_rfl)) (by unfold Func.isWrapper; first | (rw [if_pos (by decide +kernel)]; kernel_rfl) | (rw [if_neg (by decide +kernel)]; exact ⟨rfl, rfl⟩))
    (fun os started H enc _ => lifted os started H enc)

theorem proved : Rows.ReplyFormsSaid :=
  over
#print axioms proved
end Go.Proofs.Ytgkmallikomnaaa.replyForms
