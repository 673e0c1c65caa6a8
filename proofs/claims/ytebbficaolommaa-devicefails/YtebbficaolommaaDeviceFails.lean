/- Whatever the device and the number: the law DeviceFails returns true (who fails forgets all but what went wrong; one that may not be is refused), and the arguments read as they did; no condition. -/
import Derived.Test.YtebbficaolommaaRows
import Derived.Test.YtebbficaolommaaNorMath
import Derived.Test.YtebbficaolommaaBytes
import Derived.Test.YtebbficaolommaaNorWalk
import Derived.Test.YtebbficaolommaaOpsMath
import Derived.Test.YtebbficaolommaaOpsRow
import Derived.Test.YtebbficaolommaaOpsWalk
import Derived.Test.YtebbficaolommaaCrcMath
import Derived.Test.YtebbficaolommaaEntMath
import Derived.Test.YtebbficaolommaaEntRow
import Derived.Test.YtebbficaolommaaEntLow
import Derived.Test.YtebbficaolommaaEntWalk
import Derived.Test.YtebbficaolommaaSufMath
import Derived.Test.YtebbficaolommaaAnsMath
import Derived.Test.YtebbficaolommaaAnsWalk
import Derived.Test.YtebbficaolommaaDevRow
import Derived.Test.YtebbficaolommaaDevMath
import Derived.Test.YtebbficaolommaaDevWalk
import Derived.Test.YtebbficaolommaaDevFail
import Derived.Test.YtebbficaolommaaDevHelp
import Derived.Test.YtebbficaolommaaDevAwake
import Derived.WalkKit
import Derived.ProofKit
import Derived.OpenShut
import Derived.ShutString
import Derived.ChangeOld
import Derived.Below
import Derived.SizedLaws
namespace Go.Proofs.Ytebbficaolommaa.deviceFails
open Go.ChangeShapes Go.WideShapes Go.ChangeAt Go.RowKit
open Go.ChangeMaps (open_string shut_string)
set_option linter.unusedVariables false

open Go.Proofs.Ytebbficaolommaa.Bytes
open Go.Proofs.Ytebbficaolommaa.Dev
open Go.Proofs.Ytebbficaolommaa.DevRow
open Go.Proofs.Ytebbficaolommaa.DevWalk
open Go.Proofs.Ytebbficaolommaa.DevFail
open Go.Proofs.Ytebbficaolommaa.DevHelp
open Go.Proofs.Ytebbficaolommaa.DevAwake
theorem own : ownKnob Try.prog.godebug = none := by kernel_rfl
theorem laidOut : laidOutB Try.prog = true := by kernel_rfl
theorem field_of {H : Type} {enc : TypeId × Value → H} {P : Program} {w : World} {base : Nat} {spare : Nat → Bool} {held : Bool} {t : TypeId} {fs : Array Field} {fuel : Nat} {cs : List Value} {x : DataW H × List MemPlace} (ht : P.underlying t = some (.struct fs)) (h : DataW.trod enc P w base spare held fuel t cs = some x) (i : Nat) (f : Field) (hf : fs[i]? = some f) :
    ∃ n y, DataW.trod enc P w base spare held n f.type ((cs.drop f.offset).take (P.cellsOf f.type)) = some y := by
  obtain ⟨xs, n, _, _, _, hlen, hq⟩ := DataW.trod_struct ht h
  have hi : i < xs.length := by
    rw [hlen]
    rcases Nat.lt_or_ge i fs.size with h1 | h1
    · exact h1
    · rw [Array.getElem?_eq_none h1] at hf; cases hf
  exact ⟨n, xs[i], by rw [hq i f hf, List.getElem?_eq_getElem hi]⟩
theorem list24 {l : List Value} (h : l.length = 6) : ∃ c0 c1 c2 c3 c4 c5, l = [c0, c1, c2, c3, c4, c5] := by
  match l, h with
  | [c0, c1, c2, c3, c4, c5], _ => exact ⟨c0, c1, c2, c3, c4, c5, rfl⟩
set_option maxRecDepth 100000 in
theorem open24 {H : Type} {enc : TypeId × Value → H} {w : World} {base : Nat} {spare : Nat → Bool} {held : Bool} {r : Reach} {b0 : Nat} {v : Value} {d : DataW H} {p : List MemPlace} (hv : Value.okWide Try.prog w r b0 24 v) (h : DataW.Trod enc Try.prog w base spare held 24 v d p) (hlt : ∀ x ∈ p, x.block < w.heap.size) (hsz : (d.weights Try.prog 24).all (· ≤ reachBytes) = true) :
    ∃ (x0 : Int) (x1 : Int) (x2 : Int) (x3 : Int) (x4 : Int) (x5 : Value) (l5 : List Go.Proofs.Ytebbficaolommaa.Ops.FOp), v = .agg #[.int .i64 x0, .int .i64 x1, .int .i64 x2, .int .i64 x3, .int .i64 x4, x5] ∧ (Lit.int .i64 x0).wf = true ∧ (Lit.int .i64 x1).wf = true ∧ (Lit.int .i64 x2).wf = true ∧ (Lit.int .i64 x3).wf = true ∧ (Lit.int .i64 x4).wf = true ∧ Go.Proofs.Ytebbficaolommaa.DevRow.IsSt w x5 l5 ∧ l5.length * 32 ≤ 140737488351232 ∧ (∀ o ∈ l5, (Lit.int .i64 o.pl).wf = true ∧ o.tx.size ≤ maxLen) := by
  obtain ⟨cs, rfl, hsz0⟩ := okWide_struct Try.underlying24 hv
  have hc : Try.prog.cellsOf 24 = 6 := by kernel_rfl
  rw [hc] at hsz0
  obtain ⟨l⟩ := cs
  obtain ⟨c0, c1, c2, c3, c4, c5, rfl⟩ := list24 (l := l) (by simpa using hsz0)
  obtain ⟨fuel, hf⟩ := h
  have k0 : Try.prog.cellsOf 3 = 1 := by kernel_rfl
  obtain ⟨n0, y0, h0, L0, Z0⟩ := Go.Proofs.Ytebbficaolommaa.DevRow.field_of2 Try.underlying24 hf hlt hsz 0 _ rfl
  have g0 : DataW.trod enc Try.prog w base spare held n0 3 [c0] = some y0 := by simpa [Value.cells, k0] using h0
  obtain ⟨x0, e0, _, w0⟩ := DataW.trod_int Try.underlying3 g0
  obtain rfl := (List.cons.inj e0).1
  have k1 : Try.prog.cellsOf 3 = 1 := by kernel_rfl
  obtain ⟨n1, y1, h1, L1, Z1⟩ := Go.Proofs.Ytebbficaolommaa.DevRow.field_of2 Try.underlying24 hf hlt hsz 1 _ rfl
  have g1 : DataW.trod enc Try.prog w base spare held n1 3 [c1] = some y1 := by simpa [Value.cells, k1] using h1
  obtain ⟨x1, e1, _, w1⟩ := DataW.trod_int Try.underlying3 g1
  obtain rfl := (List.cons.inj e1).1
  have k2 : Try.prog.cellsOf 3 = 1 := by kernel_rfl
  obtain ⟨n2, y2, h2, L2, Z2⟩ := Go.Proofs.Ytebbficaolommaa.DevRow.field_of2 Try.underlying24 hf hlt hsz 2 _ rfl
  have g2 : DataW.trod enc Try.prog w base spare held n2 3 [c2] = some y2 := by simpa [Value.cells, k2] using h2
  obtain ⟨x2, e2, _, w2⟩ := DataW.trod_int Try.underlying3 g2
  obtain rfl := (List.cons.inj e2).1
  have k3 : Try.prog.cellsOf 3 = 1 := by kernel_rfl
  obtain ⟨n3, y3, h3, L3, Z3⟩ := Go.Proofs.Ytebbficaolommaa.DevRow.field_of2 Try.underlying24 hf hlt hsz 3 _ rfl
  have g3 : DataW.trod enc Try.prog w base spare held n3 3 [c3] = some y3 := by simpa [Value.cells, k3] using h3
  obtain ⟨x3, e3, _, w3⟩ := DataW.trod_int Try.underlying3 g3
  obtain rfl := (List.cons.inj e3).1
  have k4 : Try.prog.cellsOf 3 = 1 := by kernel_rfl
  obtain ⟨n4, y4, h4, L4, Z4⟩ := Go.Proofs.Ytebbficaolommaa.DevRow.field_of2 Try.underlying24 hf hlt hsz 4 _ rfl
  have g4 : DataW.trod enc Try.prog w base spare held n4 3 [c4] = some y4 := by simpa [Value.cells, k4] using h4
  obtain ⟨x4, e4, _, w4⟩ := DataW.trod_int Try.underlying3 g4
  obtain rfl := (List.cons.inj e4).1
  have k5 : Try.prog.cellsOf 22 = 1 := by kernel_rfl
  obtain ⟨n5, y5, h5, L5, Z5⟩ := Go.Proofs.Ytebbficaolommaa.DevRow.field_of2 Try.underlying24 hf hlt hsz 5 _ rfl
  have g5 : DataW.trod enc Try.prog w base spare held n5 22 [c5] = some y5 := by simpa [Value.cells, k5] using h5
  obtain ⟨x5, l5, e5, i5, z5, s5⟩ := Go.Proofs.Ytebbficaolommaa.DevRow.open_st Try.underlying22 Try.underlying38 rfl rfl rfl rfl rfl rfl Try.underlying4 Try.underlying3 Try.underlying9 (by kernel_rfl) (by kernel_rfl) (by kernel_rfl) (by kernel_rfl) (by kernel_rfl) g5 L5 Z5
  obtain rfl := (List.cons.inj e5).1.symm
  exact ⟨x0, x1, x2, x3, x4, x5, l5, rfl, w0, w1, w2, w3, w4, i5, z5, s5⟩

theorem fl_of {K : Nat} (h1 : 1 ≤ K) (h2 : K ≤ 6) : flB (K : Int) = true := flB_parts.2 (by omega)
theorem f_is {d : FDev} {o : Bool} {K : Nat} (h : devB d = o) (h1 : 1 ≤ K) (h2 : K ≤ 6) : failB d (K : Int) = o := by
  unfold failB
  rw [fl_of h1 h2, h]
  cases o <;> rfl
set_option maxRecDepth 100000 in
set_option maxHeartbeats 2000000 in
theorem walk (a0_0 : Int) (a0_1 : Int) (a0_2 : Int) (a0_3 : Int) (a0_4 : Int) (a0_5 : Value) (l0_5 : List Go.Proofs.Ytebbficaolommaa.Ops.FOp) (a1 : Int) (w : World) (w0_0 : (Lit.int .i64 a0_0).wf = true) (w0_1 : (Lit.int .i64 a0_1).wf = true) (w0_2 : (Lit.int .i64 a0_2).wf = true) (w0_3 : (Lit.int .i64 a0_3).wf = true) (w0_4 : (Lit.int .i64 a0_4).wf = true) (i0_5 : Go.Proofs.Ytebbficaolommaa.DevRow.IsSt w a0_5 l0_5) (z0_5 : l0_5.length * 32 ≤ 140737488351232) (s0_5 : ∀ o ∈ l0_5, (Lit.int .i64 o.pl).wf = true ∧ o.tx.size ≤ maxLen) (w1 : (Lit.int .i64 a1).wf = true) :
    Calls Try.prog 5 #[.agg #[.int .i64 a0_0, .int .i64 a0_1, .int .i64 a0_2, .int .i64 a0_3, .int .i64 a0_4, a0_5], .int .i64 a1] w fun e w' => e = .returned (.bool true) ∧ Below w.heap.size w w' := by
  obtain ⟨k, hk, mk⟩ : ∃ k : Nat, k < 6 ∧ wrap64 ((IntKind.u64.wrap a1).tmod 6) = (k : Int) := mod_u64 a1 6 (by omega) (by omega)
  obtain ⟨K, hK⟩ : ∃ K : Nat, K = 1 + k := ⟨_, rfl⟩
  have hK1 : (1 : Int) + (k : Int) = (K : Int) := by omega
  have q1 : 1 ≤ K := by omega
  have q2 : K ≤ 6 := by omega
  have C1 : Hid (∀ w', Below w.heap.size w w' → Calls Try.prog 8 #[.agg #[.int .i64 a0_0, .int .i64 a0_1, .int .i64 a0_2, .int .i64 a0_3, .int .i64 a0_4, a0_5], .int .i64 (K : Int)] w' fun r w'' => r = .returned (.tuple #[.agg #[.int .i64 (faSa (failB ⟨a0_0, a0_1, a0_2, a0_3, a0_4, l0_5⟩ K)), .int .i64 (faSu (failB ⟨a0_0, a0_1, a0_2, a0_3, a0_4, l0_5⟩ K) K), .int .i64 0, .int .i64 0, .int .i64 0, .slice none 0 0], .int .i64 (errD (failB ⟨a0_0, a0_1, a0_2, a0_3, a0_4, l0_5⟩ K))]) ∧ Below w'.heap.size w' w'') := fun w' hb => fail_any ⟨a0_0, a0_1, a0_2, a0_3, a0_4, l0_5⟩ a0_5 K w' (i0_5.below hb)
  have C2 : Hid (∀ w', Below w.heap.size w w' → Calls Try.prog 12 #[.agg #[.int .i64 a0_0, .int .i64 a0_1, .int .i64 a0_2, .int .i64 a0_3, .int .i64 a0_4, a0_5]] w' fun r w'' => r = .returned (.bool (devB ⟨a0_0, a0_1, a0_2, a0_3, a0_4, l0_5⟩)) ∧ Below w'.heap.size w' w'') := fun w' hb => dmay_any ⟨a0_0, a0_1, a0_2, a0_3, a0_4, l0_5⟩ a0_5 w' (i0_5.below hb)
  have hB := (Below.refl w.heap.size w).alloc (Nat.le_refl _) (.cells #[.int .i64 a0_0, .int .i64 a0_1, .int .i64 a0_2, .int .i64 a0_3, .int .i64 a0_4, a0_5] 24)
  have hX := sixM w (.int .i64 a0_0) (.int .i64 a0_1) (.int .i64 a0_2) (.int .i64 a0_3) (.int .i64 a0_4) a0_5 24
  have f1 : ((K : Int) == (K : Int)) = true := beq_self_eq_true _
  have i1 : devB ⟨7, (K : Int), 0, 0, 0, []⟩ = true := failed_may (fl_of q1 q2)
  have HF := hide fun o (h : devB ⟨a0_0, a0_1, a0_2, a0_3, a0_4, l0_5⟩ = o) => f_is h q1 q2
  obtain ⟨a, ca, rfl, _, _⟩ := i0_5
  clear hK
  cases h1 : devB ⟨a0_0, a0_1, a0_2, a0_3, a0_4, l0_5⟩
  all_goals
    rw [h1] at C2
    rw [HF.out _ h1] at C1
    simp only [faSa, faSu, errD, if_true, Bool.false_eq_true, if_false] at C1
    clear h1 HF
    go_enter Try.func5, Try.ntmps5
    go_wp2_with (go_at_call 16; refine (awake_any _).mono ?_; rintro e u1 ⟨rfl, hb⟩; replace hB := thenB hB hb; replace hX := sixB hX hb; clear hb)
    refine (C1.out _ hB).mono ?_; rintro e u2 ⟨rfl, hb⟩; replace hB := thenB hB hb; replace hX := sixB hX hb; clear hb
  · replace hX := sixB hX (hal u2 (.cells #[.int .i64 0, .int .i64 0, .int .i64 0, .int .i64 0, .int .i64 0, .slice none 0 0] 24))
    replace hB := hB.alloc hB.size (.cells #[.int .i64 0, .int .i64 0, .int .i64 0, .int .i64 0, .int .i64 0, .slice none 0 0] 24)
    go_wp2_with (first | (go_at_call 11; refine (num_any _ _).mono ?_; rintro e w' ⟨rfl, rfl⟩) | (go_at_call 12; refine (C2.out _ hB).mono ?_; rintro e w' ⟨rfl, hb⟩; replace hB := thenB hB hb; clear hb))
    go_ret
    exact ⟨rfl, hB⟩
  · replace hX := sixB hX (hal u2 (.cells #[.int .i64 7, .int .i64 (K : Int), .int .i64 0, .int .i64 0, .int .i64 0, .slice none 0 0] 24))
    replace hB := hB.alloc hB.size (.cells #[.int .i64 7, .int .i64 (K : Int), .int .i64 0, .int .i64 0, .int .i64 0, .slice none 0 0] 24)
    go_wp2_with (first | (go_at_call 11; refine (num_any _ _).mono ?_; rintro e w' ⟨rfl, rfl⟩) | (go_at_call 12; refine (may_bare i1 _).mono ?_; rintro e w' ⟨rfl, hb⟩; replace hB := thenB hB hb; clear hb))
    go_ret
    exact ⟨rfl, hB⟩

set_option maxRecDepth 100000 in
theorem lifted (os : Os) (started : os.Started) (H : Type) (enc : TypeId × Value → H) :
    ReturnsInHanded {} Try.checked os 5 .any (Rows.deviceFailsSpec.pre6 enc Try.prog Try.f5 Rows.deviceFailsRow.domain false) (Rows.deviceFailsSpec.post enc Try.prog Try.f5 false true false false) := by
  refine returnsInHanded_of_change_sized (C := Try.checked) own started (by kernel_rfl) Try.func5
    (ChangeSpec.witness6 (enc := enc) (C := Try.checked) false ⟨#[], #[.agg #[.int .i64 0, .int .i64 0, .int .i64 0, .int .i64 0, .int .i64 0, .slice none 0 0], .int .i64 0], []⟩ 8 (by kernel_rfl) (by kernel_rfl) (by kernel_rfl) (by kernel_rfl)) ?_
  intro W base args ds gs before hval0 hW hcnd hsz0 _
  have hval : ∀ (j : Nat) t v, Try.f5.params[j]? = some t → args[j]? = some v → Value.okWide Try.prog W .any base t v := hval0
  have hW' := hW
  obtain ⟨p, q, hA0, hV, rfl, hfz, hnd⟩ := hW
  have hA : DataW.TrodAll enc Try.prog W 0 (fun _ => true) true Try.f5.params.toList args.toList ds p := hA0
  have hsz : (DataW.weightsEach Try.prog (Try.f5.params.toList ++ Rows.deviceFailsSpec.plain.varTypes Try.prog) (ds ++ gs)).all (· ≤ reachBytes) = true := hsz0
  clear hsz0
  rw [Try.params5] at hA hval hsz
  obtain ⟨v0, vs0, d0, ds0, p0, q0, hargs, rfl, rfl, h0, r0⟩ := trodAll_cons hA
  obtain ⟨v1, vs1, d1, ds1, p1, q1, rfl, rfl, rfl, h1, r1⟩ := trodAll_cons r0
  obtain ⟨rfl, rfl, rfl⟩ := trodAll_nil r1
  obtain rfl : args = #[v0, v1] := by cases args; simp_all
  obtain ⟨rfl, rfl⟩ := trodVars_none hV
  have k0 := h0
  have lt0 : ∀ x ∈ p0, x.block < W.heap.size := by obtain ⟨m, hm⟩ := k0; exact DataW.trod_lt m _ _ _ hm
  obtain ⟨a0_0, a0_1, a0_2, a0_3, a0_4, a0_5, l0_5, rfl, w0_0, w0_1, w0_2, w0_3, w0_4, i0_5, z0_5, s0_5⟩ := open24 (hval 0 24 v0 rfl rfl) h0 lt0 (Go.Proofs.Ytebbficaolommaa.DevRow.sized_arg hsz (j := 0) rfl rfl)
  obtain ⟨a1, rfl, rfl, rfl, w1⟩ := open_int Try.underlying3 (hval 1 3 v1 rfl rfl) h1
  clear hA0 hval0
  refine (walk a0_0 a0_1 a0_2 a0_3 a0_4 a0_5 l0_5 a1 W w0_0 w0_1 w0_2 w0_3 w0_4 i0_5 z0_5 s0_5 w1).mono fun e W' ⟨he, bel⟩ => ?_
  subst he
  exact ⟨_, rfl, _, _, _, [], _, [], hW', (trodAll_cons_mk (shut_bool Try.underlying4 _) trodAll_mk0), (trodAll_cons_mk (Below.trod laidOut (by kernel_rfl) (of_decide_eq_true (by kernel_rfl)) k0 bel lt0) (trodAll_cons_mk (shut_int Try.underlying3 w1) trodAll_mk0)), rfl, bel.frame _, fun h => by cases h⟩

theorem over : Rows.deviceFailsRow.holds Try.pinned (OpenSpec.ofChange Rows.deviceFailsSpec) :=
  OpenClaim.holds_of_wide 5 Try.f5 rfl rfl rfl rfl rfl rfl rfl ⟨rfl, rfl, rfl, rfl, rfl⟩ rfl rfl rfl rfl rfl (by kernel_rfl) Try.func5 (by kernel_rfl)
    (of_decide_eq_true (by kernel_rfl)) (by unfold Func.isWrapper; first | (rw [if_pos (by decide +kernel)]; kernel_rfl) | (rw [if_neg (by decide +kernel)]; exact ⟨rfl, rfl⟩))
    (fun os started H enc _ => lifted os started H enc)

theorem proved : Rows.DeviceFailsSaid :=
  over
#print axioms proved
end Go.Proofs.Ytebbficaolommaa.deviceFails
