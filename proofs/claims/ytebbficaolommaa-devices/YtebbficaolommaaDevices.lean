/- Whatever the device and the number: the law Devices returns true (Fail, May and New answer as the document does; the device stays), and the arguments read as they did; no condition. -/
import Derived.Test.YtebbficaolommaaRows
import Derived.Test.YtebbficaolommaaNorMath
import Derived.Test.YtebbficaolommaaBytes
import Derived.Test.YtebbficaolommaaNorWalk
import Derived.Test.YtebbficaolommaaNorRef
import Derived.Test.YtebbficaolommaaOpsMath
import Derived.Test.YtebbficaolommaaOpsRow
import Derived.Test.YtebbficaolommaaOpsWalk
import Derived.Test.YtebbficaolommaaOpsWords
import Derived.Test.YtebbficaolommaaOpsRef
import Derived.Test.YtebbficaolommaaCrcMath
import Derived.Test.YtebbficaolommaaEntMath
import Derived.Test.YtebbficaolommaaEntRow
import Derived.Test.YtebbficaolommaaEntLow
import Derived.Test.YtebbficaolommaaEntWalk
import Derived.Test.YtebbficaolommaaEntRef
import Derived.Test.YtebbficaolommaaSufMath
import Derived.Test.YtebbficaolommaaAnsMath
import Derived.Test.YtebbficaolommaaAnsWalk
import Derived.Test.YtebbficaolommaaAnsRef
import Derived.Test.YtebbficaolommaaDevRow
import Derived.Test.YtebbficaolommaaDevMath
import Derived.Test.YtebbficaolommaaDevWalk
import Derived.Test.YtebbficaolommaaDevFail
import Derived.Test.YtebbficaolommaaDevHelp
import Derived.Test.YtebbficaolommaaDevRef
import Derived.Test.YtebbficaolommaaDevAwake
import Derived.Deep.RegionHeld3
import Derived.Deep.Cut
import Derived.WalkKit
import Derived.ProofKit
import Derived.OpenShut
import Derived.ShutString
import Derived.ChangeOld
import Derived.Below
import Derived.SizedLaws
namespace Go.Proofs.Ytebbficaolommaa.devices
open Go.ChangeShapes Go.WideShapes Go.ChangeAt Go.RowKit
open Go.ChangeMaps (open_string shut_string)
set_option linter.unusedVariables false

open Go.Proofs.Ytebbficaolommaa.Bytes
open Go.Proofs.Ytebbficaolommaa.Dev
open Go.Proofs.Ytebbficaolommaa.DevRow
open Go.Proofs.Ytebbficaolommaa.DevWalk
open Go.Proofs.Ytebbficaolommaa.DevFail
open Go.Proofs.Ytebbficaolommaa.DevHelp
open Go.Proofs.Ytebbficaolommaa.DevRef
open Go.Proofs.Ytebbficaolommaa.DevAwake
theorem own : ownKnob Try.prog.godebug = none := by kernel_rfl
theorem laidOut : laidOutB Try.prog = true := by kernel_rfl
theorem field_of {H : Type} {enc : TypeId × Value → H} {P : Program} {w : World} {base : Nat} {spare : Nat → Bool} {held : Bool} {t : TypeId} {fs : Array Field} {fuel : Nat} {cs : List Value} {x : DataW H × List MemPlace} (ht : P.underlying t = some (.struct fs)) (h : DataW.trod enc P w base spare held fuel t cs = some x) (i : Nat) (f : Field) (hf : fs[i]? = some f) :
    ∃ n y, DataW.trod enc P w base spare held n f.type ((cs.drop f.offset).take (P.cellsOf f.type)) = some y := by
  obtain ⟨xs, n, _, _, _, hlen, hq⟩ := DataW.trod_struct ht h
  have hi : i < xs.length := by
    rw [hlen]
    rcases Nat.lt_or_ge i fs.size with h1 | h1
    · exact h1
    · rw [Array.getElem?_eq_none h1] at hf; cases hf
  exact ⟨n, xs[i], by rw [hq i f hf, List.getElem?_eq_getElem hi]⟩
theorem list24 {l : List Value} (h : l.length = 6) : ∃ c0 c1 c2 c3 c4 c5, l = [c0, c1, c2, c3, c4, c5] := by
  match l, h with
  | [c0, c1, c2, c3, c4, c5], _ => exact ⟨c0, c1, c2, c3, c4, c5, rfl⟩
set_option maxRecDepth 100000 in
theorem open24 {H : Type} {enc : TypeId × Value → H} {w : World} {base : Nat} {spare : Nat → Bool} {held : Bool} {r : Reach} {b0 : Nat} {v : Value} {d : DataW H} {p : List MemPlace} (hv : Value.okWide Try.prog w r b0 24 v) (h : DataW.Trod enc Try.prog w base spare held 24 v d p) (hlt : ∀ x ∈ p, x.block < w.heap.size) (hsz : (d.weights Try.prog 24).all (· ≤ reachBytes) = true) :
    ∃ (x0 : Int) (x1 : Int) (x2 : Int) (x3 : Int) (x4 : Int) (x5 : Value) (l5 : List Go.Proofs.Ytebbficaolommaa.Ops.FOp), v = .agg #[.int .i64 x0, .int .i64 x1, .int .i64 x2, .int .i64 x3, .int .i64 x4, x5] ∧ (Lit.int .i64 x0).wf = true ∧ (Lit.int .i64 x1).wf = true ∧ (Lit.int .i64 x2).wf = true ∧ (Lit.int .i64 x3).wf = true ∧ (Lit.int .i64 x4).wf = true ∧ Go.Proofs.Ytebbficaolommaa.DevRow.IsSt w x5 l5 ∧ l5.length * 32 ≤ 140737488351232 ∧ (∀ o ∈ l5, (Lit.int .i64 o.pl).wf = true ∧ o.tx.size ≤ maxLen) := by
  obtain ⟨cs, rfl, hsz0⟩ := okWide_struct Try.underlying24 hv
  have hc : Try.prog.cellsOf 24 = 6 := by kernel_rfl
  rw [hc] at hsz0
  obtain ⟨l⟩ := cs
  obtain ⟨c0, c1, c2, c3, c4, c5, rfl⟩ := list24 (l := l) (by simpa using hsz0)
  obtain ⟨fuel, hf⟩ := h
  have k0 : Try.prog.cellsOf 3 = 1 := by kernel_rfl
  obtain ⟨n0, y0, h0, L0, Z0⟩ := Go.Proofs.Ytebbficaolommaa.DevRow.field_of2 Try.underlying24 hf hlt hsz 0 _ rfl
  have g0 : DataW.trod enc Try.prog w base spare held n0 3 [c0] = some y0 := by simpa [Value.cells, k0] using h0
  obtain ⟨x0, e0, _, w0⟩ := DataW.trod_int Try.underlying3 g0
  obtain rfl := (List.cons.inj e0).1
  have k1 : Try.prog.cellsOf 3 = 1 := by kernel_rfl
  obtain ⟨n1, y1, h1, L1, Z1⟩ := Go.Proofs.Ytebbficaolommaa.DevRow.field_of2 Try.underlying24 hf hlt hsz 1 _ rfl
  have g1 : DataW.trod enc Try.prog w base spare held n1 3 [c1] = some y1 := by simpa [Value.cells, k1] using h1
  obtain ⟨x1, e1, _, w1⟩ := DataW.trod_int Try.underlying3 g1
  obtain rfl := (List.cons.inj e1).1
  have k2 : Try.prog.cellsOf 3 = 1 := by kernel_rfl
  obtain ⟨n2, y2, h2, L2, Z2⟩ := Go.Proofs.Ytebbficaolommaa.DevRow.field_of2 Try.underlying24 hf hlt hsz 2 _ rfl
  have g2 : DataW.trod enc Try.prog w base spare held n2 3 [c2] = some y2 := by simpa [Value.cells, k2] using h2
  obtain ⟨x2, e2, _, w2⟩ := DataW.trod_int Try.underlying3 g2
  obtain rfl := (List.cons.inj e2).1
  have k3 : Try.prog.cellsOf 3 = 1 := by kernel_rfl
  obtain ⟨n3, y3, h3, L3, Z3⟩ := Go.Proofs.Ytebbficaolommaa.DevRow.field_of2 Try.underlying24 hf hlt hsz 3 _ rfl
  have g3 : DataW.trod enc Try.prog w base spare held n3 3 [c3] = some y3 := by simpa [Value.cells, k3] using h3
  obtain ⟨x3, e3, _, w3⟩ := DataW.trod_int Try.underlying3 g3
  obtain rfl := (List.cons.inj e3).1
  have k4 : Try.prog.cellsOf 3 = 1 := by kernel_rfl
  obtain ⟨n4, y4, h4, L4, Z4⟩ := Go.Proofs.Ytebbficaolommaa.DevRow.field_of2 Try.underlying24 hf hlt hsz 4 _ rfl
  have g4 : DataW.trod enc Try.prog w base spare held n4 3 [c4] = some y4 := by simpa [Value.cells, k4] using h4
  obtain ⟨x4, e4, _, w4⟩ := DataW.trod_int Try.underlying3 g4
  obtain rfl := (List.cons.inj e4).1
  have k5 : Try.prog.cellsOf 22 = 1 := by kernel_rfl
  obtain ⟨n5, y5, h5, L5, Z5⟩ := Go.Proofs.Ytebbficaolommaa.DevRow.field_of2 Try.underlying24 hf hlt hsz 5 _ rfl
  have g5 : DataW.trod enc Try.prog w base spare held n5 22 [c5] = some y5 := by simpa [Value.cells, k5] using h5
  obtain ⟨x5, l5, e5, i5, z5, s5⟩ := Go.Proofs.Ytebbficaolommaa.DevRow.open_st Try.underlying22 Try.underlying38 rfl rfl rfl rfl rfl rfl Try.underlying4 Try.underlying3 Try.underlying9 (by kernel_rfl) (by kernel_rfl) (by kernel_rfl) (by kernel_rfl) (by kernel_rfl) g5 L5 Z5
  obtain rfl := (List.cons.inj e5).1.symm
  exact ⟨x0, x1, x2, x3, x4, x5, l5, rfl, w0, w1, w2, w3, w4, i5, z5, s5⟩

open Go.Proofs.Ytebbficaolommaa.OpsRow (thenD)
set_option maxRecDepth 100000 in
set_option maxHeartbeats 4000000 in
theorem walk (a0_0 : Int) (a0_1 : Int) (a0_2 : Int) (a0_3 : Int) (a0_4 : Int) (a0_5 : Value) (l0_5 : List Go.Proofs.Ytebbficaolommaa.Ops.FOp) (a1 : Int) (w : World) (w0_0 : (Lit.int .i64 a0_0).wf = true) (w0_1 : (Lit.int .i64 a0_1).wf = true) (w0_2 : (Lit.int .i64 a0_2).wf = true) (w0_3 : (Lit.int .i64 a0_3).wf = true) (w0_4 : (Lit.int .i64 a0_4).wf = true) (i0_5 : Go.Proofs.Ytebbficaolommaa.DevRow.IsSt w a0_5 l0_5) (z0_5 : l0_5.length * 32 ≤ 140737488351232) (s0_5 : ∀ o ∈ l0_5, (Lit.int .i64 o.pl).wf = true ∧ o.tx.size ≤ maxLen) (w1 : (Lit.int .i64 a1).wf = true) :
    Calls Try.prog 3 #[.agg #[.int .i64 a0_0, .int .i64 a0_1, .int .i64 a0_2, .int .i64 a0_3, .int .i64 a0_4, a0_5], .int .i64 a1] w fun e w' => e = .returned (.bool true) ∧ Below w.heap.size w w' := by
  have C0 := hide (fun w' hb => copyDev_any ⟨a0_0, a0_1, a0_2, a0_3, a0_4, l0_5⟩ a0_5 w' (show (l0_5.length + 2) * 32 ≤ 140737488355328 by omega) (IsSt.below i0_5 (w' := w') hb))
  have C1 := hide fun v w' h => fail_any ⟨a0_0, a0_1, a0_2, a0_3, a0_4, l0_5⟩ v a1 w' h
  have C2 := hide fun v w' h => refFail_any ⟨a0_0, a0_1, a0_2, a0_3, a0_4, l0_5⟩ v a1 w' h
  have C3 := hide fun v w' h => dmay_any ⟨a0_0, a0_1, a0_2, a0_3, a0_4, l0_5⟩ v w' h
  have C4 := hide fun v w' h => refDev_any ⟨a0_0, a0_1, a0_2, a0_3, a0_4, l0_5⟩ v w' h
  have C5 := hide fun u v w' h g => sameDev_yes ⟨a0_0, a0_1, a0_2, a0_3, a0_4, l0_5⟩ u v w' h g
  dsimp only at C0 C1 C2 C3 C4 C5
  generalize faSa (failB ⟨a0_0, a0_1, a0_2, a0_3, a0_4, l0_5⟩ a1) = S at *
  generalize faSu (failB ⟨a0_0, a0_1, a0_2, a0_3, a0_4, l0_5⟩ a1) a1 = U at *
  generalize errD (failB ⟨a0_0, a0_1, a0_2, a0_3, a0_4, l0_5⟩ a1) = E at *
  generalize devB ⟨a0_0, a0_1, a0_2, a0_3, a0_4, l0_5⟩ = V at *
  have f1 : (E == E) = true := beq_self_eq_true _
  have f2 : (V == V) = true := beq_self_eq_true _
  have hB := (Below.refl w.heap.size w).alloc (Nat.le_refl _) (.cells #[.int .i64 a0_0, .int .i64 a0_1, .int .i64 a0_2, .int .i64 a0_3, .int .i64 a0_4, a0_5] 24)
  have hX := sixM w (.int .i64 a0_0) (.int .i64 a0_1) (.int .i64 a0_2) (.int .i64 a0_3) (.int .i64 a0_4) a0_5 24
  have hD := i0_5.below ((Below.refl w.heap.size w).alloc (Nat.le_refl _) (.cells #[.int .i64 a0_0, .int .i64 a0_1, .int .i64 a0_2, .int .i64 a0_3, .int .i64 a0_4, a0_5] 24))
  obtain ⟨a, ca, rfl, _, _⟩ := i0_5
  go_enter Try.func3, Try.ntmps3
  go_wp2_with fail
  refine (C0.out _ hB).mono ?_; rintro e u1 ⟨⟨u, rfl, ho⟩, hb⟩; replace hB := thenB hB hb; replace hX := sixB hX hb; replace hD := hD.below hb; clear hb
  have hU := ownsS_is ho
  clear ho
  obtain ⟨a2, c2, rfl, _, _⟩ := id hU
  have hP := sixM u1 (.int .i64 a0_0) (.int .i64 a0_1) (.int .i64 a0_2) (.int .i64 a0_3) (.int .i64 a0_4) (.slice a2 l0_5.length c2) 24
  have hn := hal u1 (.cells #[.int .i64 a0_0, .int .i64 a0_1, .int .i64 a0_2, .int .i64 a0_3, .int .i64 a0_4, .slice a2 l0_5.length c2] 24)
  replace hX := sixB hX hn
  replace hU := hU.below hn
  replace hD := hD.below hn
  replace hB := thenB hB hn
  clear hn
  go_wp2_with fail
  generalize u1.alloc (.cells #[.int .i64 a0_0, .int .i64 a0_1, .int .i64 a0_2, .int .i64 a0_3, .int .i64 a0_4, .slice a2 l0_5.length c2] 24) = W1 at *
  generalize u1.heap.size = G1 at *
  refine (C1.out _ _ hU).mono ?_; rintro e u2 ⟨rfl, hb⟩; replace hB := thenB hB hb; replace hX := sixD hb hX; replace hP := sixD hb hP; replace hD := hD.below hb; replace hU := hU.below hb; clear hb
  have hQ := sixM u2 (.int .i64 S) (.int .i64 U) (.int .i64 0) (.int .i64 0) (.int .i64 0) (.slice none 0 0) 24
  have hn := hal u2 (.cells #[.int .i64 S, .int .i64 U, .int .i64 0, .int .i64 0, .int .i64 0, .slice none 0 0] 24)
  replace hX := sixB hX hn
  replace hP := sixB hP hn
  replace hU := hU.below hn
  replace hD := hD.below hn
  replace hB := thenB hB hn
  clear hn
  go_wp2_with fail
  generalize u2.alloc (.cells #[.int .i64 S, .int .i64 U, .int .i64 0, .int .i64 0, .int .i64 0, .slice none 0 0] 24) = W2 at *
  generalize u2.heap.size = G2 at *
  refine (C2.out _ _ hD).mono ?_; rintro e u3 ⟨rfl, hb⟩; replace hB := thenB hB hb; replace hX := sixD hb hX; replace hP := sixD hb hP; replace hQ := sixD hb hQ; replace hD := hD.below hb; replace hU := hU.below hb; clear hb
  have hR := sixM u3 (.int .i64 S) (.int .i64 U) (.int .i64 0) (.int .i64 0) (.int .i64 0) (.slice none 0 0) 24
  have hn := hal u3 (.cells #[.int .i64 S, .int .i64 U, .int .i64 0, .int .i64 0, .int .i64 0, .slice none 0 0] 24)
  replace hX := sixB hX hn
  replace hP := sixB hP hn
  replace hQ := sixB hQ hn
  replace hU := hU.below hn
  replace hD := hD.below hn
  replace hB := thenB hB hn
  clear hn
  go_upto_region 4 with fail
  generalize u3.alloc (.cells #[.int .i64 S, .int .i64 U, .int .i64 0, .int .i64 0, .int .i64 0, .slice none 0 0] 24) = W3 at *
  generalize u3.heap.size = G3 at *
  have S1 := hide fun w => same_bare S U 0 0 0 w
  have S2 := hide fun w => same_bare 0 0 0 0 0 w
  clear C0 C1 C2
  go_region_held3 (fun W => (W.cell? ⟨w.heap.size, 0, none⟩ = some (.int .i64 a0_0) ∧ W.cell? ⟨w.heap.size, 1, none⟩ = some (.int .i64 a0_1) ∧ W.cell? ⟨w.heap.size, 2, none⟩ = some (.int .i64 a0_2) ∧ W.cell? ⟨w.heap.size, 3, none⟩ = some (.int .i64 a0_3) ∧ W.cell? ⟨w.heap.size, 4, none⟩ = some (.int .i64 a0_4) ∧ W.cell? ⟨w.heap.size, 5, none⟩ = some (.slice a l0_5.length ca)) ∧ (W.cell? ⟨G1, 0, none⟩ = some (.int .i64 a0_0) ∧ W.cell? ⟨G1, 1, none⟩ = some (.int .i64 a0_1) ∧ W.cell? ⟨G1, 2, none⟩ = some (.int .i64 a0_2) ∧ W.cell? ⟨G1, 3, none⟩ = some (.int .i64 a0_3) ∧ W.cell? ⟨G1, 4, none⟩ = some (.int .i64 a0_4) ∧ W.cell? ⟨G1, 5, none⟩ = some (.slice a2 l0_5.length c2)) ∧ (W.cell? ⟨G2, 0, none⟩ = some (.int .i64 S) ∧ W.cell? ⟨G2, 1, none⟩ = some (.int .i64 U) ∧ W.cell? ⟨G2, 2, none⟩ = some (.int .i64 0) ∧ W.cell? ⟨G2, 3, none⟩ = some (.int .i64 0) ∧ W.cell? ⟨G2, 4, none⟩ = some (.int .i64 0) ∧ W.cell? ⟨G2, 5, none⟩ = some (.slice none 0 0)) ∧ (W.cell? ⟨G3, 0, none⟩ = some (.int .i64 S) ∧ W.cell? ⟨G3, 1, none⟩ = some (.int .i64 U) ∧ W.cell? ⟨G3, 2, none⟩ = some (.int .i64 0) ∧ W.cell? ⟨G3, 3, none⟩ = some (.int .i64 0) ∧ W.cell? ⟨G3, 4, none⟩ = some (.int .i64 0) ∧ W.cell? ⟨G3, 5, none⟩ = some (.slice none 0 0))) (go_keep) (first | (go_at_call 11; refine (num_any _ _).mono ?_; rintro e w' ⟨rfl, rfl⟩) | (go_at_call 12; refine (C3.out _ _ (hU.heap rfl)).mono ?_; rintro e w' ⟨rfl, hb⟩; replace hB := thenD hb hB rfl rfl rfl rfl; replace hX := sixD hb hX; replace hP := sixD hb hP; replace hQ := sixD hb hQ; replace hR := sixD hb hR; replace hD := stD hb hD rfl; replace hU := stD hb hU rfl; clear hb) | (go_at_call 13; refine (C4.out _ _ (hD.heap rfl)).mono ?_; rintro e w' ⟨rfl, hb⟩; replace hB := thenD hb hB rfl rfl rfl rfl; replace hX := sixD hb hX; replace hP := sixD hb hP; replace hQ := sixD hb hQ; replace hR := sixD hb hR; replace hD := stD hb hD rfl; replace hU := stD hb hU rfl; clear hb) | (go_at_call 14; refine (new_any _).mono ?_; rintro e w' ⟨rfl, hb⟩; replace hB := thenD hb hB rfl rfl rfl rfl; replace hX := sixD hb hX; replace hP := sixD hb hP; replace hQ := sixD hb hQ; replace hR := sixD hb hR; replace hD := stD hb hD rfl; replace hU := stD hb hU rfl; clear hb) | (go_at_call 15; refine (newRef_any _).mono ?_; rintro e w' ⟨rfl, hb⟩; replace hB := thenD hb hB rfl rfl rfl rfl; replace hX := sixD hb hX; replace hP := sixD hb hP; replace hQ := sixD hb hQ; replace hR := sixD hb hR; replace hD := stD hb hD rfl; replace hU := stD hb hU rfl; clear hb) | (go_at_call 16; refine (awake_any _).mono ?_; rintro e w' ⟨rfl, hb⟩; replace hB := thenD hb hB rfl rfl rfl rfl; replace hX := sixD hb hX; replace hP := sixD hb hP; replace hQ := sixD hb hQ; replace hR := sixD hb hR; replace hD := stD hb hD rfl; replace hU := stD hb hU rfl; clear hb) | (go_at_call 10; (first | (with_reducible refine (S1.out _).mono ?_) | (with_reducible refine (S2.out _).mono ?_) | (refine (C5.out _ _ _ (hU.heap rfl) (hD.heap rfl)).mono ?_)); rintro e w' ⟨rfl, hb⟩; replace hB := thenD hb hB rfl rfl rfl rfl; replace hX := sixD hb hX; replace hP := sixD hb hP; replace hQ := sixD hb hQ; replace hR := sixD hb hR; replace hD := stD hb hD rfl; replace hU := stD hb hU rfl; clear hb))
  all_goals
    clear C3 C4 C5 S1 S2 hX hP hQ hR hD hU
    go_wp2
    go_ret
    exact ⟨rfl, hB⟩

set_option maxRecDepth 100000 in
theorem lifted (os : Os) (started : os.Started) (H : Type) (enc : TypeId × Value → H) :
    ReturnsInHanded {} Try.checked os 3 .any (Rows.devicesSpec.pre6 enc Try.prog Try.f3 Rows.devicesRow.domain false) (Rows.devicesSpec.post enc Try.prog Try.f3 false true false false) := by
  refine returnsInHanded_of_change_sized (C := Try.checked) own started (by kernel_rfl) Try.func3
    (ChangeSpec.witness6 (enc := enc) (C := Try.checked) false ⟨#[], #[.agg #[.int .i64 0, .int .i64 0, .int .i64 0, .int .i64 0, .int .i64 0, .slice none 0 0], .int .i64 0], []⟩ 8 (by kernel_rfl) (by kernel_rfl) (by kernel_rfl) (by kernel_rfl)) ?_
  intro W base args ds gs before hval0 hW hcnd hsz0 _
  have hval : ∀ (j : Nat) t v, Try.f3.params[j]? = some t → args[j]? = some v → Value.okWide Try.prog W .any base t v := hval0
  have hW' := hW
  obtain ⟨p, q, hA0, hV, rfl, hfz, hnd⟩ := hW
  have hA : DataW.TrodAll enc Try.prog W 0 (fun _ => true) true Try.f3.params.toList args.toList ds p := hA0
  have hsz : (DataW.weightsEach Try.prog (Try.f3.params.toList ++ Rows.devicesSpec.plain.varTypes Try.prog) (ds ++ gs)).all (· ≤ reachBytes) = true := hsz0
  clear hsz0
  rw [Try.params3] at hA hval hsz
  obtain ⟨v0, vs0, d0, ds0, p0, q0, hargs, rfl, rfl, h0, r0⟩ := trodAll_cons hA
  obtain ⟨v1, vs1, d1, ds1, p1, q1, rfl, rfl, rfl, h1, r1⟩ := trodAll_cons r0
  obtain ⟨rfl, rfl, rfl⟩ := trodAll_nil r1
  obtain rfl : args = #[v0, v1] := by cases args; simp_all
  obtain ⟨rfl, rfl⟩ := trodVars_none hV
  have k0 := h0
  have lt0 : ∀ x ∈ p0, x.block < W.heap.size := by obtain ⟨m, hm⟩ := k0; exact DataW.trod_lt m _ _ _ hm
  obtain ⟨a0_0, a0_1, a0_2, a0_3, a0_4, a0_5, l0_5, rfl, w0_0, w0_1, w0_2, w0_3, w0_4, i0_5, z0_5, s0_5⟩ := open24 (hval 0 24 v0 rfl rfl) h0 lt0 (Go.Proofs.Ytebbficaolommaa.DevRow.sized_arg hsz (j := 0) rfl rfl)
  obtain ⟨a1, rfl, rfl, rfl, w1⟩ := open_int Try.underlying3 (hval 1 3 v1 rfl rfl) h1
  clear hA0 hval0
  refine (walk a0_0 a0_1 a0_2 a0_3 a0_4 a0_5 l0_5 a1 W w0_0 w0_1 w0_2 w0_3 w0_4 i0_5 z0_5 s0_5 w1).mono fun e W' ⟨he, bel⟩ => ?_
  subst he
  exact ⟨_, rfl, _, _, _, [], _, [], hW', (trodAll_cons_mk (shut_bool Try.underlying4 _) trodAll_mk0), (trodAll_cons_mk (Below.trod laidOut (by kernel_rfl) (of_decide_eq_true (by kernel_rfl)) k0 bel lt0) (trodAll_cons_mk (shut_int Try.underlying3 w1) trodAll_mk0)), rfl, bel.frame _, fun h => by cases h⟩

theorem over : Rows.devicesRow.holds Try.pinned (OpenSpec.ofChange Rows.devicesSpec) :=
  OpenClaim.holds_of_wide 3 Try.f3 rfl rfl rfl rfl rfl rfl rfl ⟨rfl, rfl, rfl, rfl, rfl⟩ rfl rfl rfl rfl rfl (by kernel_rfl) Try.func3 (by kernel_rfl)
    (of_decide_eq_true (by kernel_rfl)) (by unfold Func.isWrapper; first | (rw [if_pos (by decide +kernel)]; kernel_rfl) | (rw [if_neg (by decide +kernel)]; exact ⟨rfl, rfl⟩))
    (fun os started H enc _ => lifted os started H enc)

theorem proved : Rows.DevicesSaid :=
  over
#print axioms proved
end Go.Proofs.Ytebbficaolommaa.devices
