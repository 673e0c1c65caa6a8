/- Whatever the flash, the device, the block and the length: the law Uploads returns true (Give answers the device, the bytes and the error that the document does; the device that it was handed stays, also where its answer is spoilt), and the arguments read as they did; no condition. -/
import Derived.Test.YthcknngmpcepfaaRows
import Derived.Test.YthcknngmpcepfaaBagNor
import Derived.Test.YthcknngmpcepfaaBagDev
import Derived.Test.YthcknngmpcepfaaBagTim
import Derived.Test.YthcknngmpcepfaaUplMath
import Derived.Test.YthcknngmpcepfaaUplGive
import Derived.Test.YthcknngmpcepfaaUplRef
import Derived.Test.YthcknngmpcepfaaUplAwake
import Derived.Deep.Cut
import Derived.WalkKit
import Derived.ProofKit
import Derived.OpenShut
import Derived.ShutString
import Derived.ChangeOld
import Derived.Below
import Derived.SizedLaws
namespace Go.Proofs.Ythcknngmpcepfaa.uploads
open Go.ChangeShapes Go.WideShapes Go.ChangeAt Go.RowKit
open Go.ChangeMaps (open_string shut_string)
set_option linter.unusedVariables false

open Go.Proofs.Ythcknngmpcepfaa.Bytes
open Go.Proofs.Ythcknngmpcepfaa.Dev
open Go.Proofs.Ythcknngmpcepfaa.DevRow
open Go.Proofs.Ythcknngmpcepfaa.DevHelp
open Go.Proofs.Ythcknngmpcepfaa.DevAwake
open Go.Proofs.Ythcknngmpcepfaa.Tic
open Go.Proofs.Ythcknngmpcepfaa.TicRow
open Go.Proofs.Ythcknngmpcepfaa.Upl
theorem own : ownKnob Try.prog.godebug = none := by kernel_rfl
theorem laidOut : laidOutB Try.prog = true := by kernel_rfl
theorem field_of {H : Type} {enc : TypeId × Value → H} {P : Program} {w : World} {base : Nat} {spare : Nat → Bool} {held : Bool} {t : TypeId} {fs : Array Field} {fuel : Nat} {cs : List Value} {x : DataW H × List MemPlace} (ht : P.underlying t = some (.struct fs)) (h : DataW.trod enc P w base spare held fuel t cs = some x) (i : Nat) (f : Field) (hf : fs[i]? = some f) :
    ∃ n y, DataW.trod enc P w base spare held n f.type ((cs.drop f.offset).take (P.cellsOf f.type)) = some y := by
  obtain ⟨xs, n, _, _, _, hlen, hq⟩ := DataW.trod_struct ht h
  have hi : i < xs.length := by
    rw [hlen]
    rcases Nat.lt_or_ge i fs.size with h1 | h1
    · exact h1
    · rw [Array.getElem?_eq_none h1] at hf; cases hf
  exact ⟨n, xs[i], by rw [hq i f hf, List.getElem?_eq_getElem hi]⟩
theorem list24 {l : List Value} (h : l.length = 6) : ∃ c0 c1 c2 c3 c4 c5, l = [c0, c1, c2, c3, c4, c5] := by
  match l, h with
  | [c0, c1, c2, c3, c4, c5], _ => exact ⟨c0, c1, c2, c3, c4, c5, rfl⟩
set_option maxRecDepth 100000 in
theorem open24 {H : Type} {enc : TypeId × Value → H} {w : World} {base : Nat} {spare : Nat → Bool} {held : Bool} {r : Reach} {b0 : Nat} {v : Value} {d : DataW H} {p : List MemPlace} (hv : Value.okWide Try.prog w r b0 24 v) (h : DataW.Trod enc Try.prog w base spare held 24 v d p) (hlt : ∀ x ∈ p, x.block < w.heap.size) (hsz : (d.weights Try.prog 24).all (· ≤ reachBytes) = true) :
    ∃ (x0 : Int) (x1 : Int) (x2 : Int) (x3 : Int) (x4 : Int) (x5 : Value) (l5 : List Go.Proofs.Ythcknngmpcepfaa.Ops.FOp), v = .agg #[.int .i64 x0, .int .i64 x1, .int .i64 x2, .int .i64 x3, .int .i64 x4, x5] ∧ (Lit.int .i64 x0).wf = true ∧ (Lit.int .i64 x1).wf = true ∧ (Lit.int .i64 x2).wf = true ∧ (Lit.int .i64 x3).wf = true ∧ (Lit.int .i64 x4).wf = true ∧ Go.Proofs.Ythcknngmpcepfaa.DevRow.IsSt w x5 l5 ∧ l5.length * 32 ≤ 140737488351232 ∧ (∀ o ∈ l5, (Lit.int .i64 o.pl).wf = true ∧ o.tx.size ≤ maxLen) := by
  obtain ⟨cs, rfl, hsz0⟩ := okWide_struct Try.underlying24 hv
  have hc : Try.prog.cellsOf 24 = 6 := by kernel_rfl
  rw [hc] at hsz0
  obtain ⟨l⟩ := cs
  obtain ⟨c0, c1, c2, c3, c4, c5, rfl⟩ := list24 (l := l) (by simpa using hsz0)
  obtain ⟨fuel, hf⟩ := h
  have k0 : Try.prog.cellsOf 3 = 1 := by kernel_rfl
  obtain ⟨n0, y0, h0, L0, Z0⟩ := Go.Proofs.Ythcknngmpcepfaa.DevRow.field_of2 Try.underlying24 hf hlt hsz 0 _ rfl
  have g0 : DataW.trod enc Try.prog w base spare held n0 3 [c0] = some y0 := by simpa [Value.cells, k0] using h0
  obtain ⟨x0, e0, _, w0⟩ := DataW.trod_int Try.underlying3 g0
  obtain rfl := (List.cons.inj e0).1
  have k1 : Try.prog.cellsOf 3 = 1 := by kernel_rfl
  obtain ⟨n1, y1, h1, L1, Z1⟩ := Go.Proofs.Ythcknngmpcepfaa.DevRow.field_of2 Try.underlying24 hf hlt hsz 1 _ rfl
  have g1 : DataW.trod enc Try.prog w base spare held n1 3 [c1] = some y1 := by simpa [Value.cells, k1] using h1
  obtain ⟨x1, e1, _, w1⟩ := DataW.trod_int Try.underlying3 g1
  obtain rfl := (List.cons.inj e1).1
  have k2 : Try.prog.cellsOf 3 = 1 := by kernel_rfl
  obtain ⟨n2, y2, h2, L2, Z2⟩ := Go.Proofs.Ythcknngmpcepfaa.DevRow.field_of2 Try.underlying24 hf hlt hsz 2 _ rfl
  have g2 : DataW.trod enc Try.prog w base spare held n2 3 [c2] = some y2 := by simpa [Value.cells, k2] using h2
  obtain ⟨x2, e2, _, w2⟩ := DataW.trod_int Try.underlying3 g2
  obtain rfl := (List.cons.inj e2).1
  have k3 : Try.prog.cellsOf 3 = 1 := by kernel_rfl
  obtain ⟨n3, y3, h3, L3, Z3⟩ := Go.Proofs.Ythcknngmpcepfaa.DevRow.field_of2 Try.underlying24 hf hlt hsz 3 _ rfl
  have g3 : DataW.trod enc Try.prog w base spare held n3 3 [c3] = some y3 := by simpa [Value.cells, k3] using h3
  obtain ⟨x3, e3, _, w3⟩ := DataW.trod_int Try.underlying3 g3
  obtain rfl := (List.cons.inj e3).1
  have k4 : Try.prog.cellsOf 3 = 1 := by kernel_rfl
  obtain ⟨n4, y4, h4, L4, Z4⟩ := Go.Proofs.Ythcknngmpcepfaa.DevRow.field_of2 Try.underlying24 hf hlt hsz 4 _ rfl
  have g4 : DataW.trod enc Try.prog w base spare held n4 3 [c4] = some y4 := by simpa [Value.cells, k4] using h4
  obtain ⟨x4, e4, _, w4⟩ := DataW.trod_int Try.underlying3 g4
  obtain rfl := (List.cons.inj e4).1
  have k5 : Try.prog.cellsOf 22 = 1 := by kernel_rfl
  obtain ⟨n5, y5, h5, L5, Z5⟩ := Go.Proofs.Ythcknngmpcepfaa.DevRow.field_of2 Try.underlying24 hf hlt hsz 5 _ rfl
  have g5 : DataW.trod enc Try.prog w base spare held n5 22 [c5] = some y5 := by simpa [Value.cells, k5] using h5
  obtain ⟨x5, l5, e5, i5, z5, s5⟩ := Go.Proofs.Ythcknngmpcepfaa.DevRow.open_st Try.underlying22 Try.underlying69 rfl rfl rfl rfl rfl rfl Try.underlying4 Try.underlying3 Try.underlying9 (by kernel_rfl) (by kernel_rfl) (by kernel_rfl) (by kernel_rfl) (by kernel_rfl) g5 L5 Z5
  obtain rfl := (List.cons.inj e5).1.symm
  exact ⟨x0, x1, x2, x3, x4, x5, l5, rfl, w0, w1, w2, w3, w4, i5, z5, s5⟩

set_option maxRecDepth 100000 in
set_option maxHeartbeats 4000000 in
theorem walk (a0 : ByteArray) (a1_0 : Int) (a1_1 : Int) (a1_2 : Int) (a1_3 : Int) (a1_4 : Int) (a1_5 : Value) (l1_5 : List Go.Proofs.Ythcknngmpcepfaa.Ops.FOp) (a2 : Int) (a3 : Int) (w : World) (w0 : a0.size ≤ maxLen) (w1_0 : (Lit.int .i64 a1_0).wf = true) (w1_1 : (Lit.int .i64 a1_1).wf = true) (w1_2 : (Lit.int .i64 a1_2).wf = true) (w1_3 : (Lit.int .i64 a1_3).wf = true) (w1_4 : (Lit.int .i64 a1_4).wf = true) (i1_5 : Go.Proofs.Ythcknngmpcepfaa.DevRow.IsSt w a1_5 l1_5) (z1_5 : l1_5.length * 32 ≤ 140737488351232) (s1_5 : ∀ o ∈ l1_5, (Lit.int .i64 o.pl).wf = true ∧ o.tx.size ≤ maxLen) (w2 : (Lit.int .i64 a2).wf = true) (w3 : (Lit.int .i64 a3).wf = true) :
    Calls Try.prog 3 #[.string a0, .agg #[.int .i64 a1_0, .int .i64 a1_1, .int .i64 a1_2, .int .i64 a1_3, .int .i64 a1_4, a1_5], .int .i64 a2, .int .i64 a3] w fun e w' => e = .returned (.bool true) ∧ Below w.heap.size w w' := by
  have C0 := hide (fun w' hb => copyDev_any ⟨a1_0, a1_1, a1_2, a1_3, a1_4, l1_5⟩ a1_5 w' (show (l1_5.length + 2) * 32 ≤ 140737488355328 by omega) (IsSt.below i1_5 (w' := w') hb))
  have C1 := hide fun v w' h => UplGive.give_any a0 ⟨a1_0, a1_1, a1_2, a1_3, a1_4, l1_5⟩ v a2 a3 w' h
  have C2 := hide fun v w' h => UplRef.refUpload_any a0 ⟨a1_0, a1_1, a1_2, a1_3, a1_4, l1_5⟩ v a2 a3 w' h
  have C5 := hide fun u v w' h g => sameDev_yes ⟨a1_0, a1_1, a1_2, a1_3, a1_4, l1_5⟩ u v w' h g
  have hF := give_few a0 ⟨a1_0, a1_1, a1_2, a1_3, a1_4, l1_5⟩ a2 a3
  generalize giveD a0 ⟨a1_0, a1_1, a1_2, a1_3, a1_4, l1_5⟩ a2 a3 = D at *
  generalize giveS a0 ⟨a1_0, a1_1, a1_2, a1_3, a1_4, l1_5⟩ a2 a3 = T at *
  generalize errV (okU a0 ⟨a1_0, a1_1, a1_2, a1_3, a1_4, l1_5⟩ a2 a3) = E at *
  have C6 := hide fun u v w' h g => sameDev_yes D u v w' h g
  have C7 := hide fun v w' base n h g => TicSpoil.spoilDev_any D v w' base n (by omega) h g
  unfold UplGive.Given at C1
  unfold UplRef.RefGiven at C2
  obtain ⟨da, du, dn, dg, dl, dx⟩ := D
  dsimp only at C0 C1 C2 C5 C6 C7
  clear hF
  have f1 : (E != E) = false := bne_self_eq_false _
  have f2 : (T.toList == T.toList) = true := beq_self_eq_true _
  have f3 : (T.toList != T.toList) = false := bne_self_eq_false _
  have hB := (Below.refl w.heap.size w).alloc (Nat.le_refl _) (.cells #[.int .i64 a1_0, .int .i64 a1_1, .int .i64 a1_2, .int .i64 a1_3, .int .i64 a1_4, a1_5] 24)
  have hX := resM w (.int .i64 a1_0) (.int .i64 a1_1) (.int .i64 a1_2) (.int .i64 a1_3) (.int .i64 a1_4) a1_5 24
  have hD := i1_5.below ((Below.refl w.heap.size w).alloc (Nat.le_refl _) (.cells #[.int .i64 a1_0, .int .i64 a1_1, .int .i64 a1_2, .int .i64 a1_3, .int .i64 a1_4, a1_5] 24))
  obtain ⟨a, ca, rfl, _, _⟩ := i1_5
  go_enter Try.func3, Try.ntmps3
  go_wp2_with fail
  refine (C0.out _ hB).mono ?_; rintro e u1 ⟨⟨u, rfl, ho⟩, hb⟩; replace hB := thenB hB hb; replace hX := resB hX hb; replace hD := hD.below hb; clear hb
  have hU := ownsS_is ho
  clear ho C0
  obtain ⟨a2', c2, rfl, _, _⟩ := id hU
  have hP := resM u1 (.int .i64 a1_0) (.int .i64 a1_1) (.int .i64 a1_2) (.int .i64 a1_3) (.int .i64 a1_4) (.slice a2' l1_5.length c2) 24
  have hn := hal u1 (.cells #[.int .i64 a1_0, .int .i64 a1_1, .int .i64 a1_2, .int .i64 a1_3, .int .i64 a1_4, .slice a2' l1_5.length c2] 24)
  replace hX := resB hX hn
  replace hU := hU.below hn
  replace hD := hD.below hn
  replace hB := thenB hB hn
  clear hn
  go_upto_region 2 with fail
  generalize u1.alloc _ = W1 at *
  generalize u1.heap.size = G1 at *
  have hT := Below.refl W1.heap.size W1
  have HX := hide hX
  have HP := hide hP
  have HU := hide hU
  have HD := hide hD
  have HB := hide hB
  clear hB
  go_wp2_with fail
  refine (C1.out _ _ hU).mono ?_; rintro e u2 ⟨v1, rfl, ho1, hb⟩; replace hT := thenB hT hb; replace hX := resB hX hb; replace hD := hD.below hb; replace hP := resB hP hb; replace hU := hU.below hb; clear hb
  obtain ⟨p1, q1, rfl⟩ := ho1.form
  replace ho1 := ho1.lt
  have hQ := resM u2 (.int .i64 da) (.int .i64 du) (.int .i64 dn) (.int .i64 dg) (.int .i64 dl) (.slice p1 dx.length q1) 24
  have hn := hal u2 (.cells #[.int .i64 da, .int .i64 du, .int .i64 dn, .int .i64 dg, .int .i64 dl, .slice p1 dx.length q1] 24)
  replace hX := resB hX hn
  replace hD := hD.below hn
  replace hP := resB hP hn
  replace hU := hU.below hn
  replace hT := thenB hT hn
  replace ho1 := ho1.below hn
  clear hn C1
  go_upto_region 3 with fail
  generalize u2.alloc _ = W2 at *
  generalize u2.heap.size = G2 at *
  go_wp2_with fail
  refine (C2.out _ _ hD).mono ?_; rintro e u3 ⟨v2, rfl, hS, hb⟩; replace hT := thenB hT hb; replace hQ := resB hQ hb; replace ho1 := ho1.below hb; clear hb hX hD hP hU
  obtain ⟨p2, q2, rfl, _, _⟩ := id hS
  have hn := hal u3 (.cells #[.int .i64 da, .int .i64 du, .int .i64 dn, .int .i64 dg, .int .i64 dl, .slice p2 dx.length q2] 24)
  have hR := resM u3 (.int .i64 da) (.int .i64 du) (.int .i64 dn) (.int .i64 dg) (.int .i64 dl) (.slice p2 dx.length q2) 24
  replace hQ := resB hQ hn
  replace hS := hS.below hn
  replace hT := thenB hT hn
  replace ho1 := ho1.below hn
  clear hn C2
  go_upto_region 4 with fail
  generalize u3.alloc _ = W3 at *
  generalize u3.heap.size = G3 at *
  go_wp2_with fail
  refine (C6.out _ _ _ ho1.st.is hS).mono ?_; rintro e u6 ⟨rfl, hb⟩; replace hT := thenB hT hb; replace hQ := resB hQ hb; replace ho1 := ho1.below hb; clear hb hR hS C6
  go_upto_region 6 with (go_at_call 13; refine (num_any _ _).mono ?_; rintro e w' ⟨rfl, rfl⟩)
  go_wp2_with fail
  refine (C7.out _ _ W1.heap.size _ hT.size ho1).mono ?_; rintro e u8 ⟨rfl, hb, _⟩; replace hT := hT.trans hb; clear hb hQ ho1 C7
  have hX := resB HX.out hT
  have hP := resB HP.out hT
  have hU := HU.out.below hT
  have hD := HD.out.below hT
  have hB := thenB HB.out hT
  clear HX HP HU HD HB hT
  go_wp2_with fail
  refine (C5.out _ _ _ hU hD).mono ?_; rintro e u10 ⟨rfl, hb⟩; replace hB := thenB hB hb; clear hb hX hP hU hD
  go_wp2_with (go_at_call 15; refine (UplAwake.awake_any _).mono ?_; rintro e u11 ⟨rfl, hb⟩; replace hB := thenB hB hb; clear hb)
  go_ret
  exact ⟨rfl, hB⟩

set_option maxRecDepth 100000 in
theorem lifted (os : Os) (started : os.Started) (H : Type) (enc : TypeId × Value → H) :
    ReturnsInHanded {} Try.checked os 3 .any (Rows.uploadsSpec.pre6 enc Try.prog Try.f3 Rows.uploadsRow.domain false) (Rows.uploadsSpec.post enc Try.prog Try.f3 false true false false) := by
  refine returnsInHanded_of_change_sized (C := Try.checked) own started (by kernel_rfl) Try.func3
    (ChangeSpec.witness6 (enc := enc) (C := Try.checked) false ⟨#[], #[.string ByteArray.empty, .agg #[.int .i64 0, .int .i64 0, .int .i64 0, .int .i64 0, .int .i64 0, .slice none 0 0], .int .i64 0, .int .i64 0], []⟩ 8 (by kernel_rfl) (by kernel_rfl) (by kernel_rfl) (by kernel_rfl)) ?_
  intro W base args ds gs before hval0 hW hcnd hsz0 _
  have hval : ∀ (j : Nat) t v, Try.f3.params[j]? = some t → args[j]? = some v → Value.okWide Try.prog W .any base t v := hval0
  have hW' := hW
  obtain ⟨p, q, hA0, hV, rfl, hfz, hnd⟩ := hW
  have hA : DataW.TrodAll enc Try.prog W 0 (fun _ => true) true Try.f3.params.toList args.toList ds p := hA0
  have hsz : (DataW.weightsEach Try.prog (Try.f3.params.toList ++ Rows.uploadsSpec.plain.varTypes Try.prog) (ds ++ gs)).all (· ≤ reachBytes) = true := hsz0
  clear hsz0
  rw [Try.params3] at hA hval hsz
  obtain ⟨v0, vs0, d0, ds0, p0, q0, hargs, rfl, rfl, h0, r0⟩ := trodAll_cons hA
  obtain ⟨v1, vs1, d1, ds1, p1, q1, rfl, rfl, rfl, h1, r1⟩ := trodAll_cons r0
  obtain ⟨v2, vs2, d2, ds2, p2, q2, rfl, rfl, rfl, h2, r2⟩ := trodAll_cons r1
  obtain ⟨v3, vs3, d3, ds3, p3, q3, rfl, rfl, rfl, h3, r3⟩ := trodAll_cons r2
  obtain ⟨rfl, rfl, rfl⟩ := trodAll_nil r3
  obtain rfl : args = #[v0, v1, v2, v3] := by cases args; simp_all
  obtain ⟨rfl, rfl⟩ := trodVars_none hV
  obtain ⟨a0, rfl, rfl, rfl, w0⟩ := open_string Try.underlying9 (hval 0 9 v0 rfl rfl) h0
  have k1 := h1
  have lt1 : ∀ x ∈ p1, x.block < W.heap.size := by obtain ⟨m, hm⟩ := k1; exact DataW.trod_lt m _ _ _ hm
  obtain ⟨a1_0, a1_1, a1_2, a1_3, a1_4, a1_5, l1_5, rfl, w1_0, w1_1, w1_2, w1_3, w1_4, i1_5, z1_5, s1_5⟩ := open24 (hval 1 24 v1 rfl rfl) h1 lt1 (Go.Proofs.Ythcknngmpcepfaa.DevRow.sized_arg hsz (j := 1) rfl rfl)
  obtain ⟨a2, rfl, rfl, rfl, w2⟩ := open_int Try.underlying3 (hval 2 3 v2 rfl rfl) h2
  obtain ⟨a3, rfl, rfl, rfl, w3⟩ := open_int Try.underlying3 (hval 3 3 v3 rfl rfl) h3
  clear hA0 hval0
  refine (walk a0 a1_0 a1_1 a1_2 a1_3 a1_4 a1_5 l1_5 a2 a3 W w0 w1_0 w1_1 w1_2 w1_3 w1_4 i1_5 z1_5 s1_5 w2 w3).mono fun e W' ⟨he, bel⟩ => ?_
  subst he
  exact ⟨_, rfl, _, _, _, [], _, [], hW', (trodAll_cons_mk (shut_bool Try.underlying4 _) trodAll_mk0), (trodAll_cons_mk (shut_string Try.underlying9 w0) (trodAll_cons_mk (Below.trod laidOut (by kernel_rfl) (of_decide_eq_true (by kernel_rfl)) k1 bel lt1) (trodAll_cons_mk (shut_int Try.underlying3 w2) (trodAll_cons_mk (shut_int Try.underlying3 w3) trodAll_mk0)))), rfl, bel.frame _, fun h => by cases h⟩

theorem over : Rows.uploadsRow.holds Try.pinned (OpenSpec.ofChange Rows.uploadsSpec) :=
  OpenClaim.holds_of_wide 3 Try.f3 rfl rfl rfl rfl rfl rfl rfl ⟨rfl, rfl, rfl, rfl, rfl⟩ rfl rfl rfl rfl rfl (by kernel_rfl) Try.func3 (by kernel_rfl)
    (of_decide_eq_true (by kernel_rfl)) (by unfold Func.isWrapper; first | (rw [if_pos (by decide +kernel)]; kernel_rfl) | (rw [if_neg (by decide +kernel)]; exact ⟨rfl, rfl⟩))
    (fun os started H enc _ => lifted os started H enc)

theorem proved : Rows.UploadsSaid :=
  over
#print axioms proved
end Go.Proofs.Ythcknngmpcepfaa.uploads
