/- Whatever the flash, the device and the two texts: the law Controls returns true (Handle answers the device, the reply and the error that the document does; the device that it was handed stays, also where its answer is spoilt), and the arguments read as they did; the variable 'skiff/table.allowed' reads as the program's text lays it (a tied card). -/
import Derived.Test.YtmlfkbkpkgaefaaGreatDoorRows
import Derived.Test.YtmlfkbkpkgaefaaGreatDoorBagNor
import Derived.Test.YtmlfkbkpkgaefaaGreatDoorBagDev
import Derived.Test.YtmlfkbkpkgaefaaGreatDoorBagTim
import Derived.Test.YtmlfkbkpkgaefaaGreatDoorBagTab
import Derived.Test.YtmlfkbkpkgaefaaGreatDoorBagCtl
import Derived.Test.YtmlfkbkpkgaefaaGreatDoorCtlRef
import Derived.Test.YtmlfkbkpkgaefaaGreatDoorCtlAwake
import Derived.Deep.Cut
import Derived.WalkKit
import Derived.ProofKit
import Derived.OpenShut
import Derived.ShutString
import Derived.ChangeOld
import Derived.Below
import Derived.SizedLaws
import Derived.Test.YtmlfkbkpkgaefaaGreatDoorCards
import Derived.Test.YtmlfkbkpkgaefaaGreatDoorTie
import Derived.LaidMore
import Derived.Handed
import Derived.LaidLaws
namespace Go.Proofs.YtmlfkbkpkgaefaaGreatDoor.controls
open Go.ChangeShapes Go.WideShapes Go.ChangeAt Go.RowKit
open Go.ChangeMaps (open_string shut_string)
set_option linter.unusedVariables false

open Go.Proofs.YtmlfkbkpkgaefaaGreatDoor.Bytes
open Go.Proofs.YtmlfkbkpkgaefaaGreatDoor.Dev
open Go.Proofs.YtmlfkbkpkgaefaaGreatDoor.DevRow
open Go.Proofs.YtmlfkbkpkgaefaaGreatDoor.DevHelp
open Go.Proofs.YtmlfkbkpkgaefaaGreatDoor.DevAwake
open Go.Proofs.YtmlfkbkpkgaefaaGreatDoor.Tic
open Go.Proofs.YtmlfkbkpkgaefaaGreatDoor.TicRow
open Go.Proofs.YtmlfkbkpkgaefaaGreatDoor.TabLaid
open Go.Proofs.YtmlfkbkpkgaefaaGreatDoor.Ctl
open Go.Proofs.YtmlfkbkpkgaefaaGreatDoor.CtlAwake
theorem own : ownKnob Tryz.prog.godebug = none := by kernel_rfl
theorem laidOut : laidOutB Tryz.prog = true := by kernel_rfl
theorem field_of {H : Type} {enc : TypeId × Value → H} {P : Program} {w : World} {base : Nat} {spare : Nat → Bool} {held : Bool} {t : TypeId} {fs : Array Field} {fuel : Nat} {cs : List Value} {x : DataW H × List MemPlace} (ht : P.underlying t = some (.struct fs)) (h : DataW.trod enc P w base spare held fuel t cs = some x) (i : Nat) (f : Field) (hf : fs[i]? = some f) :
    ∃ n y, DataW.trod enc P w base spare held n f.type ((cs.drop f.offset).take (P.cellsOf f.type)) = some y := by
  obtain ⟨xs, n, _, _, _, hlen, hq⟩ := DataW.trod_struct ht h
  have hi : i < xs.length := by
    rw [hlen]
    rcases Nat.lt_or_ge i fs.size with h1 | h1
    · exact h1
    · rw [Array.getElem?_eq_none h1] at hf; cases hf
  exact ⟨n, xs[i], by rw [hq i f hf, List.getElem?_eq_getElem hi]⟩
theorem list24 {l : List Value} (h : l.length = 6) : ∃ c0 c1 c2 c3 c4 c5, l = [c0, c1, c2, c3, c4, c5] := by
  match l, h with
  | [c0, c1, c2, c3, c4, c5], _ => exact ⟨c0, c1, c2, c3, c4, c5, rfl⟩
set_option maxRecDepth 100000 in
theorem open24 {H : Type} {enc : TypeId × Value → H} {w : World} {base : Nat} {spare : Nat → Bool} {held : Bool} {r : Reach} {b0 : Nat} {v : Value} {d : DataW H} {p : List MemPlace} (hv : Value.okWide Tryz.prog w r b0 24 v) (h : DataW.Trod enc Tryz.prog w base spare held 24 v d p) (hlt : ∀ x ∈ p, x.block < w.heap.size) (hsz : (d.weights Tryz.prog 24).all (· ≤ reachBytes) = true) :
    ∃ (x0 : Int) (x1 : Int) (x2 : Int) (x3 : Int) (x4 : Int) (x5 : Value) (l5 : List Go.Proofs.YtmlfkbkpkgaefaaGreatDoor.Ops.FOp), v = .agg #[.int .i64 x0, .int .i64 x1, .int .i64 x2, .int .i64 x3, .int .i64 x4, x5] ∧ (Lit.int .i64 x0).wf = true ∧ (Lit.int .i64 x1).wf = true ∧ (Lit.int .i64 x2).wf = true ∧ (Lit.int .i64 x3).wf = true ∧ (Lit.int .i64 x4).wf = true ∧ Go.Proofs.YtmlfkbkpkgaefaaGreatDoor.DevRow.IsSt w x5 l5 ∧ l5.length * 32 ≤ 140737488351232 ∧ (∀ o ∈ l5, (Lit.int .i64 o.pl).wf = true ∧ o.tx.size ≤ maxLen) := by
  obtain ⟨cs, rfl, hsz0⟩ := okWide_struct Tryz.underlying24 hv
  have hc : Tryz.prog.cellsOf 24 = 6 := by kernel_rfl
  rw [hc] at hsz0
  obtain ⟨l⟩ := cs
  obtain ⟨c0, c1, c2, c3, c4, c5, rfl⟩ := list24 (l := l) (by simpa using hsz0)
  obtain ⟨fuel, hf⟩ := h
  have k0 : Tryz.prog.cellsOf 3 = 1 := by kernel_rfl
  obtain ⟨n0, y0, h0, L0, Z0⟩ := Go.Proofs.YtmlfkbkpkgaefaaGreatDoor.DevRow.field_of2 Tryz.underlying24 hf hlt hsz 0 _ rfl
  have g0 : DataW.trod enc Tryz.prog w base spare held n0 3 [c0] = some y0 := by simpa [Value.cells, k0] using h0
  obtain ⟨x0, e0, _, w0⟩ := DataW.trod_int Tryz.underlying3 g0
  obtain rfl := (List.cons.inj e0).1
  have k1 : Tryz.prog.cellsOf 3 = 1 := by kernel_rfl
  obtain ⟨n1, y1, h1, L1, Z1⟩ := Go.Proofs.YtmlfkbkpkgaefaaGreatDoor.DevRow.field_of2 Tryz.underlying24 hf hlt hsz 1 _ rfl
  have g1 : DataW.trod enc Tryz.prog w base spare held n1 3 [c1] = some y1 := by simpa [Value.cells, k1] using h1
  obtain ⟨x1, e1, _, w1⟩ := DataW.trod_int Tryz.underlying3 g1
  obtain rfl := (List.cons.inj e1).1
  have k2 : Tryz.prog.cellsOf 3 = 1 := by kernel_rfl
  obtain ⟨n2, y2, h2, L2, Z2⟩ := Go.Proofs.YtmlfkbkpkgaefaaGreatDoor.DevRow.field_of2 Tryz.underlying24 hf hlt hsz 2 _ rfl
  have g2 : DataW.trod enc Tryz.prog w base spare held n2 3 [c2] = some y2 := by simpa [Value.cells, k2] using h2
  obtain ⟨x2, e2, _, w2⟩ := DataW.trod_int Tryz.underlying3 g2
  obtain rfl := (List.cons.inj e2).1
  have k3 : Tryz.prog.cellsOf 3 = 1 := by kernel_rfl
  obtain ⟨n3, y3, h3, L3, Z3⟩ := Go.Proofs.YtmlfkbkpkgaefaaGreatDoor.DevRow.field_of2 Tryz.underlying24 hf hlt hsz 3 _ rfl
  have g3 : DataW.trod enc Tryz.prog w base spare held n3 3 [c3] = some y3 := by simpa [Value.cells, k3] using h3
  obtain ⟨x3, e3, _, w3⟩ := DataW.trod_int Tryz.underlying3 g3
  obtain rfl := (List.cons.inj e3).1
  have k4 : Tryz.prog.cellsOf 3 = 1 := by kernel_rfl
  obtain ⟨n4, y4, h4, L4, Z4⟩ := Go.Proofs.YtmlfkbkpkgaefaaGreatDoor.DevRow.field_of2 Tryz.underlying24 hf hlt hsz 4 _ rfl
  have g4 : DataW.trod enc Tryz.prog w base spare held n4 3 [c4] = some y4 := by simpa [Value.cells, k4] using h4
  obtain ⟨x4, e4, _, w4⟩ := DataW.trod_int Tryz.underlying3 g4
  obtain rfl := (List.cons.inj e4).1
  have k5 : Tryz.prog.cellsOf 22 = 1 := by kernel_rfl
  obtain ⟨n5, y5, h5, L5, Z5⟩ := Go.Proofs.YtmlfkbkpkgaefaaGreatDoor.DevRow.field_of2 Tryz.underlying24 hf hlt hsz 5 _ rfl
  have g5 : DataW.trod enc Tryz.prog w base spare held n5 22 [c5] = some y5 := by simpa [Value.cells, k5] using h5
  obtain ⟨x5, l5, e5, i5, z5, s5⟩ := Go.Proofs.YtmlfkbkpkgaefaaGreatDoor.DevRow.open_st Tryz.underlying22 Tryz.underlying86 rfl rfl rfl rfl rfl rfl Tryz.underlying4 Tryz.underlying3 Tryz.underlying9 (by kernel_rfl) (by kernel_rfl) (by kernel_rfl) (by kernel_rfl) (by kernel_rfl) g5 L5 Z5
  obtain rfl := (List.cons.inj e5).1.symm
  exact ⟨x0, x1, x2, x3, x4, x5, l5, rfl, w0, w1, w2, w3, w4, i5, z5, s5⟩
theorem door_met (os : Os) (args : Array Value) : laidMetH Tryz.prog Rows.controlsRow.laid ((World.doorLaid Tryz.prog 22 os).forCall (fun _ _ => 0) ⟨#[], args, []⟩).memory :=
  laidMetH_of_parts3 (fuel := 8) (laidMet_of_run' 8 (by kernel_rfl) (by kernel_rfl)) (by kernel_rfl) (by kernel_rfl)

set_option maxRecDepth 100000 in
set_option maxHeartbeats 4000000 in
theorem walk (a0 : ByteArray) (a1_0 : Int) (a1_1 : Int) (a1_2 : Int) (a1_3 : Int) (a1_4 : Int) (a1_5 : Value) (l1_5 : List Go.Proofs.YtmlfkbkpkgaefaaGreatDoor.Ops.FOp) (a2 : ByteArray) (a3 : ByteArray) (w : World) (w0 : a0.size ≤ maxLen) (w1_0 : (Lit.int .i64 a1_0).wf = true) (w1_1 : (Lit.int .i64 a1_1).wf = true) (w1_2 : (Lit.int .i64 a1_2).wf = true) (w1_3 : (Lit.int .i64 a1_3).wf = true) (w1_4 : (Lit.int .i64 a1_4).wf = true) (i1_5 : Go.Proofs.YtmlfkbkpkgaefaaGreatDoor.DevRow.IsSt w a1_5 l1_5) (z1_5 : l1_5.length * 32 ≤ 140737488351232) (s1_5 : ∀ o ∈ l1_5, (Lit.int .i64 o.pl).wf = true ∧ o.tx.size ≤ maxLen) (w2 : a2.size ≤ maxLen) (w3 : a3.size ≤ maxLen) (hL : laidMetH Tryz.prog Rows.controlsRow.laid w) :
    Calls Tryz.prog 3 #[.string a0, .agg #[.int .i64 a1_0, .int .i64 a1_1, .int .i64 a1_2, .int .i64 a1_3, .int .i64 a1_4, a1_5], .string a2, .string a3] w fun e w' => e = .returned (.bool true) ∧ Below w.heap.size w w' := by
  have HT := hide (tab_of_laid hL (by kernel_rfl) (List.mem_singleton.2 rfl))
  have C0 := hide (fun w' hb => copyDev_any ⟨a1_0, a1_1, a1_2, a1_3, a1_4, l1_5⟩ a1_5 w' (show (l1_5.length + 2) * 32 ≤ 140737488355328 by omega) (IsSt.below i1_5 (w' := w') hb))
  have C1 := hide fun v w' h g => CtlHand.hand_any a0 ⟨a1_0, a1_1, a1_2, a1_3, a1_4, l1_5⟩ v a2 a3 w' h g
  have C2 := hide fun v w' h => CtlRef.refHandle_any a0 ⟨a1_0, a1_1, a1_2, a1_3, a1_4, l1_5⟩ v a2 a3 w' h
  have C5 := hide fun u v w' h g => sameDev_yes ⟨a1_0, a1_1, a1_2, a1_3, a1_4, l1_5⟩ u v w' h g
  have hF := hand_few a0 ⟨a1_0, a1_1, a1_2, a1_3, a1_4, l1_5⟩ a2 a3
  generalize handD a0 ⟨a1_0, a1_1, a1_2, a1_3, a1_4, l1_5⟩ a2 a3 = D at *
  generalize handB a0 ⟨a1_0, a1_1, a1_2, a1_3, a1_4, l1_5⟩ a2 a3 = ST at *
  generalize handS a0 ⟨a1_0, a1_1, a1_2, a1_3, a1_4, l1_5⟩ a2 a3 = T at *
  generalize errC (bothB a0 ⟨a1_0, a1_1, a1_2, a1_3, a1_4, l1_5⟩) = E at *
  have C6 := hide fun u v w' h g => sameDev_yes D u v w' h g
  have C7 := hide fun v w' base n h g => TicSpoil.spoilDev_any D v w' base n hF h g
  unfold CtlHand.Handed at C1 C2
  obtain ⟨da, du, dn, dg, dl, dx⟩ := D
  dsimp only at C0 C1 C2 C5 C6 C7
  clear hF hL
  have f1 : (E != E) = false := bne_self_eq_false _
  have f2 : (T.toList == T.toList) = true := beq_self_eq_true _
  have f3 : (T.toList != T.toList) = false := bne_self_eq_false _
  have f4 : (ST == ST) = true := beq_self_eq_true _
  have hB := (Below.refl w.heap.size w).alloc (Nat.le_refl _) (.cells #[.int .i64 a1_0, .int .i64 a1_1, .int .i64 a1_2, .int .i64 a1_3, .int .i64 a1_4, a1_5] 24)
  have hX := resM w (.int .i64 a1_0) (.int .i64 a1_1) (.int .i64 a1_2) (.int .i64 a1_3) (.int .i64 a1_4) a1_5 24
  have hD := i1_5.below ((Below.refl w.heap.size w).alloc (Nat.le_refl _) (.cells #[.int .i64 a1_0, .int .i64 a1_1, .int .i64 a1_2, .int .i64 a1_3, .int .i64 a1_4, a1_5] 24))
  obtain ⟨a, ca, rfl, _, _⟩ := i1_5
  go_enter Tryz.func3, Tryz.ntmps3
  go_wp2_with fail
  refine (C0.out _ hB).mono ?_; rintro e u1 ⟨⟨u, rfl, ho⟩, hb⟩; replace hB := thenB hB hb; replace hX := resB hX hb; replace hD := hD.below hb; clear hb
  have hU := ownsS_is ho
  clear ho C0
  obtain ⟨a2', c2, rfl, _, _⟩ := id hU
  have hP := resM u1 (.int .i64 a1_0) (.int .i64 a1_1) (.int .i64 a1_2) (.int .i64 a1_3) (.int .i64 a1_4) (.slice a2' l1_5.length c2) 24
  have hn := hal u1 (.cells #[.int .i64 a1_0, .int .i64 a1_1, .int .i64 a1_2, .int .i64 a1_3, .int .i64 a1_4, .slice a2' l1_5.length c2] 24)
  replace hX := resB hX hn
  replace hU := hU.below hn
  replace hD := hD.below hn
  replace hB := thenB hB hn
  clear hn
  go_upto_region 2 with fail
  generalize u1.alloc _ = W1 at *
  generalize u1.heap.size = G1 at *
  have hT := Below.refl W1.heap.size W1
  have HX := hide hX
  have HP := hide hP
  have HU := hide hU
  have HD := hide hD
  have HB := hide hB
  clear hB
  go_wp2_with fail
  refine (C1.out _ _ hU (HT.out.below HB.out)).mono ?_; rintro e u2 ⟨v1, rfl, ho1, hb⟩; replace hT := thenB hT hb; replace hX := resB hX hb; replace hD := hD.below hb; replace hP := resB hP hb; replace hU := hU.below hb; clear hb
  obtain ⟨p1, q1, rfl⟩ := ho1.form
  replace ho1 := ho1.lt
  obtain ⟨hQ, hQr, hn⟩ := dev_reply u2 (.int .i64 da) (.int .i64 du) (.int .i64 dn) (.int .i64 dg) (.int .i64 dl) (.slice p1 dx.length q1) (.bool false) (.bool ST) (.string T)
  replace hX := resB hX hn
  replace hD := hD.below hn
  replace hP := resB hP hn
  replace hU := hU.below hn
  replace hT := thenB hT hn
  replace ho1 := ho1.below hn
  clear hn C1
  go_upto_region 3 with fail
  generalize (u2.alloc _).alloc _ = W2 at *
  generalize u2.heap.size = G2 at *
  go_wp2_with fail
  refine (C2.out _ _ hD).mono ?_; rintro e u3 ⟨v2, rfl, hS, hb⟩; replace hT := thenB hT hb; replace hQ := resB hQ hb; replace hQr := SetWalk.resB hQr hb; replace ho1 := ho1.below hb; clear hb hX hD hP hU
  replace hS := hS.is
  obtain ⟨p2, q2, rfl, _, _⟩ := id hS
  obtain ⟨hR, hRr, hn⟩ := dev_reply u3 (.int .i64 da) (.int .i64 du) (.int .i64 dn) (.int .i64 dg) (.int .i64 dl) (.slice p2 dx.length q2) (.bool false) (.bool ST) (.string T)
  replace hQ := resB hQ hn
  replace hQr := SetWalk.resB hQr hn
  replace hS := hS.below hn
  replace hT := thenB hT hn
  replace ho1 := ho1.below hn
  clear hn C2
  go_upto_region 4 with fail
  generalize (u3.alloc _).alloc _ = W3 at *
  generalize u3.heap.size = G3 at *
  go_wp2_with fail
  refine (C6.out _ _ _ ho1.st.is hS).mono ?_; rintro e u6 ⟨rfl, hb⟩; replace hT := thenB hT hb; replace hQ := resB hQ hb; replace hQr := SetWalk.resB hQr hb; replace hRr := SetWalk.resB hRr hb; replace ho1 := ho1.below hb; clear hb hR hS C6
  go_upto_region 6 with (go_at_call 11; refine (num_any _ _).mono ?_; rintro e w' ⟨rfl, rfl⟩)
  go_wp2_with fail
  refine (C7.out _ _ W1.heap.size _ hT.size ho1).mono ?_; rintro e u8 ⟨rfl, hb, _⟩; replace hT := hT.trans hb; clear hb hQ hQr hRr ho1 C7
  have hX := resB HX.out hT
  have hP := resB HP.out hT
  have hU := HU.out.below hT
  have hD := HD.out.below hT
  have hB := thenB HB.out hT
  clear HX HP HU HD HB hT
  go_wp2_with fail
  refine (C5.out _ _ _ hU hD).mono ?_; rintro e u10 ⟨rfl, hb⟩; replace hB := thenB hB hb; clear hb hX hP hU hD
  go_wp2_with (go_at_call 13; refine (CtlAwake.awake_any _ (HT.out.below hB)).mono ?_; rintro e u11 ⟨rfl, hb⟩; replace hB := thenB hB hb; clear hb)
  go_ret
  exact ⟨rfl, hB⟩

set_option maxRecDepth 100000 in
theorem lifted (os : Os) (started : os.Started) (H : Type) (enc : TypeId × Value → H) :
    ReturnsInHanded {} Tryz.checked os 3 .any (fun w args => (Rows.controlsSpec.pre enc Tryz.prog Tryz.f3 Rows.controlsRow.domain false w args ∧ laidMetH Tryz.prog Rows.controlsRow.laid w) ∧ sizedMet enc Tryz.prog Tryz.f3 (OpenSpec.ofChange Rows.controlsSpec) false w args) (Rows.controlsSpec.post enc Tryz.prog Tryz.f3 false true false false) := by
  refine returnsInHanded_of_change_and (C := Tryz.checked) (X := fun w _ => laidMetH Tryz.prog Rows.controlsRow.laid w) (fun _ _ _ hh h => h.of_heap hh) own started (by kernel_rfl) Tryz.func3
    (ChangeSpec.witness_shaped (enc := enc) (C := Tryz.checked) (os := os) (X := fun w _ => laidMetH Tryz.prog Rows.controlsRow.laid w) false (World.doorLaid Tryz.prog 22 os) #[.string ByteArray.empty, .agg #[.int .i64 0, .int .i64 0, .int .i64 0, .int .i64 0, .int .i64 0, .slice none 0 0], .string ByteArray.empty, .string ByteArray.empty] 8 rfl (World.shaped_of_RefB (by kernel_rfl) (by kernel_rfl)) (by kernel_rfl) (by kernel_rfl) (by kernel_rfl) (door_met os _)) ?_
  intro W base args ds gs before hval0 hW hcnd hsz0 hL _
  have hval : ∀ (j : Nat) t v, Tryz.f3.params[j]? = some t → args[j]? = some v → Value.okWide Tryz.prog W .any base t v := hval0
  have hW' := hW
  obtain ⟨p, q, hA0, hV, rfl, hfz, hnd⟩ := hW
  have hA : DataW.TrodAll enc Tryz.prog W 0 (fun _ => true) true Tryz.f3.params.toList args.toList ds p := hA0
  have hsz : (DataW.weightsEach Tryz.prog (Tryz.f3.params.toList ++ Rows.controlsSpec.plain.varTypes Tryz.prog) (ds ++ gs)).all (· ≤ reachBytes) = true := hsz0
  clear hsz0
  rw [Tryz.params3] at hA hval hsz
  obtain ⟨v0, vs0, d0, ds0, p0, q0, hargs, rfl, rfl, h0, r0⟩ := trodAll_cons hA
  obtain ⟨v1, vs1, d1, ds1, p1, q1, rfl, rfl, rfl, h1, r1⟩ := trodAll_cons r0
  obtain ⟨v2, vs2, d2, ds2, p2, q2, rfl, rfl, rfl, h2, r2⟩ := trodAll_cons r1
  obtain ⟨v3, vs3, d3, ds3, p3, q3, rfl, rfl, rfl, h3, r3⟩ := trodAll_cons r2
  obtain ⟨rfl, rfl, rfl⟩ := trodAll_nil r3
  obtain rfl : args = #[v0, v1, v2, v3] := by cases args; simp_all
  obtain ⟨rfl, rfl⟩ := trodVars_none hV
  obtain ⟨a0, rfl, rfl, rfl, w0⟩ := open_string Tryz.underlying9 (hval 0 9 v0 rfl rfl) h0
  have k1 := h1
  have lt1 : ∀ x ∈ p1, x.block < W.heap.size := by obtain ⟨m, hm⟩ := k1; exact DataW.trod_lt m _ _ _ hm
  obtain ⟨a1_0, a1_1, a1_2, a1_3, a1_4, a1_5, l1_5, rfl, w1_0, w1_1, w1_2, w1_3, w1_4, i1_5, z1_5, s1_5⟩ := open24 (hval 1 24 v1 rfl rfl) h1 lt1 (Go.Proofs.YtmlfkbkpkgaefaaGreatDoor.DevRow.sized_arg hsz (j := 1) rfl rfl)
  obtain ⟨a2, rfl, rfl, rfl, w2⟩ := open_string Tryz.underlying9 (hval 2 9 v2 rfl rfl) h2
  obtain ⟨a3, rfl, rfl, rfl, w3⟩ := open_string Tryz.underlying9 (hval 3 9 v3 rfl rfl) h3
  clear hA0 hval0
  refine (walk a0 a1_0 a1_1 a1_2 a1_3 a1_4 a1_5 l1_5 a2 a3 W w0 w1_0 w1_1 w1_2 w1_3 w1_4 i1_5 z1_5 s1_5 w2 w3 hL).mono fun e W' ⟨he, bel⟩ => ?_
  subst he
  exact ⟨_, rfl, _, _, _, [], _, [], hW', (trodAll_cons_mk (shut_bool Tryz.underlying4 _) trodAll_mk0), (trodAll_cons_mk (shut_string Tryz.underlying9 w0) (trodAll_cons_mk (Below.trod laidOut (by kernel_rfl) (of_decide_eq_true (by kernel_rfl)) k1 bel lt1) (trodAll_cons_mk (shut_string Tryz.underlying9 w2) (trodAll_cons_mk (shut_string Tryz.underlying9 w3) trodAll_mk0)))), rfl, bel.frame _, fun h => by cases h⟩

theorem over : Rows.controlsRow.holds Tryz.pinned (OpenSpec.ofChange Rows.controlsSpec) :=
  OpenClaim.holds_of_wide 3 Tryz.f3 rfl rfl rfl rfl rfl rfl rfl ⟨rfl, rfl, rfl, rfl, rfl⟩ rfl rfl rfl rfl rfl (by kernel_rfl) Tryz.func3 (by kernel_rfl)
    (of_decide_eq_true (by kernel_rfl)) (by unfold Func.isWrapper; first | (rw [if_pos (by decide +kernel)]; kernel_rfl) | (rw [if_neg (by decide +kernel)]; exact ⟨rfl, rfl⟩))
    (fun os started H enc _ => lifted os started H enc)

theorem plain (f : FuncId) (fn : Func) (hf : Tryz.pinned.checked.prog.funcNamed "skiff/skifflaw21.Controls" = some f) (hfn : Tryz.pinned.checked.prog.funcs[f]? = some fn) :
    false = Tryz.pinned.checked.prog.looks [] ∧ ∀ (j : Nat) t, fn.params[j]? = some t → Tryz.pinned.checked.prog.wantsStandIn t = false := by
  obtain rfl : f = 3 := Option.some.inj ((show Tryz.prog.funcNamed "skiff/skifflaw21.Controls" = some 3 by kernel_rfl).symm.trans hf) |>.symm
  obtain rfl : fn = Tryz.f3 := (Option.some.inj (Tryz.func3.symm.trans hfn)).symm
  refine ⟨by kernel_rfl, fun j t ht => ?_⟩
  rw [Tryz.params3] at ht
  rcases j with _ | _ | _ | _ | j
  · obtain rfl : 9 = t := by simpa using ht
    exact (show Tryz.prog.wantsStandIn 9 = false by kernel_rfl)
  · obtain rfl : 24 = t := by simpa using ht
    exact (show Tryz.prog.wantsStandIn 24 = false by kernel_rfl)
  · obtain rfl : 9 = t := by simpa using ht
    exact (show Tryz.prog.wantsStandIn 9 = false by kernel_rfl)
  · obtain rfl : 9 = t := by simpa using ht
    exact (show Tryz.prog.wantsStandIn 9 = false by kernel_rfl)
  · simp at ht
theorem proved : Rows.ControlsCardSaid :=
  Claim7.holds_tied_plain_at .later [] _ _ _ _ over (fun _ h => by cases h) (by kernel_rfl) (fun _ h => by cases h) controls_row_tie rfl ⟨rfl, rfl⟩ (by kernel_rfl) rfl plain (by kernel_rfl)
#print axioms proved
end Go.Proofs.YtmlfkbkpkgaefaaGreatDoor.controls
