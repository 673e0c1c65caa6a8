/- Whatever the device and the number: the law ControlAborts returns true (abort, and clearing a status, make a device new, where they are allowed; asking its state turns nothing), and the arguments read as they did; the variable 'skiff/table.allowed' reads as the program's text lays it (a tied card). -/
import Derived.Test.YtmlfkbkpkgaefaaGreatDoorRows
import Derived.Test.YtmlfkbkpkgaefaaGreatDoorBagNor
import Derived.Test.YtmlfkbkpkgaefaaGreatDoorBagDev
import Derived.Test.YtmlfkbkpkgaefaaGreatDoorBagDoc
import Derived.Test.YtmlfkbkpkgaefaaGreatDoorBagDnl
import Derived.Test.YtmlfkbkpkgaefaaGreatDoorBagTim
import Derived.Test.YtmlfkbkpkgaefaaGreatDoorBagTab
import Derived.Test.YtmlfkbkpkgaefaaGreatDoorTabRef
import Derived.Test.YtmlfkbkpkgaefaaGreatDoorBagCtl
import Derived.Test.YtmlfkbkpkgaefaaGreatDoorCtlAwake
import Derived.Deep.Cut
import Derived.WalkKit
import Derived.ProofKit
import Derived.OpenShut
import Derived.ShutString
import Derived.ChangeOld
import Derived.Below
import Derived.SizedLaws
import Derived.Test.YtmlfkbkpkgaefaaGreatDoorCards
import Derived.Test.YtmlfkbkpkgaefaaGreatDoorTie
import Derived.LaidMore
import Derived.Handed
import Derived.LaidLaws
namespace Go.Proofs.YtmlfkbkpkgaefaaGreatDoor.controlAborts
open Go.ChangeShapes Go.WideShapes Go.ChangeAt Go.RowKit
open Go.ChangeMaps (open_string shut_string)
set_option linter.unusedVariables false

open Go.Proofs.YtmlfkbkpkgaefaaGreatDoor.Bytes
open Go.Proofs.YtmlfkbkpkgaefaaGreatDoor.Dev
open Go.Proofs.YtmlfkbkpkgaefaaGreatDoor.DevRow
open Go.Proofs.YtmlfkbkpkgaefaaGreatDoor.DevHelp
open Go.Proofs.YtmlfkbkpkgaefaaGreatDoor.DevAwake
open Go.Proofs.YtmlfkbkpkgaefaaGreatDoor.Dnl
open Go.Proofs.YtmlfkbkpkgaefaaGreatDoor.DnlMore
open Go.Proofs.YtmlfkbkpkgaefaaGreatDoor.Tic
open Go.Proofs.YtmlfkbkpkgaefaaGreatDoor.TicRow
open Go.Proofs.YtmlfkbkpkgaefaaGreatDoor.Sup
open Go.Proofs.YtmlfkbkpkgaefaaGreatDoor.Tab
open Go.Proofs.YtmlfkbkpkgaefaaGreatDoor.TabLaid
open Go.Proofs.YtmlfkbkpkgaefaaGreatDoor.Ctl
open Go.Proofs.YtmlfkbkpkgaefaaGreatDoor.CtlAwake
theorem own : ownKnob Tryz.prog.godebug = none := by kernel_rfl
theorem laidOut : laidOutB Tryz.prog = true := by kernel_rfl
theorem field_of {H : Type} {enc : TypeId × Value → H} {P : Program} {w : World} {base : Nat} {spare : Nat → Bool} {held : Bool} {t : TypeId} {fs : Array Field} {fuel : Nat} {cs : List Value} {x : DataW H × List MemPlace} (ht : P.underlying t = some (.struct fs)) (h : DataW.trod enc P w base spare held fuel t cs = some x) (i : Nat) (f : Field) (hf : fs[i]? = some f) :
    ∃ n y, DataW.trod enc P w base spare held n f.type ((cs.drop f.offset).take (P.cellsOf f.type)) = some y := by
  obtain ⟨xs, n, _, _, _, hlen, hq⟩ := DataW.trod_struct ht h
  have hi : i < xs.length := by
    rw [hlen]
    rcases Nat.lt_or_ge i fs.size with h1 | h1
    · exact h1
    · rw [Array.getElem?_eq_none h1] at hf; cases hf
  exact ⟨n, xs[i], by rw [hq i f hf, List.getElem?_eq_getElem hi]⟩
theorem list24 {l : List Value} (h : l.length = 6) : ∃ c0 c1 c2 c3 c4 c5, l = [c0, c1, c2, c3, c4, c5] := by
  match l, h with
  | [c0, c1, c2, c3, c4, c5], _ => exact ⟨c0, c1, c2, c3, c4, c5, rfl⟩
set_option maxRecDepth 100000 in
theorem open24 {H : Type} {enc : TypeId × Value → H} {w : World} {base : Nat} {spare : Nat → Bool} {held : Bool} {r : Reach} {b0 : Nat} {v : Value} {d : DataW H} {p : List MemPlace} (hv : Value.okWide Tryz.prog w r b0 24 v) (h : DataW.Trod enc Tryz.prog w base spare held 24 v d p) (hlt : ∀ x ∈ p, x.block < w.heap.size) (hsz : (d.weights Tryz.prog 24).all (· ≤ reachBytes) = true) :
    ∃ (x0 : Int) (x1 : Int) (x2 : Int) (x3 : Int) (x4 : Int) (x5 : Value) (l5 : List Go.Proofs.YtmlfkbkpkgaefaaGreatDoor.Ops.FOp), v = .agg #[.int .i64 x0, .int .i64 x1, .int .i64 x2, .int .i64 x3, .int .i64 x4, x5] ∧ (Lit.int .i64 x0).wf = true ∧ (Lit.int .i64 x1).wf = true ∧ (Lit.int .i64 x2).wf = true ∧ (Lit.int .i64 x3).wf = true ∧ (Lit.int .i64 x4).wf = true ∧ Go.Proofs.YtmlfkbkpkgaefaaGreatDoor.DevRow.IsSt w x5 l5 ∧ l5.length * 32 ≤ 140737488351232 ∧ (∀ o ∈ l5, (Lit.int .i64 o.pl).wf = true ∧ o.tx.size ≤ maxLen) := by
  obtain ⟨cs, rfl, hsz0⟩ := okWide_struct Tryz.underlying24 hv
  have hc : Tryz.prog.cellsOf 24 = 6 := by kernel_rfl
  rw [hc] at hsz0
  obtain ⟨l⟩ := cs
  obtain ⟨c0, c1, c2, c3, c4, c5, rfl⟩ := list24 (l := l) (by simpa using hsz0)
  obtain ⟨fuel, hf⟩ := h
  have k0 : Tryz.prog.cellsOf 3 = 1 := by kernel_rfl
  obtain ⟨n0, y0, h0, L0, Z0⟩ := Go.Proofs.YtmlfkbkpkgaefaaGreatDoor.DevRow.field_of2 Tryz.underlying24 hf hlt hsz 0 _ rfl
  have g0 : DataW.trod enc Tryz.prog w base spare held n0 3 [c0] = some y0 := by simpa [Value.cells, k0] using h0
  obtain ⟨x0, e0, _, w0⟩ := DataW.trod_int Tryz.underlying3 g0
  obtain rfl := (List.cons.inj e0).1
  have k1 : Tryz.prog.cellsOf 3 = 1 := by kernel_rfl
  obtain ⟨n1, y1, h1, L1, Z1⟩ := Go.Proofs.YtmlfkbkpkgaefaaGreatDoor.DevRow.field_of2 Tryz.underlying24 hf hlt hsz 1 _ rfl
  have g1 : DataW.trod enc Tryz.prog w base spare held n1 3 [c1] = some y1 := by simpa [Value.cells, k1] using h1
  obtain ⟨x1, e1, _, w1⟩ := DataW.trod_int Tryz.underlying3 g1
  obtain rfl := (List.cons.inj e1).1
  have k2 : Tryz.prog.cellsOf 3 = 1 := by kernel_rfl
  obtain ⟨n2, y2, h2, L2, Z2⟩ := Go.Proofs.YtmlfkbkpkgaefaaGreatDoor.DevRow.field_of2 Tryz.underlying24 hf hlt hsz 2 _ rfl
  have g2 : DataW.trod enc Tryz.prog w base spare held n2 3 [c2] = some y2 := by simpa [Value.cells, k2] using h2
  obtain ⟨x2, e2, _, w2⟩ := DataW.trod_int Tryz.underlying3 g2
  obtain rfl := (List.cons.inj e2).1
  have k3 : Tryz.prog.cellsOf 3 = 1 := by kernel_rfl
  obtain ⟨n3, y3, h3, L3, Z3⟩ := Go.Proofs.YtmlfkbkpkgaefaaGreatDoor.DevRow.field_of2 Tryz.underlying24 hf hlt hsz 3 _ rfl
  have g3 : DataW.trod enc Tryz.prog w base spare held n3 3 [c3] = some y3 := by simpa [Value.cells, k3] using h3
  obtain ⟨x3, e3, _, w3⟩ := DataW.trod_int Tryz.underlying3 g3
  obtain rfl := (List.cons.inj e3).1
  have k4 : Tryz.prog.cellsOf 3 = 1 := by kernel_rfl
  obtain ⟨n4, y4, h4, L4, Z4⟩ := Go.Proofs.YtmlfkbkpkgaefaaGreatDoor.DevRow.field_of2 Tryz.underlying24 hf hlt hsz 4 _ rfl
  have g4 : DataW.trod enc Tryz.prog w base spare held n4 3 [c4] = some y4 := by simpa [Value.cells, k4] using h4
  obtain ⟨x4, e4, _, w4⟩ := DataW.trod_int Tryz.underlying3 g4
  obtain rfl := (List.cons.inj e4).1
  have k5 : Tryz.prog.cellsOf 22 = 1 := by kernel_rfl
  obtain ⟨n5, y5, h5, L5, Z5⟩ := Go.Proofs.YtmlfkbkpkgaefaaGreatDoor.DevRow.field_of2 Tryz.underlying24 hf hlt hsz 5 _ rfl
  have g5 : DataW.trod enc Tryz.prog w base spare held n5 22 [c5] = some y5 := by simpa [Value.cells, k5] using h5
  obtain ⟨x5, l5, e5, i5, z5, s5⟩ := Go.Proofs.YtmlfkbkpkgaefaaGreatDoor.DevRow.open_st Tryz.underlying22 Tryz.underlying86 rfl rfl rfl rfl rfl rfl Tryz.underlying4 Tryz.underlying3 Tryz.underlying9 (by kernel_rfl) (by kernel_rfl) (by kernel_rfl) (by kernel_rfl) (by kernel_rfl) g5 L5 Z5
  obtain rfl := (List.cons.inj e5).1.symm
  exact ⟨x0, x1, x2, x3, x4, x5, l5, rfl, w0, w1, w2, w3, w4, i5, z5, s5⟩
theorem door_met (os : Os) (args : Array Value) : laidMetH Tryz.prog Rows.controlAbortsRow.laid ((World.doorLaid Tryz.prog 22 os).forCall (fun _ _ => 0) ⟨#[], args, []⟩).memory :=
  laidMetH_of_parts3 (fuel := 8) (laidMet_of_run' 8 (by kernel_rfl) (by kernel_rfl)) (by kernel_rfl) (by kernel_rfl)

theorem tab5 {s : Int} (h0 : 0 ≤ s) (h1 : s ≤ 7) : tabB s 5 = true := by
  unfold tabB
  rw [tok_parts.2 (by omega)]
  rfl
theorem s60 : supB 6 0 0 = true := by decide
theorem s40 : supB 4 0 0 = true := by decide
/-- Asking its state. -/
theorem named {f : ByteArray} {d : FDev} (hb : bothB f d = true) (h0 : 0 ≤ d.sa) (h1 : d.sa ≤ 7) : handD f d (supS 5 0 1) ⟨#[]⟩ = d ∧ handB f d (supS 5 0 1) ⟨#[]⟩ = false ∧ handS f d (supS 5 0 1) ⟨#[]⟩ = byteS d.sa := by
  obtain ⟨e1, e2, e3⟩ := hand_is (d := d) (t := ⟨#[]⟩) hb s5 rfl (tab5 h0 h1)
  have hst : stallB d d = false := decide_eq_false (fun x => x.2 x.1)
  rw [e1, e2, e3, (done_5 f d 0 1 ⟨#[]⟩).1, (done_5 f d 0 1 ⟨#[]⟩).2, hst]
  exact ⟨rfl, rfl, rfl⟩
/-- Made new. -/
theorem anew {f : ByteArray} {d : FDev} {c : Int} (hb : bothB f d = true) (hc : c = 4 ∨ c = 6) (hs : supB c 0 0 = true) (ht : tabB d.sa c = true) : handD f d (supS c 0 0) ⟨#[]⟩ = newD ∧ handB f d (supS c 0 0) ⟨#[]⟩ = false ∧ handS f d (supS c 0 0) ⟨#[]⟩ = ⟨#[]⟩ := by
  obtain ⟨e1, e2, e3⟩ := hand_is (d := d) (t := ⟨#[]⟩) hb hs (by rcases hc with rfl | rfl <;> rfl) ht
  obtain ⟨e4, e5⟩ := done_new f d 0 0 ⟨#[]⟩ hc
  have hst : stallB d newD = false := decide_eq_false (fun x => absurd x.1 (by decide))
  rw [e1, e2, e3, e4, e5, hst]
  exact ⟨rfl, rfl, rfl⟩
set_option maxRecDepth 100000 in
set_option maxHeartbeats 8000000 in
theorem walk (a0_0 : Int) (a0_1 : Int) (a0_2 : Int) (a0_3 : Int) (a0_4 : Int) (a0_5 : Value) (l0_5 : List Go.Proofs.YtmlfkbkpkgaefaaGreatDoor.Ops.FOp) (a1 : Int) (w : World) (w0_0 : (Lit.int .i64 a0_0).wf = true) (w0_1 : (Lit.int .i64 a0_1).wf = true) (w0_2 : (Lit.int .i64 a0_2).wf = true) (w0_3 : (Lit.int .i64 a0_3).wf = true) (w0_4 : (Lit.int .i64 a0_4).wf = true) (i0_5 : Go.Proofs.YtmlfkbkpkgaefaaGreatDoor.DevRow.IsSt w a0_5 l0_5) (z0_5 : l0_5.length * 32 ≤ 140737488351232) (s0_5 : ∀ o ∈ l0_5, (Lit.int .i64 o.pl).wf = true ∧ o.tx.size ≤ maxLen) (w1 : (Lit.int .i64 a1).wf = true) (hL : laidMetH Tryz.prog Rows.controlAbortsRow.laid w) :
    Calls Tryz.prog 5 #[.agg #[.int .i64 a0_0, .int .i64 a0_1, .int .i64 a0_2, .int .i64 a0_3, .int .i64 a0_4, a0_5], .int .i64 a1] w fun e w' => e = .returned (.bool true) ∧ Below w.heap.size w w' := by
  have HT := hide (tab_of_laid hL (by kernel_rfl) (List.mem_singleton.2 rfl))
  clear hL
  obtain ⟨m, hm, mm⟩ : ∃ k : Nat, k ≤ 1 ∧ bits .and .i64 a1 1 = (k : Int) := mask_i64 a1 1 (by omega)
  have HBl := hide (fun w => NorRef.refBlank_any w)
  have hmay : Jou.mayF Nor.blankS = true := may_blank
  have P5 := hide (fun w => set_put s5 w)
  have C2 := hide fun v w' h g => CtlHand.hand_any Nor.blankS ⟨a0_0, a0_1, a0_2, a0_3, a0_4, l0_5⟩ v (supS 5 0 1) ⟨#[]⟩ w' h g
  have C5 := hide fun u v w' h g => sameDev_yes ⟨a0_0, a0_1, a0_2, a0_3, a0_4, l0_5⟩ u v w' h g
  have C6 := hide fun u v w' h g => sameDev_yes ⟨0, 0, 0, 0, 0, []⟩ u v w' h g
  have CM := hide fun v w' h => DevRef.refDev_any ⟨a0_0, a0_1, a0_2, a0_3, a0_4, l0_5⟩ v w' h
  have b0 := DevWalk.build_d0
  have b1 := CtlWalk.build_p0
  have b2 := CtlWalk.build_p2
  have b3 := SetWalk.build_c
  have b5 := build_cn
  unfold CtlHand.Handed at C2
  dsimp only at C5 C6
  have hB := hal w (.cells #[.int .i64 a0_0, .int .i64 a0_1, .int .i64 a0_2, .int .i64 a0_3, .int .i64 a0_4, a0_5] 24)
  have hX := resM w (.int .i64 a0_0) (.int .i64 a0_1) (.int .i64 a0_2) (.int .i64 a0_3) (.int .i64 a0_4) a0_5 24
  have hD := i0_5.below hB
  obtain ⟨a, ca, rfl, _, _⟩ := i0_5
  have hmm : m = 0 ∨ m = 1 := by omega
  clear hm
  rcases hmm with rfl | rfl
  · have P := hide (fun w => set_put s60 w)
    have C1 := hide fun v w' h g => CtlHand.hand_any Nor.blankS ⟨a0_0, a0_1, a0_2, a0_3, a0_4, l0_5⟩ v (supS 6 0 0) ⟨#[]⟩ w' h g
    unfold CtlHand.Handed at C1
    cases hd : devB ⟨a0_0, a0_1, a0_2, a0_3, a0_4, l0_5⟩ with
    | false =>
      have hb : bothB Nor.blankS ⟨a0_0, a0_1, a0_2, a0_3, a0_4, l0_5⟩ = false := by unfold bothB; rw [hd, Bool.and_false]
      obtain ⟨e1, e2, e3⟩ := hand_no (f := Nor.blankS) (d := ⟨a0_0, a0_1, a0_2, a0_3, a0_4, l0_5⟩) (supS 6 0 0) ⟨#[]⟩ hb
      obtain ⟨e4, e5, e6⟩ := hand_no (f := Nor.blankS) (d := ⟨a0_0, a0_1, a0_2, a0_3, a0_4, l0_5⟩) (supS 5 0 1) ⟨#[]⟩ hb
      rw [e1, e2, e3, errC_f hb] at C1
      rw [e4, e5, e6, errC_f hb] at C2
      unfold newD at C1 C2
      rw [hd] at CM
      clear e1 e2 e3 e4 e5 e6 hb C5 C6 hd hmay
      dsimp only at C1 C2
      generalize Nor.blankS = F at *
      generalize supS 6 0 0 = S at *
      generalize supS 5 0 1 = S5 at *
      go_enter Tryz.func5, Tryz.ntmps5
      go_upto_region 4 with (first | (go_at_call 13; refine (CtlAwake.awake_any _ (HT.out.below hB)).mono ?_; rintro e u1 ⟨rfl, hb⟩; replace hB := thenB hB hb; replace hX := resB hX hb; replace hD := hD.below hb; clear hb) | (go_at_call 16; refine (HBl.out _).mono ?_; rintro e u2 ⟨rfl, hb⟩; replace hB := thenB hB hb; replace hX := resB hX hb; replace hD := hD.below hb; clear hb))
      clear HBl
      have hn0 := hal u2 (.cells #[.int .i64 6, .int .i64 4] 3)
      replace hB := thenB hB hn0
      replace hX := resB hX hn0
      replace hD := hD.below hn0
      clear hn0
      go_upto_region 5 with fail
      generalize u2.alloc _ = W0 at *
      generalize u2.heap.size = G0 at *
      clear mm
      go_wp2_with fail
      refine (P.out _).mono ?_; rintro e u3 ⟨rfl, hb⟩; replace hB := thenB hB hb; replace hX := resB hX hb; replace hD := hD.below hb; clear hb P
      go_wp2_with fail
      refine (P5.out _).mono ?_; rintro e u4 ⟨rfl, hb⟩; replace hB := thenB hB hb; replace hX := resB hX hb; replace hD := hD.below hb; clear hb P5
      go_wp2_with fail
      refine (C1.out _ _ hD (HT.out.below hB)).mono ?_; rintro e u5 ⟨v1, rfl, ho1, hb⟩; replace hB := thenB hB hb; replace hX := resB hX hb; replace hD := hD.below hb; clear hb C1
      have hI := ho1.is
      obtain ⟨p1, q1, rfl⟩ := ho1.form
      clear ho1
      obtain ⟨hQ, hQr, hn1⟩ := dev_reply u5 (.int .i64 0) (.int .i64 0) (.int .i64 0) (.int .i64 0) (.int .i64 0) (.slice p1 0 q1) (.bool false) (.bool false) (.string ⟨#[]⟩)
      replace hB := thenB hB hn1
      replace hX := resB hX hn1
      replace hD := hD.below hn1
      replace hI := hI.below hn1
      clear hn1
      go_upto_region 8 with fail
      generalize (u5.alloc _).alloc _ = W1 at *
      generalize u5.heap.size = G1 at *
      go_wp2_with fail
      refine (C2.out _ _ hD (HT.out.below hB)).mono ?_; rintro e u6 ⟨v2, rfl, ho2, hb⟩; replace hB := thenB hB hb; replace hX := resB hX hb; replace hD := hD.below hb; replace hQ := resB hQ hb; replace hQr := SetWalk.resB hQr hb; replace hI := hI.below hb; clear hb C2 HT
      have hJ := ho2.is
      obtain ⟨p2, q2, rfl⟩ := ho2.form
      clear ho2
      obtain ⟨hR, hRr, hn2⟩ := dev_reply u6 (.int .i64 0) (.int .i64 0) (.int .i64 0) (.int .i64 0) (.int .i64 0) (.slice p2 0 q2) (.bool false) (.bool false) (.string ⟨#[]⟩)
      replace hB := thenB hB hn2
      replace hX := resB hX hn2
      replace hD := hD.below hn2
      replace hQ := resB hQ hn2
      replace hQr := SetWalk.resB hQr hn2
      replace hI := hI.below hn2
      replace hJ := hJ.below hn2
      clear hn2
      go_upto_region 9 with fail
      generalize (u6.alloc _).alloc _ = W2 at *
      generalize u6.heap.size = G2 at *
      go_upto_region 10 with (go_at_call 11; refine (num_any _ _).mono ?_; rintro e W2 ⟨rfl, rfl⟩)
      go_wp2_with fail
      refine (CM.out _ _ hD).mono ?_; rintro e u7 ⟨rfl, hb⟩; replace hB := thenB hB hb; clear hb
      go_wp2_with fail
      go_ret
      exact ⟨rfl, hB⟩
    | true =>
      have hb : bothB Nor.blankS ⟨a0_0, a0_1, a0_2, a0_3, a0_4, l0_5⟩ = true := both_parts.2 ⟨hmay, hd⟩
      have h07 : 0 ≤ a0_0 ∧ a0_0 ≤ 7 := by
        have h := hd
        unfold devB at h
        simp only [Bool.and_eq_true] at h
        exact Ans.saB_parts.1 h.1.1.1.1.1
      obtain ⟨h0, h7⟩ := h07
      cases ht : tabB a0_0 6 with
      | false =>
        obtain ⟨e1, e2, e3⟩ := hand_stall (f := Nor.blankS) (d := ⟨a0_0, a0_1, a0_2, a0_3, a0_4, l0_5⟩) (s := supS 6 0 0) (t := ⟨#[]⟩) hb (go_not s60 (.inr ht))
        rw [e1, e2, e3, errC_t hb] at C1
        unfold failedD at C1
        obtain ⟨e4, e5, e6⟩ := named hb h0 h7
        rw [e4, e5, e6, errC_t hb] at C2
        clear e1 e2 e3 e4 e5 e6 hb hd hmay CM
        have C3 := hide fun w' => TabRef.refAllowed_any a0_0 6 w'
        rw [ht] at C3
        generalize Tab.errT (tokB a0_0 6) = E3 at *
        have h2 : IntKind.u8.wrap a0_0 = a0_0 := by simp only [IntKind.wrap, IntKind.bits, IntKind.signed]; simp; omega
        dsimp only at C1 C2
        generalize Nor.blankS = F at *
        generalize supS 6 0 0 = S at *
        generalize supS 5 0 1 = S5 at *
        go_enter Tryz.func5, Tryz.ntmps5
        go_upto_region 4 with (first | (go_at_call 13; refine (CtlAwake.awake_any _ (HT.out.below hB)).mono ?_; rintro e u1 ⟨rfl, hb⟩; replace hB := thenB hB hb; replace hX := resB hX hb; replace hD := hD.below hb; clear hb) | (go_at_call 16; refine (HBl.out _).mono ?_; rintro e u2 ⟨rfl, hb⟩; replace hB := thenB hB hb; replace hX := resB hX hb; replace hD := hD.below hb; clear hb))
        clear HBl
        have hn0 := hal u2 (.cells #[.int .i64 6, .int .i64 4] 3)
        replace hB := thenB hB hn0
        replace hX := resB hX hn0
        replace hD := hD.below hn0
        clear hn0
        go_upto_region 5 with fail
        generalize u2.alloc _ = W0 at *
        generalize u2.heap.size = G0 at *
        clear mm
        go_wp2_with fail
        refine (P.out _).mono ?_; rintro e u3 ⟨rfl, hb⟩; replace hB := thenB hB hb; replace hX := resB hX hb; replace hD := hD.below hb; clear hb P
        go_wp2_with fail
        refine (P5.out _).mono ?_; rintro e u4 ⟨rfl, hb⟩; replace hB := thenB hB hb; replace hX := resB hX hb; replace hD := hD.below hb; clear hb P5
        go_wp2_with fail
        refine (C1.out _ _ hD (HT.out.below hB)).mono ?_; rintro e u5 ⟨v1, rfl, ho1, hb⟩; replace hB := thenB hB hb; replace hX := resB hX hb; replace hD := hD.below hb; clear hb C1
        have hI := ho1.is
        obtain ⟨p1, q1, rfl⟩ := ho1.form
        clear ho1
        obtain ⟨hQ, hQr, hn1⟩ := dev_reply u5 (.int .i64 7) (.int .i64 6) (.int .i64 0) (.int .i64 0) (.int .i64 0) (.slice p1 0 q1) (.bool false) (.bool true) (.string ⟨#[]⟩)
        replace hB := thenB hB hn1
        replace hX := resB hX hn1
        replace hD := hD.below hn1
        replace hI := hI.below hn1
        clear hn1
        go_upto_region 8 with fail
        generalize (u5.alloc _).alloc _ = W1 at *
        generalize u5.heap.size = G1 at *
        go_wp2_with fail
        refine (C2.out _ _ hD (HT.out.below hB)).mono ?_; rintro e u6 ⟨v2, rfl, ho2, hb⟩; replace hB := thenB hB hb; replace hX := resB hX hb; replace hD := hD.below hb; replace hQ := resB hQ hb; replace hQr := SetWalk.resB hQr hb; replace hI := hI.below hb; clear hb C2 HT
        have hJ := ho2.is
        obtain ⟨p2, q2, rfl⟩ := ho2.form
        clear ho2
        obtain ⟨hR, hRr, hn2⟩ := dev_reply u6 (.int .i64 a0_0) (.int .i64 a0_1) (.int .i64 a0_2) (.int .i64 a0_3) (.int .i64 a0_4) (.slice p2 l0_5.length q2) (.bool false) (.bool false) (.string (byteS a0_0))
        replace hB := thenB hB hn2
        replace hX := resB hX hn2
        replace hD := hD.below hn2
        replace hQ := resB hQ hn2
        replace hQr := SetWalk.resB hQr hn2
        replace hI := hI.below hn2
        replace hJ := hJ.below hn2
        clear hn2
        go_upto_region 9 with fail
        generalize (u6.alloc _).alloc _ = W2 at *
        generalize u6.heap.size = G2 at *
        go_upto_region 11 with (go_at_call 11; refine (num_any _ _).mono ?_; rintro e W2 ⟨rfl, rfl⟩)
        go_upto_region 12 with (go_at_call 15; refine (C3.out _).mono ?_; rintro e W2 ⟨rfl, rfl⟩)
        clear C3
        go_wp2_with fail
        refine (C5.out _ _ _ hJ hD).mono ?_; rintro e u8 ⟨rfl, hb⟩; replace hB := thenB hB hb; replace hX := resB hX hb; replace hQ := resB hQ hb; replace hQr := SetWalk.resB hQr hb; replace hRr := SetWalk.resB hRr hb; replace hI := hI.below hb; clear hb hJ hR hD C5
        have hcv := CtlAsk.one_text (CtlAsk.one_new u8 (.int .u8 a0_0) 5).2 h0 h7
        have hn8 := hal u8 (.cells #[.int .u8 a0_0] 5)
        have hRr8 := SetWalk.resB hRr hn8
        have hQ8 := resB hQ hn8
        have hQr8 := SetWalk.resB hQr hn8
        have hB8 := thenB hB hn8
        have hI8 := hI.below hn8
        generalize byteS a0_0 = Z at *
        have f2 : (Z.toList == Z.toList) = true := beq_self_eq_true _
        clear hI hI8 C6
        go_wp2_with fail
        go_ret
        exact ⟨rfl, hB8⟩
      | true =>
        obtain ⟨e1, e2, e3⟩ := anew (f := Nor.blankS) (d := ⟨a0_0, a0_1, a0_2, a0_3, a0_4, l0_5⟩) (c := 6) hb (by omega) s60 ht
        rw [e1, e2, e3, errC_t hb] at C1
        unfold newD at C1
        obtain ⟨e4, e5, e6⟩ := named hb h0 h7
        rw [e4, e5, e6, errC_t hb] at C2
        clear e1 e2 e3 e4 e5 e6 hb hd hmay CM
        have C3 := hide fun w' => TabRef.refAllowed_any a0_0 6 w'
        rw [ht] at C3
        generalize Tab.errT (tokB a0_0 6) = E3 at *
        have h2 : IntKind.u8.wrap a0_0 = a0_0 := by simp only [IntKind.wrap, IntKind.bits, IntKind.signed]; simp; omega
        dsimp only at C1 C2
        generalize Nor.blankS = F at *
        generalize supS 6 0 0 = S at *
        generalize supS 5 0 1 = S5 at *
        go_enter Tryz.func5, Tryz.ntmps5
        go_upto_region 4 with (first | (go_at_call 13; refine (CtlAwake.awake_any _ (HT.out.below hB)).mono ?_; rintro e u1 ⟨rfl, hb⟩; replace hB := thenB hB hb; replace hX := resB hX hb; replace hD := hD.below hb; clear hb) | (go_at_call 16; refine (HBl.out _).mono ?_; rintro e u2 ⟨rfl, hb⟩; replace hB := thenB hB hb; replace hX := resB hX hb; replace hD := hD.below hb; clear hb))
        clear HBl
        have hn0 := hal u2 (.cells #[.int .i64 6, .int .i64 4] 3)
        replace hB := thenB hB hn0
        replace hX := resB hX hn0
        replace hD := hD.below hn0
        clear hn0
        go_upto_region 5 with fail
        generalize u2.alloc _ = W0 at *
        generalize u2.heap.size = G0 at *
        clear mm
        go_wp2_with fail
        refine (P.out _).mono ?_; rintro e u3 ⟨rfl, hb⟩; replace hB := thenB hB hb; replace hX := resB hX hb; replace hD := hD.below hb; clear hb P
        go_wp2_with fail
        refine (P5.out _).mono ?_; rintro e u4 ⟨rfl, hb⟩; replace hB := thenB hB hb; replace hX := resB hX hb; replace hD := hD.below hb; clear hb P5
        go_wp2_with fail
        refine (C1.out _ _ hD (HT.out.below hB)).mono ?_; rintro e u5 ⟨v1, rfl, ho1, hb⟩; replace hB := thenB hB hb; replace hX := resB hX hb; replace hD := hD.below hb; clear hb C1
        have hI := ho1.is
        obtain ⟨p1, q1, rfl⟩ := ho1.form
        clear ho1
        obtain ⟨hQ, hQr, hn1⟩ := dev_reply u5 (.int .i64 0) (.int .i64 0) (.int .i64 0) (.int .i64 0) (.int .i64 0) (.slice p1 0 q1) (.bool false) (.bool false) (.string ⟨#[]⟩)
        replace hB := thenB hB hn1
        replace hX := resB hX hn1
        replace hD := hD.below hn1
        replace hI := hI.below hn1
        clear hn1
        go_upto_region 8 with fail
        generalize (u5.alloc _).alloc _ = W1 at *
        generalize u5.heap.size = G1 at *
        go_wp2_with fail
        refine (C2.out _ _ hD (HT.out.below hB)).mono ?_; rintro e u6 ⟨v2, rfl, ho2, hb⟩; replace hB := thenB hB hb; replace hX := resB hX hb; replace hD := hD.below hb; replace hQ := resB hQ hb; replace hQr := SetWalk.resB hQr hb; replace hI := hI.below hb; clear hb C2 HT
        have hJ := ho2.is
        obtain ⟨p2, q2, rfl⟩ := ho2.form
        clear ho2
        obtain ⟨hR, hRr, hn2⟩ := dev_reply u6 (.int .i64 a0_0) (.int .i64 a0_1) (.int .i64 a0_2) (.int .i64 a0_3) (.int .i64 a0_4) (.slice p2 l0_5.length q2) (.bool false) (.bool false) (.string (byteS a0_0))
        replace hB := thenB hB hn2
        replace hX := resB hX hn2
        replace hD := hD.below hn2
        replace hQ := resB hQ hn2
        replace hQr := SetWalk.resB hQr hn2
        replace hI := hI.below hn2
        replace hJ := hJ.below hn2
        clear hn2
        go_upto_region 9 with fail
        generalize (u6.alloc _).alloc _ = W2 at *
        generalize u6.heap.size = G2 at *
        go_upto_region 11 with (go_at_call 11; refine (num_any _ _).mono ?_; rintro e W2 ⟨rfl, rfl⟩)
        go_upto_region 12 with (go_at_call 15; refine (C3.out _).mono ?_; rintro e W2 ⟨rfl, rfl⟩)
        clear C3
        go_wp2_with fail
        refine (C5.out _ _ _ hJ hD).mono ?_; rintro e u8 ⟨rfl, hb⟩; replace hB := thenB hB hb; replace hX := resB hX hb; replace hQ := resB hQ hb; replace hQr := SetWalk.resB hQr hb; replace hRr := SetWalk.resB hRr hb; replace hI := hI.below hb; clear hb hJ hR hD C5
        have hcv := CtlAsk.one_text (CtlAsk.one_new u8 (.int .u8 a0_0) 5).2 h0 h7
        have hn8 := hal u8 (.cells #[.int .u8 a0_0] 5)
        have hRr8 := SetWalk.resB hRr hn8
        have hQ8 := resB hQ hn8
        have hQr8 := SetWalk.resB hQr hn8
        have hB8 := thenB hB hn8
        have hI8 := hI.below hn8
        generalize byteS a0_0 = Z at *
        have f2 : (Z.toList == Z.toList) = true := beq_self_eq_true _
        go_wp2_with fail
        refine (C6.out _ _ _ hI8 (isSt_nil _)).mono ?_; rintro e u9 ⟨rfl, hb⟩
        replace hB8 := thenB hB8 hb
        replace hQr8 := SetWalk.resB hQr8 hb
        go_wp2_with fail
        go_ret
        exact ⟨rfl, hB8⟩
  · have P := hide (fun w => set_put s40 w)
    have C1 := hide fun v w' h g => CtlHand.hand_any Nor.blankS ⟨a0_0, a0_1, a0_2, a0_3, a0_4, l0_5⟩ v (supS 4 0 0) ⟨#[]⟩ w' h g
    unfold CtlHand.Handed at C1
    cases hd : devB ⟨a0_0, a0_1, a0_2, a0_3, a0_4, l0_5⟩ with
    | false =>
      have hb : bothB Nor.blankS ⟨a0_0, a0_1, a0_2, a0_3, a0_4, l0_5⟩ = false := by unfold bothB; rw [hd, Bool.and_false]
      obtain ⟨e1, e2, e3⟩ := hand_no (f := Nor.blankS) (d := ⟨a0_0, a0_1, a0_2, a0_3, a0_4, l0_5⟩) (supS 4 0 0) ⟨#[]⟩ hb
      obtain ⟨e4, e5, e6⟩ := hand_no (f := Nor.blankS) (d := ⟨a0_0, a0_1, a0_2, a0_3, a0_4, l0_5⟩) (supS 5 0 1) ⟨#[]⟩ hb
      rw [e1, e2, e3, errC_f hb] at C1
      rw [e4, e5, e6, errC_f hb] at C2
      unfold newD at C1 C2
      rw [hd] at CM
      clear e1 e2 e3 e4 e5 e6 hb C5 C6 hd hmay
      dsimp only at C1 C2
      generalize Nor.blankS = F at *
      generalize supS 4 0 0 = S at *
      generalize supS 5 0 1 = S5 at *
      go_enter Tryz.func5, Tryz.ntmps5
      go_upto_region 4 with (first | (go_at_call 13; refine (CtlAwake.awake_any _ (HT.out.below hB)).mono ?_; rintro e u1 ⟨rfl, hb⟩; replace hB := thenB hB hb; replace hX := resB hX hb; replace hD := hD.below hb; clear hb) | (go_at_call 16; refine (HBl.out _).mono ?_; rintro e u2 ⟨rfl, hb⟩; replace hB := thenB hB hb; replace hX := resB hX hb; replace hD := hD.below hb; clear hb))
      clear HBl
      have hn0 := hal u2 (.cells #[.int .i64 6, .int .i64 4] 3)
      replace hB := thenB hB hn0
      replace hX := resB hX hn0
      replace hD := hD.below hn0
      clear hn0
      go_upto_region 5 with fail
      generalize u2.alloc _ = W0 at *
      generalize u2.heap.size = G0 at *
      clear mm
      go_wp2_with fail
      refine (P.out _).mono ?_; rintro e u3 ⟨rfl, hb⟩; replace hB := thenB hB hb; replace hX := resB hX hb; replace hD := hD.below hb; clear hb P
      go_wp2_with fail
      refine (P5.out _).mono ?_; rintro e u4 ⟨rfl, hb⟩; replace hB := thenB hB hb; replace hX := resB hX hb; replace hD := hD.below hb; clear hb P5
      go_wp2_with fail
      refine (C1.out _ _ hD (HT.out.below hB)).mono ?_; rintro e u5 ⟨v1, rfl, ho1, hb⟩; replace hB := thenB hB hb; replace hX := resB hX hb; replace hD := hD.below hb; clear hb C1
      have hI := ho1.is
      obtain ⟨p1, q1, rfl⟩ := ho1.form
      clear ho1
      obtain ⟨hQ, hQr, hn1⟩ := dev_reply u5 (.int .i64 0) (.int .i64 0) (.int .i64 0) (.int .i64 0) (.int .i64 0) (.slice p1 0 q1) (.bool false) (.bool false) (.string ⟨#[]⟩)
      replace hB := thenB hB hn1
      replace hX := resB hX hn1
      replace hD := hD.below hn1
      replace hI := hI.below hn1
      clear hn1
      go_upto_region 8 with fail
      generalize (u5.alloc _).alloc _ = W1 at *
      generalize u5.heap.size = G1 at *
      go_wp2_with fail
      refine (C2.out _ _ hD (HT.out.below hB)).mono ?_; rintro e u6 ⟨v2, rfl, ho2, hb⟩; replace hB := thenB hB hb; replace hX := resB hX hb; replace hD := hD.below hb; replace hQ := resB hQ hb; replace hQr := SetWalk.resB hQr hb; replace hI := hI.below hb; clear hb C2 HT
      have hJ := ho2.is
      obtain ⟨p2, q2, rfl⟩ := ho2.form
      clear ho2
      obtain ⟨hR, hRr, hn2⟩ := dev_reply u6 (.int .i64 0) (.int .i64 0) (.int .i64 0) (.int .i64 0) (.int .i64 0) (.slice p2 0 q2) (.bool false) (.bool false) (.string ⟨#[]⟩)
      replace hB := thenB hB hn2
      replace hX := resB hX hn2
      replace hD := hD.below hn2
      replace hQ := resB hQ hn2
      replace hQr := SetWalk.resB hQr hn2
      replace hI := hI.below hn2
      replace hJ := hJ.below hn2
      clear hn2
      go_upto_region 9 with fail
      generalize (u6.alloc _).alloc _ = W2 at *
      generalize u6.heap.size = G2 at *
      go_upto_region 10 with (go_at_call 11; refine (num_any _ _).mono ?_; rintro e W2 ⟨rfl, rfl⟩)
      go_wp2_with fail
      refine (CM.out _ _ hD).mono ?_; rintro e u7 ⟨rfl, hb⟩; replace hB := thenB hB hb; clear hb
      go_wp2_with fail
      go_ret
      exact ⟨rfl, hB⟩
    | true =>
      have hb : bothB Nor.blankS ⟨a0_0, a0_1, a0_2, a0_3, a0_4, l0_5⟩ = true := both_parts.2 ⟨hmay, hd⟩
      have h07 : 0 ≤ a0_0 ∧ a0_0 ≤ 7 := by
        have h := hd
        unfold devB at h
        simp only [Bool.and_eq_true] at h
        exact Ans.saB_parts.1 h.1.1.1.1.1
      obtain ⟨h0, h7⟩ := h07
      cases ht : tabB a0_0 4 with
      | false =>
        obtain ⟨e1, e2, e3⟩ := hand_stall (f := Nor.blankS) (d := ⟨a0_0, a0_1, a0_2, a0_3, a0_4, l0_5⟩) (s := supS 4 0 0) (t := ⟨#[]⟩) hb (go_not s40 (.inr ht))
        rw [e1, e2, e3, errC_t hb] at C1
        unfold failedD at C1
        obtain ⟨e4, e5, e6⟩ := named hb h0 h7
        rw [e4, e5, e6, errC_t hb] at C2
        clear e1 e2 e3 e4 e5 e6 hb hd hmay CM
        have C3 := hide fun w' => TabRef.refAllowed_any a0_0 4 w'
        rw [ht] at C3
        generalize Tab.errT (tokB a0_0 4) = E3 at *
        have h2 : IntKind.u8.wrap a0_0 = a0_0 := by simp only [IntKind.wrap, IntKind.bits, IntKind.signed]; simp; omega
        dsimp only at C1 C2
        generalize Nor.blankS = F at *
        generalize supS 4 0 0 = S at *
        generalize supS 5 0 1 = S5 at *
        go_enter Tryz.func5, Tryz.ntmps5
        go_upto_region 4 with (first | (go_at_call 13; refine (CtlAwake.awake_any _ (HT.out.below hB)).mono ?_; rintro e u1 ⟨rfl, hb⟩; replace hB := thenB hB hb; replace hX := resB hX hb; replace hD := hD.below hb; clear hb) | (go_at_call 16; refine (HBl.out _).mono ?_; rintro e u2 ⟨rfl, hb⟩; replace hB := thenB hB hb; replace hX := resB hX hb; replace hD := hD.below hb; clear hb))
        clear HBl
        have hn0 := hal u2 (.cells #[.int .i64 6, .int .i64 4] 3)
        replace hB := thenB hB hn0
        replace hX := resB hX hn0
        replace hD := hD.below hn0
        clear hn0
        go_upto_region 5 with fail
        generalize u2.alloc _ = W0 at *
        generalize u2.heap.size = G0 at *
        clear mm
        go_wp2_with fail
        refine (P.out _).mono ?_; rintro e u3 ⟨rfl, hb⟩; replace hB := thenB hB hb; replace hX := resB hX hb; replace hD := hD.below hb; clear hb P
        go_wp2_with fail
        refine (P5.out _).mono ?_; rintro e u4 ⟨rfl, hb⟩; replace hB := thenB hB hb; replace hX := resB hX hb; replace hD := hD.below hb; clear hb P5
        go_wp2_with fail
        refine (C1.out _ _ hD (HT.out.below hB)).mono ?_; rintro e u5 ⟨v1, rfl, ho1, hb⟩; replace hB := thenB hB hb; replace hX := resB hX hb; replace hD := hD.below hb; clear hb C1
        have hI := ho1.is
        obtain ⟨p1, q1, rfl⟩ := ho1.form
        clear ho1
        obtain ⟨hQ, hQr, hn1⟩ := dev_reply u5 (.int .i64 7) (.int .i64 6) (.int .i64 0) (.int .i64 0) (.int .i64 0) (.slice p1 0 q1) (.bool false) (.bool true) (.string ⟨#[]⟩)
        replace hB := thenB hB hn1
        replace hX := resB hX hn1
        replace hD := hD.below hn1
        replace hI := hI.below hn1
        clear hn1
        go_upto_region 8 with fail
        generalize (u5.alloc _).alloc _ = W1 at *
        generalize u5.heap.size = G1 at *
        go_wp2_with fail
        refine (C2.out _ _ hD (HT.out.below hB)).mono ?_; rintro e u6 ⟨v2, rfl, ho2, hb⟩; replace hB := thenB hB hb; replace hX := resB hX hb; replace hD := hD.below hb; replace hQ := resB hQ hb; replace hQr := SetWalk.resB hQr hb; replace hI := hI.below hb; clear hb C2 HT
        have hJ := ho2.is
        obtain ⟨p2, q2, rfl⟩ := ho2.form
        clear ho2
        obtain ⟨hR, hRr, hn2⟩ := dev_reply u6 (.int .i64 a0_0) (.int .i64 a0_1) (.int .i64 a0_2) (.int .i64 a0_3) (.int .i64 a0_4) (.slice p2 l0_5.length q2) (.bool false) (.bool false) (.string (byteS a0_0))
        replace hB := thenB hB hn2
        replace hX := resB hX hn2
        replace hD := hD.below hn2
        replace hQ := resB hQ hn2
        replace hQr := SetWalk.resB hQr hn2
        replace hI := hI.below hn2
        replace hJ := hJ.below hn2
        clear hn2
        go_upto_region 9 with fail
        generalize (u6.alloc _).alloc _ = W2 at *
        generalize u6.heap.size = G2 at *
        go_upto_region 11 with (go_at_call 11; refine (num_any _ _).mono ?_; rintro e W2 ⟨rfl, rfl⟩)
        go_upto_region 12 with (go_at_call 15; refine (C3.out _).mono ?_; rintro e W2 ⟨rfl, rfl⟩)
        clear C3
        go_wp2_with fail
        refine (C5.out _ _ _ hJ hD).mono ?_; rintro e u8 ⟨rfl, hb⟩; replace hB := thenB hB hb; replace hX := resB hX hb; replace hQ := resB hQ hb; replace hQr := SetWalk.resB hQr hb; replace hRr := SetWalk.resB hRr hb; replace hI := hI.below hb; clear hb hJ hR hD C5
        have hcv := CtlAsk.one_text (CtlAsk.one_new u8 (.int .u8 a0_0) 5).2 h0 h7
        have hn8 := hal u8 (.cells #[.int .u8 a0_0] 5)
        have hRr8 := SetWalk.resB hRr hn8
        have hQ8 := resB hQ hn8
        have hQr8 := SetWalk.resB hQr hn8
        have hB8 := thenB hB hn8
        have hI8 := hI.below hn8
        generalize byteS a0_0 = Z at *
        have f2 : (Z.toList == Z.toList) = true := beq_self_eq_true _
        clear hI hI8 C6
        go_wp2_with fail
        go_ret
        exact ⟨rfl, hB8⟩
      | true =>
        obtain ⟨e1, e2, e3⟩ := anew (f := Nor.blankS) (d := ⟨a0_0, a0_1, a0_2, a0_3, a0_4, l0_5⟩) (c := 4) hb (by omega) s40 ht
        rw [e1, e2, e3, errC_t hb] at C1
        unfold newD at C1
        obtain ⟨e4, e5, e6⟩ := named hb h0 h7
        rw [e4, e5, e6, errC_t hb] at C2
        clear e1 e2 e3 e4 e5 e6 hb hd hmay CM
        have C3 := hide fun w' => TabRef.refAllowed_any a0_0 4 w'
        rw [ht] at C3
        generalize Tab.errT (tokB a0_0 4) = E3 at *
        have h2 : IntKind.u8.wrap a0_0 = a0_0 := by simp only [IntKind.wrap, IntKind.bits, IntKind.signed]; simp; omega
        dsimp only at C1 C2
        generalize Nor.blankS = F at *
        generalize supS 4 0 0 = S at *
        generalize supS 5 0 1 = S5 at *
        go_enter Tryz.func5, Tryz.ntmps5
        go_upto_region 4 with (first | (go_at_call 13; refine (CtlAwake.awake_any _ (HT.out.below hB)).mono ?_; rintro e u1 ⟨rfl, hb⟩; replace hB := thenB hB hb; replace hX := resB hX hb; replace hD := hD.below hb; clear hb) | (go_at_call 16; refine (HBl.out _).mono ?_; rintro e u2 ⟨rfl, hb⟩; replace hB := thenB hB hb; replace hX := resB hX hb; replace hD := hD.below hb; clear hb))
        clear HBl
        have hn0 := hal u2 (.cells #[.int .i64 6, .int .i64 4] 3)
        replace hB := thenB hB hn0
        replace hX := resB hX hn0
        replace hD := hD.below hn0
        clear hn0
        go_upto_region 5 with fail
        generalize u2.alloc _ = W0 at *
        generalize u2.heap.size = G0 at *
        clear mm
        go_wp2_with fail
        refine (P.out _).mono ?_; rintro e u3 ⟨rfl, hb⟩; replace hB := thenB hB hb; replace hX := resB hX hb; replace hD := hD.below hb; clear hb P
        go_wp2_with fail
        refine (P5.out _).mono ?_; rintro e u4 ⟨rfl, hb⟩; replace hB := thenB hB hb; replace hX := resB hX hb; replace hD := hD.below hb; clear hb P5
        go_wp2_with fail
        refine (C1.out _ _ hD (HT.out.below hB)).mono ?_; rintro e u5 ⟨v1, rfl, ho1, hb⟩; replace hB := thenB hB hb; replace hX := resB hX hb; replace hD := hD.below hb; clear hb C1
        have hI := ho1.is
        obtain ⟨p1, q1, rfl⟩ := ho1.form
        clear ho1
        obtain ⟨hQ, hQr, hn1⟩ := dev_reply u5 (.int .i64 0) (.int .i64 0) (.int .i64 0) (.int .i64 0) (.int .i64 0) (.slice p1 0 q1) (.bool false) (.bool false) (.string ⟨#[]⟩)
        replace hB := thenB hB hn1
        replace hX := resB hX hn1
        replace hD := hD.below hn1
        replace hI := hI.below hn1
        clear hn1
        go_upto_region 8 with fail
        generalize (u5.alloc _).alloc _ = W1 at *
        generalize u5.heap.size = G1 at *
        go_wp2_with fail
        refine (C2.out _ _ hD (HT.out.below hB)).mono ?_; rintro e u6 ⟨v2, rfl, ho2, hb⟩; replace hB := thenB hB hb; replace hX := resB hX hb; replace hD := hD.below hb; replace hQ := resB hQ hb; replace hQr := SetWalk.resB hQr hb; replace hI := hI.below hb; clear hb C2 HT
        have hJ := ho2.is
        obtain ⟨p2, q2, rfl⟩ := ho2.form
        clear ho2
        obtain ⟨hR, hRr, hn2⟩ := dev_reply u6 (.int .i64 a0_0) (.int .i64 a0_1) (.int .i64 a0_2) (.int .i64 a0_3) (.int .i64 a0_4) (.slice p2 l0_5.length q2) (.bool false) (.bool false) (.string (byteS a0_0))
        replace hB := thenB hB hn2
        replace hX := resB hX hn2
        replace hD := hD.below hn2
        replace hQ := resB hQ hn2
        replace hQr := SetWalk.resB hQr hn2
        replace hI := hI.below hn2
        replace hJ := hJ.below hn2
        clear hn2
        go_upto_region 9 with fail
        generalize (u6.alloc _).alloc _ = W2 at *
        generalize u6.heap.size = G2 at *
        go_upto_region 11 with (go_at_call 11; refine (num_any _ _).mono ?_; rintro e W2 ⟨rfl, rfl⟩)
        go_upto_region 12 with (go_at_call 15; refine (C3.out _).mono ?_; rintro e W2 ⟨rfl, rfl⟩)
        clear C3
        go_wp2_with fail
        refine (C5.out _ _ _ hJ hD).mono ?_; rintro e u8 ⟨rfl, hb⟩; replace hB := thenB hB hb; replace hX := resB hX hb; replace hQ := resB hQ hb; replace hQr := SetWalk.resB hQr hb; replace hRr := SetWalk.resB hRr hb; replace hI := hI.below hb; clear hb hJ hR hD C5
        have hcv := CtlAsk.one_text (CtlAsk.one_new u8 (.int .u8 a0_0) 5).2 h0 h7
        have hn8 := hal u8 (.cells #[.int .u8 a0_0] 5)
        have hRr8 := SetWalk.resB hRr hn8
        have hQ8 := resB hQ hn8
        have hQr8 := SetWalk.resB hQr hn8
        have hB8 := thenB hB hn8
        have hI8 := hI.below hn8
        generalize byteS a0_0 = Z at *
        have f2 : (Z.toList == Z.toList) = true := beq_self_eq_true _
        go_wp2_with fail
        refine (C6.out _ _ _ hI8 (isSt_nil _)).mono ?_; rintro e u9 ⟨rfl, hb⟩
        replace hB8 := thenB hB8 hb
        replace hQr8 := SetWalk.resB hQr8 hb
        go_wp2_with fail
        go_ret
        exact ⟨rfl, hB8⟩

set_option maxRecDepth 100000 in
theorem lifted (os : Os) (started : os.Started) (H : Type) (enc : TypeId × Value → H) :
    ReturnsInHanded {} Tryz.checked os 5 .any (fun w args => (Rows.controlAbortsSpec.pre enc Tryz.prog Tryz.f5 Rows.controlAbortsRow.domain false w args ∧ laidMetH Tryz.prog Rows.controlAbortsRow.laid w) ∧ sizedMet enc Tryz.prog Tryz.f5 (OpenSpec.ofChange Rows.controlAbortsSpec) false w args) (Rows.controlAbortsSpec.post enc Tryz.prog Tryz.f5 false true false false) := by
  refine returnsInHanded_of_change_and (C := Tryz.checked) (X := fun w _ => laidMetH Tryz.prog Rows.controlAbortsRow.laid w) (fun _ _ _ hh h => h.of_heap hh) own started (by kernel_rfl) Tryz.func5
    (ChangeSpec.witness_shaped (enc := enc) (C := Tryz.checked) (os := os) (X := fun w _ => laidMetH Tryz.prog Rows.controlAbortsRow.laid w) false (World.doorLaid Tryz.prog 22 os) #[.agg #[.int .i64 0, .int .i64 0, .int .i64 0, .int .i64 0, .int .i64 0, .slice none 0 0], .int .i64 0] 8 rfl (World.shaped_of_RefB (by kernel_rfl) (by kernel_rfl)) (by kernel_rfl) (by kernel_rfl) (by kernel_rfl) (door_met os _)) ?_
  intro W base args ds gs before hval0 hW hcnd hsz0 hL _
  have hval : ∀ (j : Nat) t v, Tryz.f5.params[j]? = some t → args[j]? = some v → Value.okWide Tryz.prog W .any base t v := hval0
  have hW' := hW
  obtain ⟨p, q, hA0, hV, rfl, hfz, hnd⟩ := hW
  have hA : DataW.TrodAll enc Tryz.prog W 0 (fun _ => true) true Tryz.f5.params.toList args.toList ds p := hA0
  have hsz : (DataW.weightsEach Tryz.prog (Tryz.f5.params.toList ++ Rows.controlAbortsSpec.plain.varTypes Tryz.prog) (ds ++ gs)).all (· ≤ reachBytes) = true := hsz0
  clear hsz0
  rw [Tryz.params5] at hA hval hsz
  obtain ⟨v0, vs0, d0, ds0, p0, q0, hargs, rfl, rfl, h0, r0⟩ := trodAll_cons hA
  obtain ⟨v1, vs1, d1, ds1, p1, q1, rfl, rfl, rfl, h1, r1⟩ := trodAll_cons r0
  obtain ⟨rfl, rfl, rfl⟩ := trodAll_nil r1
  obtain rfl : args = #[v0, v1] := by cases args; simp_all
  obtain ⟨rfl, rfl⟩ := trodVars_none hV
  have k0 := h0
  have lt0 : ∀ x ∈ p0, x.block < W.heap.size := by obtain ⟨m, hm⟩ := k0; exact DataW.trod_lt m _ _ _ hm
  obtain ⟨a0_0, a0_1, a0_2, a0_3, a0_4, a0_5, l0_5, rfl, w0_0, w0_1, w0_2, w0_3, w0_4, i0_5, z0_5, s0_5⟩ := open24 (hval 0 24 v0 rfl rfl) h0 lt0 (Go.Proofs.YtmlfkbkpkgaefaaGreatDoor.DevRow.sized_arg hsz (j := 0) rfl rfl)
  obtain ⟨a1, rfl, rfl, rfl, w1⟩ := open_int Tryz.underlying3 (hval 1 3 v1 rfl rfl) h1
  clear hA0 hval0
  refine (walk a0_0 a0_1 a0_2 a0_3 a0_4 a0_5 l0_5 a1 W w0_0 w0_1 w0_2 w0_3 w0_4 i0_5 z0_5 s0_5 w1 hL).mono fun e W' ⟨he, bel⟩ => ?_
  subst he
  exact ⟨_, rfl, _, _, _, [], _, [], hW', (trodAll_cons_mk (shut_bool Tryz.underlying4 _) trodAll_mk0), (trodAll_cons_mk (Below.trod laidOut (by kernel_rfl) (of_decide_eq_true (by kernel_rfl)) k0 bel lt0) (trodAll_cons_mk (shut_int Tryz.underlying3 w1) trodAll_mk0)), rfl, bel.frame _, fun h => by cases h⟩

theorem over : Rows.controlAbortsRow.holds Tryz.pinned (OpenSpec.ofChange Rows.controlAbortsSpec) :=
  OpenClaim.holds_of_wide 5 Tryz.f5 rfl rfl rfl rfl rfl rfl rfl ⟨rfl, rfl, rfl, rfl, rfl⟩ rfl rfl rfl rfl rfl (by kernel_rfl) Tryz.func5 (by kernel_rfl)
    (of_decide_eq_true (by kernel_rfl)) (by unfold Func.isWrapper; first | (rw [if_pos (by decide +kernel)]; kernel_rfl) | (rw [if_neg (by decide +kernel)]; exact ⟨rfl, rfl⟩))
    (fun os started H enc _ => lifted os started H enc)

theorem plain (f : FuncId) (fn : Func) (hf : Tryz.pinned.checked.prog.funcNamed "skiff/skifflaw21.ControlAborts" = some f) (hfn : Tryz.pinned.checked.prog.funcs[f]? = some fn) :
    false = Tryz.pinned.checked.prog.looks [] ∧ ∀ (j : Nat) t, fn.params[j]? = some t → Tryz.pinned.checked.prog.wantsStandIn t = false := by
  obtain rfl : f = 5 := Option.some.inj ((show Tryz.prog.funcNamed "skiff/skifflaw21.ControlAborts" = some 5 by kernel_rfl).symm.trans hf) |>.symm
  obtain rfl : fn = Tryz.f5 := (Option.some.inj (Tryz.func5.symm.trans hfn)).symm
  refine ⟨by kernel_rfl, fun j t ht => ?_⟩
  rw [Tryz.params5] at ht
  rcases j with _ | _ | j
  · obtain rfl : 24 = t := by simpa using ht
    exact (show Tryz.prog.wantsStandIn 24 = false by kernel_rfl)
  · obtain rfl : 3 = t := by simpa using ht
    exact (show Tryz.prog.wantsStandIn 3 = false by kernel_rfl)
  · simp at ht
theorem proved : Rows.ControlAbortsCardSaid :=
  Claim7.holds_tied_plain_at .later [] _ _ _ _ over (fun _ h => by cases h) (by kernel_rfl) (fun _ h => by cases h) controlAborts_row_tie rfl ⟨rfl, rfl⟩ (by kernel_rfl) rfl plain (by kernel_rfl)
#print axioms proved
end Go.Proofs.YtmlfkbkpkgaefaaGreatDoor.controlAborts
