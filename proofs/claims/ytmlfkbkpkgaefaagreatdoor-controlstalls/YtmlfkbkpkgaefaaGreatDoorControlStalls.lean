/- Whatever the flash, the device, the two numbers and the text: the law ControlStalls returns true (what is no setup, or is not allowed, or has other data than it says, stalls, and the device fails), and the arguments read as they did; the variable 'skiff/table.allowed' reads as the program's text lays it (a tied card). -/
import Derived.Test.YtmlfkbkpkgaefaaGreatDoorRows
import Derived.Test.YtmlfkbkpkgaefaaGreatDoorBagNor
import Derived.Test.YtmlfkbkpkgaefaaGreatDoorBagDev
import Derived.Test.YtmlfkbkpkgaefaaGreatDoorBagTim
import Derived.Test.YtmlfkbkpkgaefaaGreatDoorBagTab
import Derived.Test.YtmlfkbkpkgaefaaGreatDoorTabRef
import Derived.Test.YtmlfkbkpkgaefaaGreatDoorBagCtl
import Derived.Test.YtmlfkbkpkgaefaaGreatDoorCtlAwake
import Derived.Deep.Cut
import Derived.WalkKit
import Derived.ProofKit
import Derived.OpenShut
import Derived.ShutString
import Derived.ChangeOld
import Derived.Below
import Derived.SizedLaws
import Derived.Test.YtmlfkbkpkgaefaaGreatDoorCards
import Derived.Test.YtmlfkbkpkgaefaaGreatDoorTie
import Derived.LaidMore
import Derived.Handed
import Derived.LaidLaws
namespace Go.Proofs.YtmlfkbkpkgaefaaGreatDoor.controlStalls
open Go.ChangeShapes Go.WideShapes Go.ChangeAt Go.RowKit
open Go.ChangeMaps (open_string shut_string)
set_option linter.unusedVariables false

open Go.Proofs.YtmlfkbkpkgaefaaGreatDoor.Bytes
open Go.Proofs.YtmlfkbkpkgaefaaGreatDoor.Dev
open Go.Proofs.YtmlfkbkpkgaefaaGreatDoor.DevRow
open Go.Proofs.YtmlfkbkpkgaefaaGreatDoor.DevHelp
open Go.Proofs.YtmlfkbkpkgaefaaGreatDoor.DevAwake
open Go.Proofs.YtmlfkbkpkgaefaaGreatDoor.Dnl
open Go.Proofs.YtmlfkbkpkgaefaaGreatDoor.Tic
open Go.Proofs.YtmlfkbkpkgaefaaGreatDoor.TicRow
open Go.Proofs.YtmlfkbkpkgaefaaGreatDoor.Sup
open Go.Proofs.YtmlfkbkpkgaefaaGreatDoor.Tab
open Go.Proofs.YtmlfkbkpkgaefaaGreatDoor.TabLaid
open Go.Proofs.YtmlfkbkpkgaefaaGreatDoor.Ctl
open Go.Proofs.YtmlfkbkpkgaefaaGreatDoor.CtlAwake
theorem own : ownKnob Tryz.prog.godebug = none := by kernel_rfl
theorem laidOut : laidOutB Tryz.prog = true := by kernel_rfl
theorem field_of {H : Type} {enc : TypeId × Value → H} {P : Program} {w : World} {base : Nat} {spare : Nat → Bool} {held : Bool} {t : TypeId} {fs : Array Field} {fuel : Nat} {cs : List Value} {x : DataW H × List MemPlace} (ht : P.underlying t = some (.struct fs)) (h : DataW.trod enc P w base spare held fuel t cs = some x) (i : Nat) (f : Field) (hf : fs[i]? = some f) :
    ∃ n y, DataW.trod enc P w base spare held n f.type ((cs.drop f.offset).take (P.cellsOf f.type)) = some y := by
  obtain ⟨xs, n, _, _, _, hlen, hq⟩ := DataW.trod_struct ht h
  have hi : i < xs.length := by
    rw [hlen]
    rcases Nat.lt_or_ge i fs.size with h1 | h1
    · exact h1
    · rw [Array.getElem?_eq_none h1] at hf; cases hf
  exact ⟨n, xs[i], by rw [hq i f hf, List.getElem?_eq_getElem hi]⟩
theorem list24 {l : List Value} (h : l.length = 6) : ∃ c0 c1 c2 c3 c4 c5, l = [c0, c1, c2, c3, c4, c5] := by
  match l, h with
  | [c0, c1, c2, c3, c4, c5], _ => exact ⟨c0, c1, c2, c3, c4, c5, rfl⟩
set_option maxRecDepth 100000 in
theorem open24 {H : Type} {enc : TypeId × Value → H} {w : World} {base : Nat} {spare : Nat → Bool} {held : Bool} {r : Reach} {b0 : Nat} {v : Value} {d : DataW H} {p : List MemPlace} (hv : Value.okWide Tryz.prog w r b0 24 v) (h : DataW.Trod enc Tryz.prog w base spare held 24 v d p) (hlt : ∀ x ∈ p, x.block < w.heap.size) (hsz : (d.weights Tryz.prog 24).all (· ≤ reachBytes) = true) :
    ∃ (x0 : Int) (x1 : Int) (x2 : Int) (x3 : Int) (x4 : Int) (x5 : Value) (l5 : List Go.Proofs.YtmlfkbkpkgaefaaGreatDoor.Ops.FOp), v = .agg #[.int .i64 x0, .int .i64 x1, .int .i64 x2, .int .i64 x3, .int .i64 x4, x5] ∧ (Lit.int .i64 x0).wf = true ∧ (Lit.int .i64 x1).wf = true ∧ (Lit.int .i64 x2).wf = true ∧ (Lit.int .i64 x3).wf = true ∧ (Lit.int .i64 x4).wf = true ∧ Go.Proofs.YtmlfkbkpkgaefaaGreatDoor.DevRow.IsSt w x5 l5 ∧ l5.length * 32 ≤ 140737488351232 ∧ (∀ o ∈ l5, (Lit.int .i64 o.pl).wf = true ∧ o.tx.size ≤ maxLen) := by
  obtain ⟨cs, rfl, hsz0⟩ := okWide_struct Tryz.underlying24 hv
  have hc : Tryz.prog.cellsOf 24 = 6 := by kernel_rfl
  rw [hc] at hsz0
  obtain ⟨l⟩ := cs
  obtain ⟨c0, c1, c2, c3, c4, c5, rfl⟩ := list24 (l := l) (by simpa using hsz0)
  obtain ⟨fuel, hf⟩ := h
  have k0 : Tryz.prog.cellsOf 3 = 1 := by kernel_rfl
  obtain ⟨n0, y0, h0, L0, Z0⟩ := Go.Proofs.YtmlfkbkpkgaefaaGreatDoor.DevRow.field_of2 Tryz.underlying24 hf hlt hsz 0 _ rfl
  have g0 : DataW.trod enc Tryz.prog w base spare held n0 3 [c0] = some y0 := by simpa [Value.cells, k0] using h0
  obtain ⟨x0, e0, _, w0⟩ := DataW.trod_int Tryz.underlying3 g0
  obtain rfl := (List.cons.inj e0).1
  have k1 : Tryz.prog.cellsOf 3 = 1 := by kernel_rfl
  obtain ⟨n1, y1, h1, L1, Z1⟩ := Go.Proofs.YtmlfkbkpkgaefaaGreatDoor.DevRow.field_of2 Tryz.underlying24 hf hlt hsz 1 _ rfl
  have g1 : DataW.trod enc Tryz.prog w base spare held n1 3 [c1] = some y1 := by simpa [Value.cells, k1] using h1
  obtain ⟨x1, e1, _, w1⟩ := DataW.trod_int Tryz.underlying3 g1
  obtain rfl := (List.cons.inj e1).1
  have k2 : Tryz.prog.cellsOf 3 = 1 := by kernel_rfl
  obtain ⟨n2, y2, h2, L2, Z2⟩ := Go.Proofs.YtmlfkbkpkgaefaaGreatDoor.DevRow.field_of2 Tryz.underlying24 hf hlt hsz 2 _ rfl
  have g2 : DataW.trod enc Tryz.prog w base spare held n2 3 [c2] = some y2 := by simpa [Value.cells, k2] using h2
  obtain ⟨x2, e2, _, w2⟩ := DataW.trod_int Tryz.underlying3 g2
  obtain rfl := (List.cons.inj e2).1
  have k3 : Tryz.prog.cellsOf 3 = 1 := by kernel_rfl
  obtain ⟨n3, y3, h3, L3, Z3⟩ := Go.Proofs.YtmlfkbkpkgaefaaGreatDoor.DevRow.field_of2 Tryz.underlying24 hf hlt hsz 3 _ rfl
  have g3 : DataW.trod enc Tryz.prog w base spare held n3 3 [c3] = some y3 := by simpa [Value.cells, k3] using h3
  obtain ⟨x3, e3, _, w3⟩ := DataW.trod_int Tryz.underlying3 g3
  obtain rfl := (List.cons.inj e3).1
  have k4 : Tryz.prog.cellsOf 3 = 1 := by kernel_rfl
  obtain ⟨n4, y4, h4, L4, Z4⟩ := Go.Proofs.YtmlfkbkpkgaefaaGreatDoor.DevRow.field_of2 Tryz.underlying24 hf hlt hsz 4 _ rfl
  have g4 : DataW.trod enc Tryz.prog w base spare held n4 3 [c4] = some y4 := by simpa [Value.cells, k4] using h4
  obtain ⟨x4, e4, _, w4⟩ := DataW.trod_int Tryz.underlying3 g4
  obtain rfl := (List.cons.inj e4).1
  have k5 : Tryz.prog.cellsOf 22 = 1 := by kernel_rfl
  obtain ⟨n5, y5, h5, L5, Z5⟩ := Go.Proofs.YtmlfkbkpkgaefaaGreatDoor.DevRow.field_of2 Tryz.underlying24 hf hlt hsz 5 _ rfl
  have g5 : DataW.trod enc Tryz.prog w base spare held n5 22 [c5] = some y5 := by simpa [Value.cells, k5] using h5
  obtain ⟨x5, l5, e5, i5, z5, s5⟩ := Go.Proofs.YtmlfkbkpkgaefaaGreatDoor.DevRow.open_st Tryz.underlying22 Tryz.underlying86 rfl rfl rfl rfl rfl rfl Tryz.underlying4 Tryz.underlying3 Tryz.underlying9 (by kernel_rfl) (by kernel_rfl) (by kernel_rfl) (by kernel_rfl) (by kernel_rfl) g5 L5 Z5
  obtain rfl := (List.cons.inj e5).1.symm
  exact ⟨x0, x1, x2, x3, x4, x5, l5, rfl, w0, w1, w2, w3, w4, i5, z5, s5⟩
theorem door_met (os : Os) (args : Array Value) : laidMetH Tryz.prog Rows.controlStallsRow.laid ((World.doorLaid Tryz.prog 22 os).forCall (fun _ _ => 0) ⟨#[], args, []⟩).memory :=
  laidMetH_of_parts3 (fuel := 8) (laidMet_of_run' 8 (by kernel_rfl) (by kernel_rfl)) (by kernel_rfl) (by kernel_rfl)

theorem got_long {s : ByteArray} (h : s.size = 8) : gotB (s ++ ⟨#[120]⟩) = false := by
  cases hg : gotB (s ++ ⟨#[120]⟩) with
  | false => rfl
  | true =>
    have h2 := (gotB_parts.1 hg).1
    rw [ByteArray.size_append, h] at h2
    exact absurd h2 (by decide)
theorem go_long {d : FDev} {s t : ByteArray} (h : s.size = 8) : goB d (s ++ ⟨#[120]⟩) t = false := by
  unfold goB
  rw [got_long h]
  rfl
theorem ways (d D : FDev) : (D.sa = 7 ∧ d.sa = 7 ∧ stallB d D = false) ∨ (D.sa = 7 ∧ ¬ d.sa = 7 ∧ stallB d D = true) ∨ (¬ D.sa = 7 ∧ stallB d D = false) := by
  unfold stallB
  by_cases h1 : D.sa = 7
  · by_cases h2 : d.sa = 7
    · exact .inl ⟨h1, h2, decide_eq_false (fun x => x.2 h2)⟩
    · exact .inr (.inl ⟨h1, h2, decide_eq_true ⟨h1, h2⟩⟩)
  · exact .inr (.inr ⟨h1, decide_eq_false (fun x => h1 x.1)⟩)
set_option maxRecDepth 100000 in
set_option maxHeartbeats 8000000 in
theorem walk (a0 : ByteArray) (a1_0 : Int) (a1_1 : Int) (a1_2 : Int) (a1_3 : Int) (a1_4 : Int) (a1_5 : Value) (l1_5 : List Go.Proofs.YtmlfkbkpkgaefaaGreatDoor.Ops.FOp) (a2 : Int) (a3 : Int) (a4 : ByteArray) (w : World) (w0 : a0.size ≤ maxLen) (w1_0 : (Lit.int .i64 a1_0).wf = true) (w1_1 : (Lit.int .i64 a1_1).wf = true) (w1_2 : (Lit.int .i64 a1_2).wf = true) (w1_3 : (Lit.int .i64 a1_3).wf = true) (w1_4 : (Lit.int .i64 a1_4).wf = true) (i1_5 : Go.Proofs.YtmlfkbkpkgaefaaGreatDoor.DevRow.IsSt w a1_5 l1_5) (z1_5 : l1_5.length * 32 ≤ 140737488351232) (s1_5 : ∀ o ∈ l1_5, (Lit.int .i64 o.pl).wf = true ∧ o.tx.size ≤ maxLen) (w2 : (Lit.int .i64 a2).wf = true) (w3 : (Lit.int .i64 a3).wf = true) (w4 : a4.size ≤ maxLen) (hL : laidMetH Tryz.prog Rows.controlStallsRow.laid w) :
    Calls Tryz.prog 4 #[.string a0, .agg #[.int .i64 a1_0, .int .i64 a1_1, .int .i64 a1_2, .int .i64 a1_3, .int .i64 a1_4, a1_5], .int .i64 a2, .int .i64 a3, .string a4] w fun e w' => e = .returned (.bool true) ∧ Below w.heap.size w w' := by
  have HT := hide (tab_of_laid hL (by kernel_rfl) (List.mem_singleton.2 rfl))
  clear hL
  obtain ⟨n, hn, mn⟩ : ∃ k : Nat, k < 7 ∧ (IntKind.u64.wrap a2).tmod 7 = (k : Int) := by
    have eu : IntKind.u64.wrap a2 = a2 % 18446744073709551616 := by simp [IntKind.wrap, IntKind.bits, IntKind.signed]
    rw [eu, Int.tmod_eq_emod_of_nonneg (by omega)]
    exact ⟨(a2 % 18446744073709551616 % 7).toNat, by omega, by omega⟩
  obtain ⟨k, hk, mk⟩ : ∃ k : Nat, k < 33 ∧ (IntKind.u64.wrap a3).tmod 33 = (k : Int) := by
    have eu : IntKind.u64.wrap a3 = a3 % 18446744073709551616 := by simp [IntKind.wrap, IntKind.bits, IntKind.signed]
    rw [eu, Int.tmod_eq_emod_of_nonneg (by omega)]
    exact ⟨(a3 % 18446744073709551616 % 33).toNat, by omega, by omega⟩
  have hsup : supB (n : Int) 0 (k : Int) = true := supB_parts.2 (by omega)
  have P := hide (fun w => set_put hsup w)
  have C1 := hide fun v w' h g => CtlHand.hand_any a0 ⟨a1_0, a1_1, a1_2, a1_3, a1_4, l1_5⟩ v (supS (n : Int) 0 (k : Int)) a4 w' h g
  have C2 := hide fun v w' h g => CtlHand.hand_any a0 ⟨a1_0, a1_1, a1_2, a1_3, a1_4, l1_5⟩ v (supS (n : Int) 0 (k : Int) ++ ⟨#[120]⟩) a4 w' h g
  have C3 := hide fun w' => TabRef.refAllowed_any a1_0 (n : Int) w'
  have C5 := hide fun u v w' h g => sameDev_yes ⟨7, 6, 0, 0, 0, []⟩ u v w' h g
  have b1 := DevWalk.build_d2
  have b2 := CtlWalk.build_p1
  have b5 := build_cn
  have z8 := size_supS hsup
  have z9 : (supS (n : Int) 0 (k : Int)).size ≤ 8 := by omega
  have HG2 : Hid (goB ⟨a1_0, a1_1, a1_2, a1_3, a1_4, l1_5⟩ (supS (n : Int) 0 (k : Int) ++ ⟨#[120]⟩) a4 = false) := go_long z8
  clear z8
  generalize Tab.errT (tokB a1_0 (n : Int)) = E3 at *
  unfold CtlHand.Handed at C1 C2
  have hB := hal w (.cells #[.int .i64 a1_0, .int .i64 a1_1, .int .i64 a1_2, .int .i64 a1_3, .int .i64 a1_4, a1_5] 24)
  have hX := resM w (.int .i64 a1_0) (.int .i64 a1_1) (.int .i64 a1_2) (.int .i64 a1_3) (.int .i64 a1_4) a1_5 24
  have hD := i1_5.below hB
  obtain ⟨a, ca, rfl, _, _⟩ := i1_5
  cases hb : bothB a0 ⟨a1_0, a1_1, a1_2, a1_3, a1_4, l1_5⟩ with
  | false =>
    obtain ⟨e1, e2, e3⟩ := hand_no (f := a0) (d := ⟨a1_0, a1_1, a1_2, a1_3, a1_4, l1_5⟩) (supS (n : Int) 0 (k : Int)) a4 hb
    obtain ⟨e4, e5, e6⟩ := hand_no (f := a0) (d := ⟨a1_0, a1_1, a1_2, a1_3, a1_4, l1_5⟩) (supS (n : Int) 0 (k : Int) ++ ⟨#[120]⟩) a4 hb
    rw [e1, e2, e3, errC_f hb] at C1
    rw [e4, e5, e6, errC_f hb] at C2
    unfold newD at C1 C2
    clear e1 e2 e3 e4 e5 e6 hb HG2 C3 C5
    generalize supS (n : Int) 0 (k : Int) = S at *
    dsimp only at C1 C2
    go_enter Tryz.func4, Tryz.ntmps4
    go_upto_region 5 with (first | (go_at_call 13; refine (CtlAwake.awake_any _ (HT.out.below hB)).mono ?_; rintro e u1 ⟨rfl, hb⟩; replace hB := thenB hB hb; replace hX := resB hX hb; replace hD := hD.below hb; clear hb) | (go_at_call 14; refine (P.out _).mono ?_; rintro e u2 ⟨rfl, hb⟩; replace hB := thenB hB hb; replace hX := resB hX hb; replace hD := hD.below hb; clear hb))
    clear mn mk P
    go_wp2_with fail
    refine (C1.out _ _ hD (HT.out.below hB)).mono ?_; rintro e u3 ⟨v1, rfl, ho1, hb⟩; replace hB := thenB hB hb; replace hX := resB hX hb; replace hD := hD.below hb; clear hb C1
    have hI := ho1.is
    obtain ⟨p1, q1, rfl⟩ := ho1.form
    clear ho1
    obtain ⟨hQ, hQr, hn1⟩ := dev_reply u3 (.int .i64 0) (.int .i64 0) (.int .i64 0) (.int .i64 0) (.int .i64 0) (.slice p1 0 q1) (.bool false) (.bool false) (.string ⟨#[]⟩)
    replace hB := thenB hB hn1
    replace hX := resB hX hn1
    replace hD := hD.below hn1
    replace hI := hI.below hn1
    clear hn1
    go_upto_region 6 with fail
    generalize (u3.alloc _).alloc _ = W1 at *
    generalize u3.heap.size = G1 at *
    go_wp2_with fail
    refine (C2.out _ _ hD (HT.out.below hB)).mono ?_; rintro e u4 ⟨v2, rfl, ho2, hb⟩; replace hB := thenB hB hb; replace hX := resB hX hb; replace hQ := resB hQ hb; replace hQr := SetWalk.resB hQr hb; replace hI := hI.below hb; clear hb C2 hD HT
    have hJ := ho2.is
    obtain ⟨p2, q2, rfl⟩ := ho2.form
    clear ho2
    obtain ⟨hR, hRr, hn2⟩ := dev_reply u4 (.int .i64 0) (.int .i64 0) (.int .i64 0) (.int .i64 0) (.int .i64 0) (.slice p2 0 q2) (.bool false) (.bool false) (.string ⟨#[]⟩)
    replace hB := thenB hB hn2
    replace hX := resB hX hn2
    replace hQ := resB hQ hn2
    replace hQr := SetWalk.resB hQr hn2
    replace hI := hI.below hn2
    replace hJ := hJ.below hn2
    clear hn2
    go_upto_region 7 with fail
    generalize (u4.alloc _).alloc _ = W2 at *
    generalize u4.heap.size = G2 at *
    go_wp2_with (go_at_call 11; refine (num_any _ _).mono ?_; rintro e W2 ⟨rfl, rfl⟩)
    go_ret
    exact ⟨rfl, hB⟩
  | true =>
    by_cases h1 : n = 1
    · have f1 : ((n : Int) == 1) = true := by rw [h1]; rfl
      have hc : carI (n : Int) (k : Int) = (k : Int) := by rw [h1]; rfl
      cases ht : tabB a1_0 (n : Int) with
      | false =>
        rw [ht] at C3
        obtain ⟨e1, e2, e3⟩ := hand_stall (f := a0) (d := ⟨a1_0, a1_1, a1_2, a1_3, a1_4, l1_5⟩) (s := supS (n : Int) 0 (k : Int)) (t := a4) hb (go_not hsup (.inr ht))
        obtain ⟨e4, e5, e6⟩ := hand_stall (f := a0) (d := ⟨a1_0, a1_1, a1_2, a1_3, a1_4, l1_5⟩) hb HG2.out
        rw [e1, e2, e3, errC_t hb] at C1
        rw [e4, e5, e6, errC_t hb] at C2
        unfold failedD at C1 C2
        clear e1 e2 e3 e4 e5 e6 hb HG2
        clear ht hc h1
        clear hsup
        generalize supS (n : Int) 0 (k : Int) = S at *
        dsimp only at C1 C2
        go_enter Tryz.func4, Tryz.ntmps4
        go_upto_region 5 with (first | (go_at_call 13; refine (CtlAwake.awake_any _ (HT.out.below hB)).mono ?_; rintro e u1 ⟨rfl, hb⟩; replace hB := thenB hB hb; replace hX := resB hX hb; replace hD := hD.below hb; clear hb) | (go_at_call 14; refine (P.out _).mono ?_; rintro e u2 ⟨rfl, hb⟩; replace hB := thenB hB hb; replace hX := resB hX hb; replace hD := hD.below hb; clear hb))
        clear mn mk P
        go_wp2_with fail
        refine (C1.out _ _ hD (HT.out.below hB)).mono ?_; rintro e u3 ⟨v1, rfl, ho1, hb⟩; replace hB := thenB hB hb; replace hX := resB hX hb; replace hD := hD.below hb; clear hb C1
        have hI := ho1.is
        obtain ⟨p1, q1, rfl⟩ := ho1.form
        clear ho1
        obtain ⟨hQ, hQr, hn1⟩ := dev_reply u3 (.int .i64 7) (.int .i64 6) (.int .i64 0) (.int .i64 0) (.int .i64 0) (.slice p1 0 q1) (.bool false) (.bool true) (.string ⟨#[]⟩)
        replace hB := thenB hB hn1
        replace hX := resB hX hn1
        replace hD := hD.below hn1
        replace hI := hI.below hn1
        clear hn1
        go_upto_region 6 with fail
        generalize (u3.alloc _).alloc _ = W1 at *
        generalize u3.heap.size = G1 at *
        go_wp2_with fail
        refine (C2.out _ _ hD (HT.out.below hB)).mono ?_; rintro e u4 ⟨v2, rfl, ho2, hb⟩; replace hB := thenB hB hb; replace hX := resB hX hb; replace hQ := resB hQ hb; replace hQr := SetWalk.resB hQr hb; replace hI := hI.below hb; clear hb C2 hD HT
        have hJ := ho2.is
        obtain ⟨p2, q2, rfl⟩ := ho2.form
        clear ho2
        obtain ⟨hR, hRr, hn2⟩ := dev_reply u4 (.int .i64 7) (.int .i64 6) (.int .i64 0) (.int .i64 0) (.int .i64 0) (.slice p2 0 q2) (.bool false) (.bool true) (.string ⟨#[]⟩)
        replace hB := thenB hB hn2
        replace hX := resB hX hn2
        replace hQ := resB hQ hn2
        replace hQr := SetWalk.resB hQr hn2
        replace hI := hI.below hn2
        replace hJ := hJ.below hn2
        clear hn2
        go_upto_region 7 with fail
        generalize (u4.alloc _).alloc _ = W2 at *
        generalize u4.heap.size = G2 at *
        go_upto_region 9 with (go_at_call 11; refine (num_any _ _).mono ?_; rintro e W2 ⟨rfl, rfl⟩)
        have hF := resM W2 (.int .i64 7) (.int .i64 6) (.int .i64 0) (.int .i64 0) (.int .i64 0) (.slice none 0 0) 24
        have hn3 := hal W2 (.cells #[.int .i64 7, .int .i64 6, .int .i64 0, .int .i64 0, .int .i64 0, .slice none 0 0] 24)
        replace hB := thenB hB hn3
        replace hX := resB hX hn3
        replace hQ := resB hQ hn3
        replace hQr := SetWalk.resB hQr hn3
        replace hR := resB hR hn3
        replace hRr := SetWalk.resB hRr hn3
        replace hI := hI.below hn3
        replace hJ := hJ.below hn3
        clear hn3
        go_upto_region 10 with fail
        generalize W2.alloc _ = W3 at *
        generalize W2.heap.size = G3 at *
        go_wp2_with fail
        refine (C5.out _ _ _ hJ (isSt_nil _)).mono ?_; rintro e u6 ⟨rfl, hb⟩; replace hB := thenB hB hb; replace hX := resB hX hb; replace hQ := resB hQ hb; replace hQr := SetWalk.resB hQr hb; replace hRr := SetWalk.resB hRr hb; replace hF := resB hF hb; replace hI := hI.below hb; clear hb hJ hR
        go_upto_region 12 with fail
        clear hRr
        go_upto_region 16 with (go_at_call 15; refine (C3.out _).mono ?_; rintro e u7 ⟨rfl, rfl⟩)
        clear C3
        go_wp2_with fail
        refine (C5.out _ _ _ hI (isSt_nil _)).mono ?_; rintro e u8 ⟨rfl, hb⟩; replace hB := thenB hB hb; replace hQr := SetWalk.resB hQr hb; clear hb hI
        go_wp2_with fail
        go_ret
        exact ⟨rfl, hB⟩
      | true =>
        rw [ht] at C3
        by_cases hz : (a4.size : Int) = (k : Int)
        · have fz : ((a4.size : Int) != (k : Int)) = false := by rw [hz]; exact bne_self_eq_false _
          obtain ⟨e1, e2, e3⟩ := hand_ok (f := a0) (d := ⟨a1_0, a1_1, a1_2, a1_3, a1_4, l1_5⟩) (s := supS (n : Int) 0 (k : Int)) (t := a4) hb (go_is hsup (by rw [hc]; exact hz) ht)
          obtain ⟨e4, e5, e6⟩ := hand_stall (f := a0) (d := ⟨a1_0, a1_1, a1_2, a1_3, a1_4, l1_5⟩) hb HG2.out
          rw [e1, e2, e3, errC_t hb] at C1
          rw [e4, e5, e6, errC_t hb] at C2
          unfold failedD at C2
          clear e1 e2 e3 e4 e5 e6 hb HG2
          clear ht hc h1 hz
          clear hsup
          generalize doD a0 ⟨a1_0, a1_1, a1_2, a1_3, a1_4, l1_5⟩ (supS (n : Int) 0 (k : Int)) a4 = D at *
          have HW := hide (ways ⟨a1_0, a1_1, a1_2, a1_3, a1_4, l1_5⟩ D)
          generalize stallB ⟨a1_0, a1_1, a1_2, a1_3, a1_4, l1_5⟩ D = ST at *
          have HZ : Hid (ST = true → textS ST (doS a0 ⟨a1_0, a1_1, a1_2, a1_3, a1_4, l1_5⟩ (supS (n : Int) 0 (k : Int))) = ⟨#[]⟩) := fun h => by rw [h]; rfl
          generalize textS ST (doS a0 ⟨a1_0, a1_1, a1_2, a1_3, a1_4, l1_5⟩ (supS (n : Int) 0 (k : Int))) = T at *
          generalize supS (n : Int) 0 (k : Int) = S at *
          obtain ⟨xa, xu, xn, xg, xl, xo⟩ := D
          dsimp only at C1 C2 HW
          go_enter Tryz.func4, Tryz.ntmps4
          go_upto_region 5 with (first | (go_at_call 13; refine (CtlAwake.awake_any _ (HT.out.below hB)).mono ?_; rintro e u1 ⟨rfl, hb⟩; replace hB := thenB hB hb; replace hX := resB hX hb; replace hD := hD.below hb; clear hb) | (go_at_call 14; refine (P.out _).mono ?_; rintro e u2 ⟨rfl, hb⟩; replace hB := thenB hB hb; replace hX := resB hX hb; replace hD := hD.below hb; clear hb))
          clear mn mk P
          go_wp2_with fail
          refine (C1.out _ _ hD (HT.out.below hB)).mono ?_; rintro e u3 ⟨v1, rfl, ho1, hb⟩; replace hB := thenB hB hb; replace hX := resB hX hb; replace hD := hD.below hb; clear hb C1
          have hI := ho1.is
          obtain ⟨p1, q1, rfl⟩ := ho1.form
          clear ho1
          obtain ⟨hQ, hQr, hn1⟩ := dev_reply u3 (.int .i64 xa) (.int .i64 xu) (.int .i64 xn) (.int .i64 xg) (.int .i64 xl) (.slice p1 xo.length q1) (.bool false) (.bool ST) (.string T)
          replace hB := thenB hB hn1
          replace hX := resB hX hn1
          replace hD := hD.below hn1
          replace hI := hI.below hn1
          clear hn1
          go_upto_region 6 with fail
          generalize (u3.alloc _).alloc _ = W1 at *
          generalize u3.heap.size = G1 at *
          go_wp2_with fail
          refine (C2.out _ _ hD (HT.out.below hB)).mono ?_; rintro e u4 ⟨v2, rfl, ho2, hb⟩; replace hB := thenB hB hb; replace hX := resB hX hb; replace hQ := resB hQ hb; replace hQr := SetWalk.resB hQr hb; replace hI := hI.below hb; clear hb C2 hD HT
          have hJ := ho2.is
          obtain ⟨p2, q2, rfl⟩ := ho2.form
          clear ho2
          obtain ⟨hR, hRr, hn2⟩ := dev_reply u4 (.int .i64 7) (.int .i64 6) (.int .i64 0) (.int .i64 0) (.int .i64 0) (.slice p2 0 q2) (.bool false) (.bool true) (.string ⟨#[]⟩)
          replace hB := thenB hB hn2
          replace hX := resB hX hn2
          replace hQ := resB hQ hn2
          replace hQr := SetWalk.resB hQr hn2
          replace hI := hI.below hn2
          replace hJ := hJ.below hn2
          clear hn2
          go_upto_region 7 with fail
          generalize (u4.alloc _).alloc _ = W2 at *
          generalize u4.heap.size = G2 at *
          go_upto_region 9 with (go_at_call 11; refine (num_any _ _).mono ?_; rintro e W2 ⟨rfl, rfl⟩)
          have hF := resM W2 (.int .i64 7) (.int .i64 6) (.int .i64 0) (.int .i64 0) (.int .i64 0) (.slice none 0 0) 24
          have hn3 := hal W2 (.cells #[.int .i64 7, .int .i64 6, .int .i64 0, .int .i64 0, .int .i64 0, .slice none 0 0] 24)
          replace hB := thenB hB hn3
          replace hX := resB hX hn3
          replace hQ := resB hQ hn3
          replace hQr := SetWalk.resB hQr hn3
          replace hR := resB hR hn3
          replace hRr := SetWalk.resB hRr hn3
          replace hI := hI.below hn3
          replace hJ := hJ.below hn3
          clear hn3
          go_upto_region 10 with fail
          generalize W2.alloc _ = W3 at *
          generalize W2.heap.size = G3 at *
          go_wp2_with fail
          refine (C5.out _ _ _ hJ (isSt_nil _)).mono ?_; rintro e u6 ⟨rfl, hb⟩; replace hB := thenB hB hb; replace hX := resB hX hb; replace hQ := resB hQ hb; replace hQr := SetWalk.resB hQr hb; replace hRr := SetWalk.resB hRr hb; replace hF := resB hF hb; replace hI := hI.below hb; clear hb hJ hR
          go_upto_region 12 with fail
          clear hRr
          go_upto_region 16 with (go_at_call 15; refine (C3.out _).mono ?_; rintro e u7 ⟨rfl, rfl⟩)
          clear C3
          clear hI C5
          rcases HW.out with ⟨rfl, h7, rfl⟩ | ⟨rfl, h7, rfl⟩ | ⟨h7, rfl⟩
          · have f7 : (a1_0 != 7) = false := by rw [h7]; rfl
            clear HW HZ h7
            go_wp2_with fail
            go_ret
            exact ⟨rfl, hB⟩
          · have f7 := DnlWalk.ne_t h7
            obtain rfl := HZ.out rfl
            clear HW HZ h7
            go_wp2_with fail
            go_ret
            exact ⟨rfl, hB⟩
          · have f7 := DnlWalk.eq_f h7
            clear HW HZ h7
            go_wp2_with fail
            go_ret
            exact ⟨rfl, hB⟩
        · have fz := DnlWalk.ne_t hz
          obtain ⟨e1, e2, e3⟩ := hand_stall (f := a0) (d := ⟨a1_0, a1_1, a1_2, a1_3, a1_4, l1_5⟩) (s := supS (n : Int) 0 (k : Int)) (t := a4) hb (go_not hsup (.inl (by rw [hc]; exact hz)))
          obtain ⟨e4, e5, e6⟩ := hand_stall (f := a0) (d := ⟨a1_0, a1_1, a1_2, a1_3, a1_4, l1_5⟩) hb HG2.out
          rw [e1, e2, e3, errC_t hb] at C1
          rw [e4, e5, e6, errC_t hb] at C2
          unfold failedD at C1 C2
          clear e1 e2 e3 e4 e5 e6 hb HG2
          clear ht hc h1 hz
          clear hsup
          generalize supS (n : Int) 0 (k : Int) = S at *
          dsimp only at C1 C2
          go_enter Tryz.func4, Tryz.ntmps4
          go_upto_region 5 with (first | (go_at_call 13; refine (CtlAwake.awake_any _ (HT.out.below hB)).mono ?_; rintro e u1 ⟨rfl, hb⟩; replace hB := thenB hB hb; replace hX := resB hX hb; replace hD := hD.below hb; clear hb) | (go_at_call 14; refine (P.out _).mono ?_; rintro e u2 ⟨rfl, hb⟩; replace hB := thenB hB hb; replace hX := resB hX hb; replace hD := hD.below hb; clear hb))
          clear mn mk P
          go_wp2_with fail
          refine (C1.out _ _ hD (HT.out.below hB)).mono ?_; rintro e u3 ⟨v1, rfl, ho1, hb⟩; replace hB := thenB hB hb; replace hX := resB hX hb; replace hD := hD.below hb; clear hb C1
          have hI := ho1.is
          obtain ⟨p1, q1, rfl⟩ := ho1.form
          clear ho1
          obtain ⟨hQ, hQr, hn1⟩ := dev_reply u3 (.int .i64 7) (.int .i64 6) (.int .i64 0) (.int .i64 0) (.int .i64 0) (.slice p1 0 q1) (.bool false) (.bool true) (.string ⟨#[]⟩)
          replace hB := thenB hB hn1
          replace hX := resB hX hn1
          replace hD := hD.below hn1
          replace hI := hI.below hn1
          clear hn1
          go_upto_region 6 with fail
          generalize (u3.alloc _).alloc _ = W1 at *
          generalize u3.heap.size = G1 at *
          go_wp2_with fail
          refine (C2.out _ _ hD (HT.out.below hB)).mono ?_; rintro e u4 ⟨v2, rfl, ho2, hb⟩; replace hB := thenB hB hb; replace hX := resB hX hb; replace hQ := resB hQ hb; replace hQr := SetWalk.resB hQr hb; replace hI := hI.below hb; clear hb C2 hD HT
          have hJ := ho2.is
          obtain ⟨p2, q2, rfl⟩ := ho2.form
          clear ho2
          obtain ⟨hR, hRr, hn2⟩ := dev_reply u4 (.int .i64 7) (.int .i64 6) (.int .i64 0) (.int .i64 0) (.int .i64 0) (.slice p2 0 q2) (.bool false) (.bool true) (.string ⟨#[]⟩)
          replace hB := thenB hB hn2
          replace hX := resB hX hn2
          replace hQ := resB hQ hn2
          replace hQr := SetWalk.resB hQr hn2
          replace hI := hI.below hn2
          replace hJ := hJ.below hn2
          clear hn2
          go_upto_region 7 with fail
          generalize (u4.alloc _).alloc _ = W2 at *
          generalize u4.heap.size = G2 at *
          go_upto_region 9 with (go_at_call 11; refine (num_any _ _).mono ?_; rintro e W2 ⟨rfl, rfl⟩)
          have hF := resM W2 (.int .i64 7) (.int .i64 6) (.int .i64 0) (.int .i64 0) (.int .i64 0) (.slice none 0 0) 24
          have hn3 := hal W2 (.cells #[.int .i64 7, .int .i64 6, .int .i64 0, .int .i64 0, .int .i64 0, .slice none 0 0] 24)
          replace hB := thenB hB hn3
          replace hX := resB hX hn3
          replace hQ := resB hQ hn3
          replace hQr := SetWalk.resB hQr hn3
          replace hR := resB hR hn3
          replace hRr := SetWalk.resB hRr hn3
          replace hI := hI.below hn3
          replace hJ := hJ.below hn3
          clear hn3
          go_upto_region 10 with fail
          generalize W2.alloc _ = W3 at *
          generalize W2.heap.size = G3 at *
          go_wp2_with fail
          refine (C5.out _ _ _ hJ (isSt_nil _)).mono ?_; rintro e u6 ⟨rfl, hb⟩; replace hB := thenB hB hb; replace hX := resB hX hb; replace hQ := resB hQ hb; replace hQr := SetWalk.resB hQr hb; replace hRr := SetWalk.resB hRr hb; replace hF := resB hF hb; replace hI := hI.below hb; clear hb hJ hR
          go_upto_region 12 with fail
          clear hRr
          go_upto_region 16 with (go_at_call 15; refine (C3.out _).mono ?_; rintro e u7 ⟨rfl, rfl⟩)
          clear C3
          go_wp2_with fail
          refine (C5.out _ _ _ hI (isSt_nil _)).mono ?_; rintro e u8 ⟨rfl, hb⟩; replace hB := thenB hB hb; replace hQr := SetWalk.resB hQr hb; clear hb hI
          go_wp2_with fail
          go_ret
          exact ⟨rfl, hB⟩
    · have f1 : ((n : Int) == 1) = false := DnlWalk.eq_f (by omega)
      have hc : carI (n : Int) (k : Int) = 0 := if_neg (by omega)
      cases ht : tabB a1_0 (n : Int) with
      | false =>
        rw [ht] at C3
        obtain ⟨e1, e2, e3⟩ := hand_stall (f := a0) (d := ⟨a1_0, a1_1, a1_2, a1_3, a1_4, l1_5⟩) (s := supS (n : Int) 0 (k : Int)) (t := a4) hb (go_not hsup (.inr ht))
        obtain ⟨e4, e5, e6⟩ := hand_stall (f := a0) (d := ⟨a1_0, a1_1, a1_2, a1_3, a1_4, l1_5⟩) hb HG2.out
        rw [e1, e2, e3, errC_t hb] at C1
        rw [e4, e5, e6, errC_t hb] at C2
        unfold failedD at C1 C2
        clear e1 e2 e3 e4 e5 e6 hb HG2
        clear ht hc h1
        clear hsup
        generalize supS (n : Int) 0 (k : Int) = S at *
        dsimp only at C1 C2
        go_enter Tryz.func4, Tryz.ntmps4
        go_upto_region 5 with (first | (go_at_call 13; refine (CtlAwake.awake_any _ (HT.out.below hB)).mono ?_; rintro e u1 ⟨rfl, hb⟩; replace hB := thenB hB hb; replace hX := resB hX hb; replace hD := hD.below hb; clear hb) | (go_at_call 14; refine (P.out _).mono ?_; rintro e u2 ⟨rfl, hb⟩; replace hB := thenB hB hb; replace hX := resB hX hb; replace hD := hD.below hb; clear hb))
        clear mn mk P
        go_wp2_with fail
        refine (C1.out _ _ hD (HT.out.below hB)).mono ?_; rintro e u3 ⟨v1, rfl, ho1, hb⟩; replace hB := thenB hB hb; replace hX := resB hX hb; replace hD := hD.below hb; clear hb C1
        have hI := ho1.is
        obtain ⟨p1, q1, rfl⟩ := ho1.form
        clear ho1
        obtain ⟨hQ, hQr, hn1⟩ := dev_reply u3 (.int .i64 7) (.int .i64 6) (.int .i64 0) (.int .i64 0) (.int .i64 0) (.slice p1 0 q1) (.bool false) (.bool true) (.string ⟨#[]⟩)
        replace hB := thenB hB hn1
        replace hX := resB hX hn1
        replace hD := hD.below hn1
        replace hI := hI.below hn1
        clear hn1
        go_upto_region 6 with fail
        generalize (u3.alloc _).alloc _ = W1 at *
        generalize u3.heap.size = G1 at *
        go_wp2_with fail
        refine (C2.out _ _ hD (HT.out.below hB)).mono ?_; rintro e u4 ⟨v2, rfl, ho2, hb⟩; replace hB := thenB hB hb; replace hX := resB hX hb; replace hQ := resB hQ hb; replace hQr := SetWalk.resB hQr hb; replace hI := hI.below hb; clear hb C2 hD HT
        have hJ := ho2.is
        obtain ⟨p2, q2, rfl⟩ := ho2.form
        clear ho2
        obtain ⟨hR, hRr, hn2⟩ := dev_reply u4 (.int .i64 7) (.int .i64 6) (.int .i64 0) (.int .i64 0) (.int .i64 0) (.slice p2 0 q2) (.bool false) (.bool true) (.string ⟨#[]⟩)
        replace hB := thenB hB hn2
        replace hX := resB hX hn2
        replace hQ := resB hQ hn2
        replace hQr := SetWalk.resB hQr hn2
        replace hI := hI.below hn2
        replace hJ := hJ.below hn2
        clear hn2
        go_upto_region 7 with fail
        generalize (u4.alloc _).alloc _ = W2 at *
        generalize u4.heap.size = G2 at *
        go_upto_region 9 with (go_at_call 11; refine (num_any _ _).mono ?_; rintro e W2 ⟨rfl, rfl⟩)
        have hF := resM W2 (.int .i64 7) (.int .i64 6) (.int .i64 0) (.int .i64 0) (.int .i64 0) (.slice none 0 0) 24
        have hn3 := hal W2 (.cells #[.int .i64 7, .int .i64 6, .int .i64 0, .int .i64 0, .int .i64 0, .slice none 0 0] 24)
        replace hB := thenB hB hn3
        replace hX := resB hX hn3
        replace hQ := resB hQ hn3
        replace hQr := SetWalk.resB hQr hn3
        replace hR := resB hR hn3
        replace hRr := SetWalk.resB hRr hn3
        replace hI := hI.below hn3
        replace hJ := hJ.below hn3
        clear hn3
        go_upto_region 10 with fail
        generalize W2.alloc _ = W3 at *
        generalize W2.heap.size = G3 at *
        go_wp2_with fail
        refine (C5.out _ _ _ hJ (isSt_nil _)).mono ?_; rintro e u6 ⟨rfl, hb⟩; replace hB := thenB hB hb; replace hX := resB hX hb; replace hQ := resB hQ hb; replace hQr := SetWalk.resB hQr hb; replace hRr := SetWalk.resB hRr hb; replace hF := resB hF hb; replace hI := hI.below hb; clear hb hJ hR
        go_upto_region 12 with fail
        clear hRr
        go_upto_region 16 with (go_at_call 15; refine (C3.out _).mono ?_; rintro e u7 ⟨rfl, rfl⟩)
        clear C3
        go_wp2_with fail
        refine (C5.out _ _ _ hI (isSt_nil _)).mono ?_; rintro e u8 ⟨rfl, hb⟩; replace hB := thenB hB hb; replace hQr := SetWalk.resB hQr hb; clear hb hI
        go_wp2_with fail
        go_ret
        exact ⟨rfl, hB⟩
      | true =>
        rw [ht] at C3
        by_cases hz : (a4.size : Int) = 0
        · have fz : ((a4.size : Int) != 0) = false := by rw [hz]; rfl
          obtain ⟨e1, e2, e3⟩ := hand_ok (f := a0) (d := ⟨a1_0, a1_1, a1_2, a1_3, a1_4, l1_5⟩) (s := supS (n : Int) 0 (k : Int)) (t := a4) hb (go_is hsup (by rw [hc]; exact hz) ht)
          obtain ⟨e4, e5, e6⟩ := hand_stall (f := a0) (d := ⟨a1_0, a1_1, a1_2, a1_3, a1_4, l1_5⟩) hb HG2.out
          rw [e1, e2, e3, errC_t hb] at C1
          rw [e4, e5, e6, errC_t hb] at C2
          unfold failedD at C2
          clear e1 e2 e3 e4 e5 e6 hb HG2
          clear ht hc h1 hz
          clear hsup
          generalize doD a0 ⟨a1_0, a1_1, a1_2, a1_3, a1_4, l1_5⟩ (supS (n : Int) 0 (k : Int)) a4 = D at *
          have HW := hide (ways ⟨a1_0, a1_1, a1_2, a1_3, a1_4, l1_5⟩ D)
          generalize stallB ⟨a1_0, a1_1, a1_2, a1_3, a1_4, l1_5⟩ D = ST at *
          have HZ : Hid (ST = true → textS ST (doS a0 ⟨a1_0, a1_1, a1_2, a1_3, a1_4, l1_5⟩ (supS (n : Int) 0 (k : Int))) = ⟨#[]⟩) := fun h => by rw [h]; rfl
          generalize textS ST (doS a0 ⟨a1_0, a1_1, a1_2, a1_3, a1_4, l1_5⟩ (supS (n : Int) 0 (k : Int))) = T at *
          generalize supS (n : Int) 0 (k : Int) = S at *
          obtain ⟨xa, xu, xn, xg, xl, xo⟩ := D
          dsimp only at C1 C2 HW
          go_enter Tryz.func4, Tryz.ntmps4
          go_upto_region 5 with (first | (go_at_call 13; refine (CtlAwake.awake_any _ (HT.out.below hB)).mono ?_; rintro e u1 ⟨rfl, hb⟩; replace hB := thenB hB hb; replace hX := resB hX hb; replace hD := hD.below hb; clear hb) | (go_at_call 14; refine (P.out _).mono ?_; rintro e u2 ⟨rfl, hb⟩; replace hB := thenB hB hb; replace hX := resB hX hb; replace hD := hD.below hb; clear hb))
          clear mn mk P
          go_wp2_with fail
          refine (C1.out _ _ hD (HT.out.below hB)).mono ?_; rintro e u3 ⟨v1, rfl, ho1, hb⟩; replace hB := thenB hB hb; replace hX := resB hX hb; replace hD := hD.below hb; clear hb C1
          have hI := ho1.is
          obtain ⟨p1, q1, rfl⟩ := ho1.form
          clear ho1
          obtain ⟨hQ, hQr, hn1⟩ := dev_reply u3 (.int .i64 xa) (.int .i64 xu) (.int .i64 xn) (.int .i64 xg) (.int .i64 xl) (.slice p1 xo.length q1) (.bool false) (.bool ST) (.string T)
          replace hB := thenB hB hn1
          replace hX := resB hX hn1
          replace hD := hD.below hn1
          replace hI := hI.below hn1
          clear hn1
          go_upto_region 6 with fail
          generalize (u3.alloc _).alloc _ = W1 at *
          generalize u3.heap.size = G1 at *
          go_wp2_with fail
          refine (C2.out _ _ hD (HT.out.below hB)).mono ?_; rintro e u4 ⟨v2, rfl, ho2, hb⟩; replace hB := thenB hB hb; replace hX := resB hX hb; replace hQ := resB hQ hb; replace hQr := SetWalk.resB hQr hb; replace hI := hI.below hb; clear hb C2 hD HT
          have hJ := ho2.is
          obtain ⟨p2, q2, rfl⟩ := ho2.form
          clear ho2
          obtain ⟨hR, hRr, hn2⟩ := dev_reply u4 (.int .i64 7) (.int .i64 6) (.int .i64 0) (.int .i64 0) (.int .i64 0) (.slice p2 0 q2) (.bool false) (.bool true) (.string ⟨#[]⟩)
          replace hB := thenB hB hn2
          replace hX := resB hX hn2
          replace hQ := resB hQ hn2
          replace hQr := SetWalk.resB hQr hn2
          replace hI := hI.below hn2
          replace hJ := hJ.below hn2
          clear hn2
          go_upto_region 7 with fail
          generalize (u4.alloc _).alloc _ = W2 at *
          generalize u4.heap.size = G2 at *
          go_upto_region 9 with (go_at_call 11; refine (num_any _ _).mono ?_; rintro e W2 ⟨rfl, rfl⟩)
          have hF := resM W2 (.int .i64 7) (.int .i64 6) (.int .i64 0) (.int .i64 0) (.int .i64 0) (.slice none 0 0) 24
          have hn3 := hal W2 (.cells #[.int .i64 7, .int .i64 6, .int .i64 0, .int .i64 0, .int .i64 0, .slice none 0 0] 24)
          replace hB := thenB hB hn3
          replace hX := resB hX hn3
          replace hQ := resB hQ hn3
          replace hQr := SetWalk.resB hQr hn3
          replace hR := resB hR hn3
          replace hRr := SetWalk.resB hRr hn3
          replace hI := hI.below hn3
          replace hJ := hJ.below hn3
          clear hn3
          go_upto_region 10 with fail
          generalize W2.alloc _ = W3 at *
          generalize W2.heap.size = G3 at *
          go_wp2_with fail
          refine (C5.out _ _ _ hJ (isSt_nil _)).mono ?_; rintro e u6 ⟨rfl, hb⟩; replace hB := thenB hB hb; replace hX := resB hX hb; replace hQ := resB hQ hb; replace hQr := SetWalk.resB hQr hb; replace hRr := SetWalk.resB hRr hb; replace hF := resB hF hb; replace hI := hI.below hb; clear hb hJ hR
          go_upto_region 12 with fail
          clear hRr
          go_upto_region 16 with (go_at_call 15; refine (C3.out _).mono ?_; rintro e u7 ⟨rfl, rfl⟩)
          clear C3
          clear hI C5
          rcases HW.out with ⟨rfl, h7, rfl⟩ | ⟨rfl, h7, rfl⟩ | ⟨h7, rfl⟩
          · have f7 : (a1_0 != 7) = false := by rw [h7]; rfl
            clear HW HZ h7
            go_wp2_with fail
            go_ret
            exact ⟨rfl, hB⟩
          · have f7 := DnlWalk.ne_t h7
            obtain rfl := HZ.out rfl
            clear HW HZ h7
            go_wp2_with fail
            go_ret
            exact ⟨rfl, hB⟩
          · have f7 := DnlWalk.eq_f h7
            clear HW HZ h7
            go_wp2_with fail
            go_ret
            exact ⟨rfl, hB⟩
        · have fz := DnlWalk.ne_t hz
          obtain ⟨e1, e2, e3⟩ := hand_stall (f := a0) (d := ⟨a1_0, a1_1, a1_2, a1_3, a1_4, l1_5⟩) (s := supS (n : Int) 0 (k : Int)) (t := a4) hb (go_not hsup (.inl (by rw [hc]; exact hz)))
          obtain ⟨e4, e5, e6⟩ := hand_stall (f := a0) (d := ⟨a1_0, a1_1, a1_2, a1_3, a1_4, l1_5⟩) hb HG2.out
          rw [e1, e2, e3, errC_t hb] at C1
          rw [e4, e5, e6, errC_t hb] at C2
          unfold failedD at C1 C2
          clear e1 e2 e3 e4 e5 e6 hb HG2
          clear ht hc h1 hz
          clear hsup
          generalize supS (n : Int) 0 (k : Int) = S at *
          dsimp only at C1 C2
          go_enter Tryz.func4, Tryz.ntmps4
          go_upto_region 5 with (first | (go_at_call 13; refine (CtlAwake.awake_any _ (HT.out.below hB)).mono ?_; rintro e u1 ⟨rfl, hb⟩; replace hB := thenB hB hb; replace hX := resB hX hb; replace hD := hD.below hb; clear hb) | (go_at_call 14; refine (P.out _).mono ?_; rintro e u2 ⟨rfl, hb⟩; replace hB := thenB hB hb; replace hX := resB hX hb; replace hD := hD.below hb; clear hb))
          clear mn mk P
          go_wp2_with fail
          refine (C1.out _ _ hD (HT.out.below hB)).mono ?_; rintro e u3 ⟨v1, rfl, ho1, hb⟩; replace hB := thenB hB hb; replace hX := resB hX hb; replace hD := hD.below hb; clear hb C1
          have hI := ho1.is
          obtain ⟨p1, q1, rfl⟩ := ho1.form
          clear ho1
          obtain ⟨hQ, hQr, hn1⟩ := dev_reply u3 (.int .i64 7) (.int .i64 6) (.int .i64 0) (.int .i64 0) (.int .i64 0) (.slice p1 0 q1) (.bool false) (.bool true) (.string ⟨#[]⟩)
          replace hB := thenB hB hn1
          replace hX := resB hX hn1
          replace hD := hD.below hn1
          replace hI := hI.below hn1
          clear hn1
          go_upto_region 6 with fail
          generalize (u3.alloc _).alloc _ = W1 at *
          generalize u3.heap.size = G1 at *
          go_wp2_with fail
          refine (C2.out _ _ hD (HT.out.below hB)).mono ?_; rintro e u4 ⟨v2, rfl, ho2, hb⟩; replace hB := thenB hB hb; replace hX := resB hX hb; replace hQ := resB hQ hb; replace hQr := SetWalk.resB hQr hb; replace hI := hI.below hb; clear hb C2 hD HT
          have hJ := ho2.is
          obtain ⟨p2, q2, rfl⟩ := ho2.form
          clear ho2
          obtain ⟨hR, hRr, hn2⟩ := dev_reply u4 (.int .i64 7) (.int .i64 6) (.int .i64 0) (.int .i64 0) (.int .i64 0) (.slice p2 0 q2) (.bool false) (.bool true) (.string ⟨#[]⟩)
          replace hB := thenB hB hn2
          replace hX := resB hX hn2
          replace hQ := resB hQ hn2
          replace hQr := SetWalk.resB hQr hn2
          replace hI := hI.below hn2
          replace hJ := hJ.below hn2
          clear hn2
          go_upto_region 7 with fail
          generalize (u4.alloc _).alloc _ = W2 at *
          generalize u4.heap.size = G2 at *
          go_upto_region 9 with (go_at_call 11; refine (num_any _ _).mono ?_; rintro e W2 ⟨rfl, rfl⟩)
          have hF := resM W2 (.int .i64 7) (.int .i64 6) (.int .i64 0) (.int .i64 0) (.int .i64 0) (.slice none 0 0) 24
          have hn3 := hal W2 (.cells #[.int .i64 7, .int .i64 6, .int .i64 0, .int .i64 0, .int .i64 0, .slice none 0 0] 24)
          replace hB := thenB hB hn3
          replace hX := resB hX hn3
          replace hQ := resB hQ hn3
          replace hQr := SetWalk.resB hQr hn3
          replace hR := resB hR hn3
          replace hRr := SetWalk.resB hRr hn3
          replace hI := hI.below hn3
          replace hJ := hJ.below hn3
          clear hn3
          go_upto_region 10 with fail
          generalize W2.alloc _ = W3 at *
          generalize W2.heap.size = G3 at *
          go_wp2_with fail
          refine (C5.out _ _ _ hJ (isSt_nil _)).mono ?_; rintro e u6 ⟨rfl, hb⟩; replace hB := thenB hB hb; replace hX := resB hX hb; replace hQ := resB hQ hb; replace hQr := SetWalk.resB hQr hb; replace hRr := SetWalk.resB hRr hb; replace hF := resB hF hb; replace hI := hI.below hb; clear hb hJ hR
          go_upto_region 12 with fail
          clear hRr
          go_upto_region 16 with (go_at_call 15; refine (C3.out _).mono ?_; rintro e u7 ⟨rfl, rfl⟩)
          clear C3
          go_wp2_with fail
          refine (C5.out _ _ _ hI (isSt_nil _)).mono ?_; rintro e u8 ⟨rfl, hb⟩; replace hB := thenB hB hb; replace hQr := SetWalk.resB hQr hb; clear hb hI
          go_wp2_with fail
          go_ret
          exact ⟨rfl, hB⟩

set_option maxRecDepth 100000 in
theorem lifted (os : Os) (started : os.Started) (H : Type) (enc : TypeId × Value → H) :
    ReturnsInHanded {} Tryz.checked os 4 .any (fun w args => (Rows.controlStallsSpec.pre enc Tryz.prog Tryz.f4 Rows.controlStallsRow.domain false w args ∧ laidMetH Tryz.prog Rows.controlStallsRow.laid w) ∧ sizedMet enc Tryz.prog Tryz.f4 (OpenSpec.ofChange Rows.controlStallsSpec) false w args) (Rows.controlStallsSpec.post enc Tryz.prog Tryz.f4 false true false false) := by
  refine returnsInHanded_of_change_and (C := Tryz.checked) (X := fun w _ => laidMetH Tryz.prog Rows.controlStallsRow.laid w) (fun _ _ _ hh h => h.of_heap hh) own started (by kernel_rfl) Tryz.func4
    (ChangeSpec.witness_shaped (enc := enc) (C := Tryz.checked) (os := os) (X := fun w _ => laidMetH Tryz.prog Rows.controlStallsRow.laid w) false (World.doorLaid Tryz.prog 22 os) #[.string ByteArray.empty, .agg #[.int .i64 0, .int .i64 0, .int .i64 0, .int .i64 0, .int .i64 0, .slice none 0 0], .int .i64 0, .int .i64 0, .string ByteArray.empty] 8 rfl (World.shaped_of_RefB (by kernel_rfl) (by kernel_rfl)) (by kernel_rfl) (by kernel_rfl) (by kernel_rfl) (door_met os _)) ?_
  intro W base args ds gs before hval0 hW hcnd hsz0 hL _
  have hval : ∀ (j : Nat) t v, Tryz.f4.params[j]? = some t → args[j]? = some v → Value.okWide Tryz.prog W .any base t v := hval0
  have hW' := hW
  obtain ⟨p, q, hA0, hV, rfl, hfz, hnd⟩ := hW
  have hA : DataW.TrodAll enc Tryz.prog W 0 (fun _ => true) true Tryz.f4.params.toList args.toList ds p := hA0
  have hsz : (DataW.weightsEach Tryz.prog (Tryz.f4.params.toList ++ Rows.controlStallsSpec.plain.varTypes Tryz.prog) (ds ++ gs)).all (· ≤ reachBytes) = true := hsz0
  clear hsz0
  rw [Tryz.params4] at hA hval hsz
  obtain ⟨v0, vs0, d0, ds0, p0, q0, hargs, rfl, rfl, h0, r0⟩ := trodAll_cons hA
  obtain ⟨v1, vs1, d1, ds1, p1, q1, rfl, rfl, rfl, h1, r1⟩ := trodAll_cons r0
  obtain ⟨v2, vs2, d2, ds2, p2, q2, rfl, rfl, rfl, h2, r2⟩ := trodAll_cons r1
  obtain ⟨v3, vs3, d3, ds3, p3, q3, rfl, rfl, rfl, h3, r3⟩ := trodAll_cons r2
  obtain ⟨v4, vs4, d4, ds4, p4, q4, rfl, rfl, rfl, h4, r4⟩ := trodAll_cons r3
  obtain ⟨rfl, rfl, rfl⟩ := trodAll_nil r4
  obtain rfl : args = #[v0, v1, v2, v3, v4] := by cases args; simp_all
  obtain ⟨rfl, rfl⟩ := trodVars_none hV
  obtain ⟨a0, rfl, rfl, rfl, w0⟩ := open_string Tryz.underlying9 (hval 0 9 v0 rfl rfl) h0
  have k1 := h1
  have lt1 : ∀ x ∈ p1, x.block < W.heap.size := by obtain ⟨m, hm⟩ := k1; exact DataW.trod_lt m _ _ _ hm
  obtain ⟨a1_0, a1_1, a1_2, a1_3, a1_4, a1_5, l1_5, rfl, w1_0, w1_1, w1_2, w1_3, w1_4, i1_5, z1_5, s1_5⟩ := open24 (hval 1 24 v1 rfl rfl) h1 lt1 (Go.Proofs.YtmlfkbkpkgaefaaGreatDoor.DevRow.sized_arg hsz (j := 1) rfl rfl)
  obtain ⟨a2, rfl, rfl, rfl, w2⟩ := open_int Tryz.underlying3 (hval 2 3 v2 rfl rfl) h2
  obtain ⟨a3, rfl, rfl, rfl, w3⟩ := open_int Tryz.underlying3 (hval 3 3 v3 rfl rfl) h3
  obtain ⟨a4, rfl, rfl, rfl, w4⟩ := open_string Tryz.underlying9 (hval 4 9 v4 rfl rfl) h4
  clear hA0 hval0
  refine (walk a0 a1_0 a1_1 a1_2 a1_3 a1_4 a1_5 l1_5 a2 a3 a4 W w0 w1_0 w1_1 w1_2 w1_3 w1_4 i1_5 z1_5 s1_5 w2 w3 w4 hL).mono fun e W' ⟨he, bel⟩ => ?_
  subst he
  exact ⟨_, rfl, _, _, _, [], _, [], hW', (trodAll_cons_mk (shut_bool Tryz.underlying4 _) trodAll_mk0), (trodAll_cons_mk (shut_string Tryz.underlying9 w0) (trodAll_cons_mk (Below.trod laidOut (by kernel_rfl) (of_decide_eq_true (by kernel_rfl)) k1 bel lt1) (trodAll_cons_mk (shut_int Tryz.underlying3 w2) (trodAll_cons_mk (shut_int Tryz.underlying3 w3) (trodAll_cons_mk (shut_string Tryz.underlying9 w4) trodAll_mk0))))), rfl, bel.frame _, fun h => by cases h⟩

theorem over : Rows.controlStallsRow.holds Tryz.pinned (OpenSpec.ofChange Rows.controlStallsSpec) :=
  OpenClaim.holds_of_wide 4 Tryz.f4 rfl rfl rfl rfl rfl rfl rfl ⟨rfl, rfl, rfl, rfl, rfl⟩ rfl rfl rfl rfl rfl (by kernel_rfl) Tryz.func4 (by kernel_rfl)
    (of_decide_eq_true (by kernel_rfl)) (by unfold Func.isWrapper; first | (rw [if_pos (by decide +kernel)]; kernel_rfl) | (rw [if_neg (by decide +kernel)]; exact ⟨rfl, rfl⟩))
    (fun os started H enc _ => lifted os started H enc)

theorem plain (f : FuncId) (fn : Func) (hf : Tryz.pinned.checked.prog.funcNamed "skiff/skifflaw21.ControlStalls" = some f) (hfn : Tryz.pinned.checked.prog.funcs[f]? = some fn) :
    false = Tryz.pinned.checked.prog.looks [] ∧ ∀ (j : Nat) t, fn.params[j]? = some t → Tryz.pinned.checked.prog.wantsStandIn t = false := by
  obtain rfl : f = 4 := Option.some.inj ((show Tryz.prog.funcNamed "skiff/skifflaw21.ControlStalls" = some 4 by kernel_rfl).symm.trans hf) |>.symm
  obtain rfl : fn = Tryz.f4 := (Option.some.inj (Tryz.func4.symm.trans hfn)).symm
  refine ⟨by kernel_rfl, fun j t ht => ?_⟩
  rw [Tryz.params4] at ht
  rcases j with _ | _ | _ | _ | _ | j
  · obtain rfl : 9 = t := by simpa using ht
    exact (show Tryz.prog.wantsStandIn 9 = false by kernel_rfl)
  · obtain rfl : 24 = t := by simpa using ht
    exact (show Tryz.prog.wantsStandIn 24 = false by kernel_rfl)
  · obtain rfl : 3 = t := by simpa using ht
    exact (show Tryz.prog.wantsStandIn 3 = false by kernel_rfl)
  · obtain rfl : 3 = t := by simpa using ht
    exact (show Tryz.prog.wantsStandIn 3 = false by kernel_rfl)
  · obtain rfl : 9 = t := by simpa using ht
    exact (show Tryz.prog.wantsStandIn 9 = false by kernel_rfl)
  · simp at ht
theorem proved : Rows.ControlStallsCardSaid :=
  Claim7.holds_tied_plain_at .later [] _ _ _ _ over (fun _ h => by cases h) (by kernel_rfl) (fun _ h => by cases h) controlStalls_row_tie rfl ⟨rfl, rfl⟩ (by kernel_rfl) rfl plain (by kernel_rfl)
#print axioms proved
end Go.Proofs.YtmlfkbkpkgaefaaGreatDoor.controlStalls
