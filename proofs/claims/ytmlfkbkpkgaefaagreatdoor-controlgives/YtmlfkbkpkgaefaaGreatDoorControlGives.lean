/- Whatever the flash, the device and the number: the law ControlGives returns true (what an allowed request gives is its layer's: a status, bytes), and the arguments read as they did; the variable 'skiff/table.allowed' reads as the program's text lays it (a tied card). -/
import Derived.Test.YtmlfkbkpkgaefaaGreatDoorRows
import Derived.Test.YtmlfkbkpkgaefaaGreatDoorBagNor
import Derived.Test.YtmlfkbkpkgaefaaGreatDoorBagDev
import Derived.Test.YtmlfkbkpkgaefaaGreatDoorBagTim
import Derived.Test.YtmlfkbkpkgaefaaGreatDoorBagSts
import Derived.Test.YtmlfkbkpkgaefaaGreatDoorBagUpl
import Derived.Test.YtmlfkbkpkgaefaaGreatDoorBagTab
import Derived.Test.YtmlfkbkpkgaefaaGreatDoorTabRef
import Derived.Test.YtmlfkbkpkgaefaaGreatDoorBagDoc
import Derived.Test.YtmlfkbkpkgaefaaGreatDoorStsRef
import Derived.Test.YtmlfkbkpkgaefaaGreatDoorUplRef
import Derived.Test.YtmlfkbkpkgaefaaGreatDoorBagCtl
import Derived.Test.YtmlfkbkpkgaefaaGreatDoorCtlAwake
import Derived.Deep.Cut
import Derived.WalkKit
import Derived.ProofKit
import Derived.OpenShut
import Derived.ShutString
import Derived.ChangeOld
import Derived.Below
import Derived.SizedLaws
import Derived.Test.YtmlfkbkpkgaefaaGreatDoorCards
import Derived.Test.YtmlfkbkpkgaefaaGreatDoorTie
import Derived.LaidMore
import Derived.Handed
import Derived.LaidLaws
namespace Go.Proofs.YtmlfkbkpkgaefaaGreatDoor.controlGives
open Go.ChangeShapes Go.WideShapes Go.ChangeAt Go.RowKit
open Go.ChangeMaps (open_string shut_string)
set_option linter.unusedVariables false

open Go.Proofs.YtmlfkbkpkgaefaaGreatDoor.Bytes
open Go.Proofs.YtmlfkbkpkgaefaaGreatDoor.Dev
open Go.Proofs.YtmlfkbkpkgaefaaGreatDoor.DevRow
open Go.Proofs.YtmlfkbkpkgaefaaGreatDoor.DevHelp
open Go.Proofs.YtmlfkbkpkgaefaaGreatDoor.DevAwake
open Go.Proofs.YtmlfkbkpkgaefaaGreatDoor.Dnl
open Go.Proofs.YtmlfkbkpkgaefaaGreatDoor.Tic
open Go.Proofs.YtmlfkbkpkgaefaaGreatDoor.TicRow
open Go.Proofs.YtmlfkbkpkgaefaaGreatDoor.Sts
open Go.Proofs.YtmlfkbkpkgaefaaGreatDoor.Upl
open Go.Proofs.YtmlfkbkpkgaefaaGreatDoor.Sup
open Go.Proofs.YtmlfkbkpkgaefaaGreatDoor.Tab
open Go.Proofs.YtmlfkbkpkgaefaaGreatDoor.TabLaid
open Go.Proofs.YtmlfkbkpkgaefaaGreatDoor.Ctl
open Go.Proofs.YtmlfkbkpkgaefaaGreatDoor.CtlAwake
theorem own : ownKnob Tryz.prog.godebug = none := by kernel_rfl
theorem laidOut : laidOutB Tryz.prog = true := by kernel_rfl
theorem field_of {H : Type} {enc : TypeId × Value → H} {P : Program} {w : World} {base : Nat} {spare : Nat → Bool} {held : Bool} {t : TypeId} {fs : Array Field} {fuel : Nat} {cs : List Value} {x : DataW H × List MemPlace} (ht : P.underlying t = some (.struct fs)) (h : DataW.trod enc P w base spare held fuel t cs = some x) (i : Nat) (f : Field) (hf : fs[i]? = some f) :
    ∃ n y, DataW.trod enc P w base spare held n f.type ((cs.drop f.offset).take (P.cellsOf f.type)) = some y := by
  obtain ⟨xs, n, _, _, _, hlen, hq⟩ := DataW.trod_struct ht h
  have hi : i < xs.length := by
    rw [hlen]
    rcases Nat.lt_or_ge i fs.size with h1 | h1
    · exact h1
    · rw [Array.getElem?_eq_none h1] at hf; cases hf
  exact ⟨n, xs[i], by rw [hq i f hf, List.getElem?_eq_getElem hi]⟩
theorem list24 {l : List Value} (h : l.length = 6) : ∃ c0 c1 c2 c3 c4 c5, l = [c0, c1, c2, c3, c4, c5] := by
  match l, h with
  | [c0, c1, c2, c3, c4, c5], _ => exact ⟨c0, c1, c2, c3, c4, c5, rfl⟩
set_option maxRecDepth 100000 in
theorem open24 {H : Type} {enc : TypeId × Value → H} {w : World} {base : Nat} {spare : Nat → Bool} {held : Bool} {r : Reach} {b0 : Nat} {v : Value} {d : DataW H} {p : List MemPlace} (hv : Value.okWide Tryz.prog w r b0 24 v) (h : DataW.Trod enc Tryz.prog w base spare held 24 v d p) (hlt : ∀ x ∈ p, x.block < w.heap.size) (hsz : (d.weights Tryz.prog 24).all (· ≤ reachBytes) = true) :
    ∃ (x0 : Int) (x1 : Int) (x2 : Int) (x3 : Int) (x4 : Int) (x5 : Value) (l5 : List Go.Proofs.YtmlfkbkpkgaefaaGreatDoor.Ops.FOp), v = .agg #[.int .i64 x0, .int .i64 x1, .int .i64 x2, .int .i64 x3, .int .i64 x4, x5] ∧ (Lit.int .i64 x0).wf = true ∧ (Lit.int .i64 x1).wf = true ∧ (Lit.int .i64 x2).wf = true ∧ (Lit.int .i64 x3).wf = true ∧ (Lit.int .i64 x4).wf = true ∧ Go.Proofs.YtmlfkbkpkgaefaaGreatDoor.DevRow.IsSt w x5 l5 ∧ l5.length * 32 ≤ 140737488351232 ∧ (∀ o ∈ l5, (Lit.int .i64 o.pl).wf = true ∧ o.tx.size ≤ maxLen) := by
  obtain ⟨cs, rfl, hsz0⟩ := okWide_struct Tryz.underlying24 hv
  have hc : Tryz.prog.cellsOf 24 = 6 := by kernel_rfl
  rw [hc] at hsz0
  obtain ⟨l⟩ := cs
  obtain ⟨c0, c1, c2, c3, c4, c5, rfl⟩ := list24 (l := l) (by simpa using hsz0)
  obtain ⟨fuel, hf⟩ := h
  have k0 : Tryz.prog.cellsOf 3 = 1 := by kernel_rfl
  obtain ⟨n0, y0, h0, L0, Z0⟩ := Go.Proofs.YtmlfkbkpkgaefaaGreatDoor.DevRow.field_of2 Tryz.underlying24 hf hlt hsz 0 _ rfl
  have g0 : DataW.trod enc Tryz.prog w base spare held n0 3 [c0] = some y0 := by simpa [Value.cells, k0] using h0
  obtain ⟨x0, e0, _, w0⟩ := DataW.trod_int Tryz.underlying3 g0
  obtain rfl := (List.cons.inj e0).1
  have k1 : Tryz.prog.cellsOf 3 = 1 := by kernel_rfl
  obtain ⟨n1, y1, h1, L1, Z1⟩ := Go.Proofs.YtmlfkbkpkgaefaaGreatDoor.DevRow.field_of2 Tryz.underlying24 hf hlt hsz 1 _ rfl
  have g1 : DataW.trod enc Tryz.prog w base spare held n1 3 [c1] = some y1 := by simpa [Value.cells, k1] using h1
  obtain ⟨x1, e1, _, w1⟩ := DataW.trod_int Tryz.underlying3 g1
  obtain rfl := (List.cons.inj e1).1
  have k2 : Tryz.prog.cellsOf 3 = 1 := by kernel_rfl
  obtain ⟨n2, y2, h2, L2, Z2⟩ := Go.Proofs.YtmlfkbkpkgaefaaGreatDoor.DevRow.field_of2 Tryz.underlying24 hf hlt hsz 2 _ rfl
  have g2 : DataW.trod enc Tryz.prog w base spare held n2 3 [c2] = some y2 := by simpa [Value.cells, k2] using h2
  obtain ⟨x2, e2, _, w2⟩ := DataW.trod_int Tryz.underlying3 g2
  obtain rfl := (List.cons.inj e2).1
  have k3 : Tryz.prog.cellsOf 3 = 1 := by kernel_rfl
  obtain ⟨n3, y3, h3, L3, Z3⟩ := Go.Proofs.YtmlfkbkpkgaefaaGreatDoor.DevRow.field_of2 Tryz.underlying24 hf hlt hsz 3 _ rfl
  have g3 : DataW.trod enc Tryz.prog w base spare held n3 3 [c3] = some y3 := by simpa [Value.cells, k3] using h3
  obtain ⟨x3, e3, _, w3⟩ := DataW.trod_int Tryz.underlying3 g3
  obtain rfl := (List.cons.inj e3).1
  have k4 : Tryz.prog.cellsOf 3 = 1 := by kernel_rfl
  obtain ⟨n4, y4, h4, L4, Z4⟩ := Go.Proofs.YtmlfkbkpkgaefaaGreatDoor.DevRow.field_of2 Tryz.underlying24 hf hlt hsz 4 _ rfl
  have g4 : DataW.trod enc Tryz.prog w base spare held n4 3 [c4] = some y4 := by simpa [Value.cells, k4] using h4
  obtain ⟨x4, e4, _, w4⟩ := DataW.trod_int Tryz.underlying3 g4
  obtain rfl := (List.cons.inj e4).1
  have k5 : Tryz.prog.cellsOf 22 = 1 := by kernel_rfl
  obtain ⟨n5, y5, h5, L5, Z5⟩ := Go.Proofs.YtmlfkbkpkgaefaaGreatDoor.DevRow.field_of2 Tryz.underlying24 hf hlt hsz 5 _ rfl
  have g5 : DataW.trod enc Tryz.prog w base spare held n5 22 [c5] = some y5 := by simpa [Value.cells, k5] using h5
  obtain ⟨x5, l5, e5, i5, z5, s5⟩ := Go.Proofs.YtmlfkbkpkgaefaaGreatDoor.DevRow.open_st Tryz.underlying22 Tryz.underlying86 rfl rfl rfl rfl rfl rfl Tryz.underlying4 Tryz.underlying3 Tryz.underlying9 (by kernel_rfl) (by kernel_rfl) (by kernel_rfl) (by kernel_rfl) (by kernel_rfl) g5 L5 Z5
  obtain rfl := (List.cons.inj e5).1.symm
  exact ⟨x0, x1, x2, x3, x4, x5, l5, rfl, w0, w1, w2, w3, w4, i5, z5, s5⟩
theorem door_met (os : Os) (args : Array Value) : laidMetH Tryz.prog Rows.controlGivesRow.laid ((World.doorLaid Tryz.prog 22 os).forCall (fun _ _ => 0) ⟨#[], args, []⟩).memory :=
  laidMetH_of_parts3 (fuel := 8) (laidMet_of_run' 8 (by kernel_rfl) (by kernel_rfl)) (by kernel_rfl) (by kernel_rfl)

theorem s36 : supB 3 0 6 = true := by decide
theorem tab3 {s : Int} (h0 : 0 ≤ s) (h1 : s ≤ 7) : tabB s 3 = true := by
  unfold tabB
  rw [tok_parts.2 (by omega)]
  rfl
theorem tab2_no {s : Int} (h0 : ¬ s = 0) (h6 : ¬ s = 6) : tabB s 2 = false := by
  cases h : tabB s 2 with
  | false => rfl
  | true => rcases tab_codes h with h | h | h | h | h | h <;> omega
/-- Asking its status. -/
theorem told {f : ByteArray} {d : FDev} (hb : bothB f d = true) (h0 : 0 ≤ d.sa) (h1 : d.sa ≤ 7) : handD f d (supS 3 0 6) ⟨#[]⟩ = getD f d ∧ handB f d (supS 3 0 6) ⟨#[]⟩ = stallB d (getD f d) ∧ handS f d (supS 3 0 6) ⟨#[]⟩ = textS (stallB d (getD f d)) (Ans.ansS (getD f d).su (tkI (getD f d)) (getD f d).sa) := by
  obtain ⟨e1, e2, e3⟩ := hand_is (d := d) (t := ⟨#[]⟩) hb s36 rfl (tab3 h0 h1)
  rw [e1, e2, e3, (done_3 f d 0 6 ⟨#[]⟩).1, (done_3 f d 0 6 ⟨#[]⟩).2]
  exact ⟨rfl, rfl, rfl⟩
/-- Reading back. -/
theorem gives {f : ByteArray} {d : FDev} {b n : Int} (hb : bothB f d = true) (hs : supB 2 b n = true) (ht : tabB d.sa 2 = true) : handD f d (supS 2 b n) ⟨#[]⟩ = giveD f d b n ∧ handB f d (supS 2 b n) ⟨#[]⟩ = stallB d (giveD f d b n) ∧ handS f d (supS 2 b n) ⟨#[]⟩ = textS (stallB d (giveD f d b n)) (giveS f d b n) := by
  obtain ⟨e1, e2, e3⟩ := hand_is (d := d) (t := ⟨#[]⟩) hb hs rfl ht
  rw [e1, e2, e3, (done_2 f d b n ⟨#[]⟩).1, (done_2 f d b n ⟨#[]⟩).2]
  exact ⟨rfl, rfl, rfl⟩
/-- What it tells may be an answer. -/
theorem ans_may {f : ByteArray} {d : FDev} (hb : bothB f d = true) : Ans.errW (Ans.ansB (getD f d).su (tkI (getD f d)) (getD f d).sa) = 0 := by
  have hm : devB (getD f d) = true := by rw [get_ok hb]; exact ask_may (both_parts.1 hb).2
  unfold devB at hm
  simp only [Bool.and_eq_true] at hm
  have h1 := Ans.saB_parts.1 hm.1.1.1.1.1
  have h2 := Ans.stB_parts.1 hm.1.1.1.1.2
  have h3 : 0 ≤ tkI (getD f d) ∧ tkI (getD f d) ≤ 255 := by unfold tkI; omega
  exact Ans.errW_t (Ans.ansB_parts.2 ⟨h2.1, h2.2, h3.1, h3.2, h1.1, h1.2⟩)
theorem ok_give {f : ByteArray} {d : FDev} {b n : Int} (hb : bothB f d = true) (hs : supB 2 b n = true) (h : d.sa = 0 ∨ d.sa = 6) : errV (okU f d b n) = 0 := by
  obtain ⟨_, _, v0, v1, n0, n1⟩ := supB_parts.1 hs
  obtain ⟨h1, h2⟩ := both_parts.1 hb
  exact errV_t (okU_parts.2 ⟨h1, h2, h, ⟨v0, v1⟩, n0, n1⟩)
theorem way_text (d D : FDev) (S : ByteArray) : (stallB d D = true ∧ D.sa = 7 ∧ textS (stallB d D) S = ⟨#[]⟩) ∨ (stallB d D = false ∧ textS (stallB d D) S = S) := by
  cases h : stallB d D with
  | false => exact .inr ⟨rfl, rfl⟩
  | true => exact .inl ⟨rfl, (of_decide_eq_true h).1, rfl⟩
/-- A device and an answer that a call gave, in memory. -/
theorem dev_answer (w : World) (x0 x1 x2 x3 x4 x5 y0 y1 y2 : Value) : Res ((w.alloc (.cells #[x0, x1, x2, x3, x4, x5] 24)).alloc (.cells #[y0, y1, y2] 52)) w.heap.size x0 x1 x2 x3 x4 x5 ∧ (w.heap.size + 1 < ((w.alloc (.cells #[x0, x1, x2, x3, x4, x5] 24)).alloc (.cells #[y0, y1, y2] 52)).heap.size ∧ ((w.alloc (.cells #[x0, x1, x2, x3, x4, x5] 24)).alloc (.cells #[y0, y1, y2] 52)).cell? ⟨w.heap.size + 1, 0, none⟩ = some y0 ∧ ((w.alloc (.cells #[x0, x1, x2, x3, x4, x5] 24)).alloc (.cells #[y0, y1, y2] 52)).cell? ⟨w.heap.size + 1, 1, none⟩ = some y1 ∧ ((w.alloc (.cells #[x0, x1, x2, x3, x4, x5] 24)).alloc (.cells #[y0, y1, y2] 52)).cell? ⟨w.heap.size + 1, 2, none⟩ = some y2 ∧ ∀ i, ((w.alloc (.cells #[x0, x1, x2, x3, x4, x5] 24)).alloc (.cells #[y0, y1, y2] 52)).frozen? ⟨w.heap.size + 1, i, none⟩ = false) ∧ Below w.heap.size w ((w.alloc (.cells #[x0, x1, x2, x3, x4, x5] 24)).alloc (.cells #[y0, y1, y2] 52)) := by
  have hR := SetWalk.resM (w.alloc (.cells #[x0, x1, x2, x3, x4, x5] 24)) y0 y1 y2 52
  rw [show (w.alloc (.cells #[x0, x1, x2, x3, x4, x5] 24)).heap.size = w.heap.size + 1 from by simp] at hR
  exact ⟨resB (resM w x0 x1 x2 x3 x4 x5 24) (hal _ _), hR, thenB (hal _ _) (hal _ _)⟩
set_option maxRecDepth 100000 in
set_option maxHeartbeats 8000000 in
theorem walk (a0 : ByteArray) (a1_0 : Int) (a1_1 : Int) (a1_2 : Int) (a1_3 : Int) (a1_4 : Int) (a1_5 : Value) (l1_5 : List Go.Proofs.YtmlfkbkpkgaefaaGreatDoor.Ops.FOp) (a2 : Int) (w : World) (w0 : a0.size ≤ maxLen) (w1_0 : (Lit.int .i64 a1_0).wf = true) (w1_1 : (Lit.int .i64 a1_1).wf = true) (w1_2 : (Lit.int .i64 a1_2).wf = true) (w1_3 : (Lit.int .i64 a1_3).wf = true) (w1_4 : (Lit.int .i64 a1_4).wf = true) (i1_5 : Go.Proofs.YtmlfkbkpkgaefaaGreatDoor.DevRow.IsSt w a1_5 l1_5) (z1_5 : l1_5.length * 32 ≤ 140737488351232) (s1_5 : ∀ o ∈ l1_5, (Lit.int .i64 o.pl).wf = true ∧ o.tx.size ≤ maxLen) (w2 : (Lit.int .i64 a2).wf = true) (hL : laidMetH Tryz.prog Rows.controlGivesRow.laid w) :
    Calls Tryz.prog 6 #[.string a0, .agg #[.int .i64 a1_0, .int .i64 a1_1, .int .i64 a1_2, .int .i64 a1_3, .int .i64 a1_4, a1_5], .int .i64 a2] w fun e w' => e = .returned (.bool true) ∧ Below w.heap.size w w' := by
  have HT := hide (tab_of_laid hL (by kernel_rfl) (List.mem_singleton.2 rfl))
  clear hL
  obtain ⟨k, hk, mk⟩ : ∃ k : Nat, k < 33 ∧ (IntKind.u64.wrap a2).tmod 33 = (k : Int) := by
    have eu : IntKind.u64.wrap a2 = a2 % 18446744073709551616 := by simp [IntKind.wrap, IntKind.bits, IntKind.signed]
    rw [eu, Int.tmod_eq_emod_of_nonneg (by omega)]
    exact ⟨(a2 % 18446744073709551616 % 33).toNat, by omega, by omega⟩
  obtain ⟨q, hq, mq⟩ : ∃ q : Nat, q ≤ 65535 ∧ bits .and .i64 a1_2 65535 = (q : Int) := mask_i64 a1_2 65535 (by omega)
  have hsup : supB 2 (q : Int) (k : Int) = true := supB_parts.2 (by omega)
  have P2 := hide (fun w => set_put hsup w)
  have P3 := hide (fun w => set_put s36 w)
  have C1 := hide fun v w' h g => CtlHand.hand_any a0 ⟨a1_0, a1_1, a1_2, a1_3, a1_4, l1_5⟩ v (supS 2 (q : Int) (k : Int)) ⟨#[]⟩ w' h g
  have C2 := hide fun v w' h g => CtlHand.hand_any a0 ⟨a1_0, a1_1, a1_2, a1_3, a1_4, l1_5⟩ v (supS 3 0 6) ⟨#[]⟩ w' h g
  have b1 := SetWalk.build_set
  have b5 := build_cn
  unfold CtlHand.Handed at C1 C2
  have hB := hal w (.cells #[.int .i64 a1_0, .int .i64 a1_1, .int .i64 a1_2, .int .i64 a1_3, .int .i64 a1_4, a1_5] 24)
  have hX := resM w (.int .i64 a1_0) (.int .i64 a1_1) (.int .i64 a1_2) (.int .i64 a1_3) (.int .i64 a1_4) a1_5 24
  have hD := i1_5.below hB
  obtain ⟨a, ca, rfl, _, _⟩ := i1_5
  cases hb : bothB a0 ⟨a1_0, a1_1, a1_2, a1_3, a1_4, l1_5⟩ with
  | false =>
    obtain ⟨e1, e2, e3⟩ := hand_no (f := a0) (d := ⟨a1_0, a1_1, a1_2, a1_3, a1_4, l1_5⟩) (supS 2 (q : Int) (k : Int)) ⟨#[]⟩ hb
    obtain ⟨e4, e5, e6⟩ := hand_no (f := a0) (d := ⟨a1_0, a1_1, a1_2, a1_3, a1_4, l1_5⟩) (supS 3 0 6) ⟨#[]⟩ hb
    rw [e1, e2, e3, errC_f hb] at C1
    rw [e4, e5, e6, errC_f hb] at C2
    unfold newD at C1 C2
    clear e1 e2 e3 e4 e5 e6 hb hsup
    dsimp only at C1 C2
    generalize supS 2 (q : Int) (k : Int) = S at *
    generalize supS 3 0 6 = S3 at *
    go_enter Tryz.func6, Tryz.ntmps6
    go_upto_region 5 with (first | (go_at_call 13; refine (CtlAwake.awake_any _ (HT.out.below hB)).mono ?_; rintro e u1 ⟨rfl, hb⟩; replace hB := thenB hB hb; replace hX := resB hX hb; replace hD := hD.below hb; clear hb) | (go_at_call 14; refine (P2.out _).mono ?_; rintro e u2 ⟨rfl, hb⟩; replace hB := thenB hB hb; replace hX := resB hX hb; replace hD := hD.below hb; clear hb))
    go_upto_region 6 with (go_at_call 14; refine (P3.out _).mono ?_; rintro e u3 ⟨rfl, hb⟩; replace hB := thenB hB hb; replace hX := resB hX hb; replace hD := hD.below hb; clear hb)
    clear mk P2 P3
    go_wp2_with fail
    refine (C1.out _ _ hD (HT.out.below hB)).mono ?_; rintro e u5 ⟨v1, rfl, ho1, hb⟩; replace hB := thenB hB hb; replace hX := resB hX hb; replace hD := hD.below hb; clear hb C1
    have hI := ho1.is
    obtain ⟨p1, q1, rfl⟩ := ho1.form
    clear ho1
    obtain ⟨hQ, hQr, hn1⟩ := dev_reply u5 (.int .i64 0) (.int .i64 0) (.int .i64 0) (.int .i64 0) (.int .i64 0) (.slice p1 0 q1) (.bool false) (.bool false) (.string ⟨#[]⟩)
    replace hB := thenB hB hn1
    replace hX := resB hX hn1
    replace hD := hD.below hn1
    replace hI := hI.below hn1
    clear hn1
    go_upto_region 7 with fail
    generalize (u5.alloc _).alloc _ = W1 at *
    generalize u5.heap.size = G1 at *
    go_wp2_with fail
    refine (C2.out _ _ hD (HT.out.below hB)).mono ?_; rintro e u6 ⟨v2, rfl, ho2, hb⟩; replace hB := thenB hB hb; replace hX := resB hX hb; replace hD := hD.below hb; replace hQ := resB hQ hb; replace hQr := SetWalk.resB hQr hb; replace hI := hI.below hb; clear hb C2 HT
    have hJ := ho2.is
    obtain ⟨p2, q2, rfl⟩ := ho2.form
    clear ho2
    obtain ⟨hR, hRr, hn2⟩ := dev_reply u6 (.int .i64 0) (.int .i64 0) (.int .i64 0) (.int .i64 0) (.int .i64 0) (.slice p2 0 q2) (.bool false) (.bool false) (.string ⟨#[]⟩)
    replace hB := thenB hB hn2
    replace hX := resB hX hn2
    replace hD := hD.below hn2
    replace hQ := resB hQ hn2
    replace hQr := SetWalk.resB hQr hn2
    replace hI := hI.below hn2
    replace hJ := hJ.below hn2
    clear hn2
    go_upto_region 8 with fail
    generalize (u6.alloc _).alloc _ = W2 at *
    generalize u6.heap.size = G2 at *
    go_wp2_with (go_at_call 11; refine (num_any _ _).mono ?_; rintro e W2 ⟨rfl, rfl⟩)
    go_ret
    exact ⟨rfl, hB⟩
  | true =>
    have h07 : 0 ≤ a1_0 ∧ a1_0 ≤ 7 := by
      have h := (both_parts.1 hb).2
      unfold devB at h
      simp only [Bool.and_eq_true] at h
      exact Ans.saB_parts.1 h.1.1.1.1.1
    obtain ⟨h0, h7⟩ := h07
    by_cases g0 : a1_0 = 0
    · have hsa := g0
      have ht : tabB a1_0 2 = true := by rw [g0]; rfl
      clear g0
      have hz : a1_0 = 0 ∨ a1_0 = 6 := by omega
      obtain ⟨e1, e2, e3⟩ := gives (f := a0) (d := ⟨a1_0, a1_1, a1_2, a1_3, a1_4, l1_5⟩) hb hsup ht
      rw [e1, e2, e3, errC_t hb] at C1
      clear e1 e2 e3 ht
      have C6 := hide fun v w' h => UplRef.refUpload_any a0 ⟨a1_0, a1_1, a1_2, a1_3, a1_4, l1_5⟩ v (q : Int) (k : Int) w' h
      rw [ok_give (d := ⟨a1_0, a1_1, a1_2, a1_3, a1_4, l1_5⟩) hb hsup hz] at C6
      unfold UplRef.RefGiven at C6
      have C7 := hide fun u v w' h g => sameDev_yes (giveD a0 ⟨a1_0, a1_1, a1_2, a1_3, a1_4, l1_5⟩ (q : Int) (k : Int)) u v w' h g
      have HW := hide (way_text ⟨a1_0, a1_1, a1_2, a1_3, a1_4, l1_5⟩ (giveD a0 ⟨a1_0, a1_1, a1_2, a1_3, a1_4, l1_5⟩ (q : Int) (k : Int)) (giveS a0 ⟨a1_0, a1_1, a1_2, a1_3, a1_4, l1_5⟩ (q : Int) (k : Int)))
      have C3 := hide fun v w' h => StsRef.refGet_any a0 ⟨a1_0, a1_1, a1_2, a1_3, a1_4, l1_5⟩ v w' h
      have C4 := hide fun w' => AnsRef.refPut_any (getD a0 ⟨a1_0, a1_1, a1_2, a1_3, a1_4, l1_5⟩).su (tkI (getD a0 ⟨a1_0, a1_1, a1_2, a1_3, a1_4, l1_5⟩)) (getD a0 ⟨a1_0, a1_1, a1_2, a1_3, a1_4, l1_5⟩).sa w'
      have C5 := hide fun u v w' h g => sameDev_yes (getD a0 ⟨a1_0, a1_1, a1_2, a1_3, a1_4, l1_5⟩) u v w' h g
      obtain ⟨e4, e5, e6⟩ := told hb h0 h7
      rw [e4, e5, e6, errC_t hb] at C2
      rw [ans_may hb] at C4
      rw [show Sts.errT (bothB a0 ⟨a1_0, a1_1, a1_2, a1_3, a1_4, l1_5⟩) = 0 from Sts.errT_t hb] at C3
      unfold StsRef.RefGot at C3
      clear e4 e5 e6
      have HW2 := hide (way_text ⟨a1_0, a1_1, a1_2, a1_3, a1_4, l1_5⟩ (getD a0 ⟨a1_0, a1_1, a1_2, a1_3, a1_4, l1_5⟩) (Ans.ansS (getD a0 ⟨a1_0, a1_1, a1_2, a1_3, a1_4, l1_5⟩).su (tkI (getD a0 ⟨a1_0, a1_1, a1_2, a1_3, a1_4, l1_5⟩)) (getD a0 ⟨a1_0, a1_1, a1_2, a1_3, a1_4, l1_5⟩).sa))
      generalize textS (stallB ⟨a1_0, a1_1, a1_2, a1_3, a1_4, l1_5⟩ (getD a0 ⟨a1_0, a1_1, a1_2, a1_3, a1_4, l1_5⟩)) (Ans.ansS (getD a0 ⟨a1_0, a1_1, a1_2, a1_3, a1_4, l1_5⟩).su (tkI (getD a0 ⟨a1_0, a1_1, a1_2, a1_3, a1_4, l1_5⟩)) (getD a0 ⟨a1_0, a1_1, a1_2, a1_3, a1_4, l1_5⟩).sa) = T2 at *
      generalize stallB ⟨a1_0, a1_1, a1_2, a1_3, a1_4, l1_5⟩ (getD a0 ⟨a1_0, a1_1, a1_2, a1_3, a1_4, l1_5⟩) = ST2 at *
      generalize Ans.ansS (getD a0 ⟨a1_0, a1_1, a1_2, a1_3, a1_4, l1_5⟩).su (tkI (getD a0 ⟨a1_0, a1_1, a1_2, a1_3, a1_4, l1_5⟩)) (getD a0 ⟨a1_0, a1_1, a1_2, a1_3, a1_4, l1_5⟩).sa = AS at *
      generalize tkI (getD a0 ⟨a1_0, a1_1, a1_2, a1_3, a1_4, l1_5⟩) = K at *
      generalize getD a0 ⟨a1_0, a1_1, a1_2, a1_3, a1_4, l1_5⟩ = D2 at *
      obtain ⟨ya, yu, yn, yg, yl, yo⟩ := D2
      have f9 : (AS.toList != AS.toList) = false := bne_self_eq_false _
      generalize textS (stallB ⟨a1_0, a1_1, a1_2, a1_3, a1_4, l1_5⟩ (giveD a0 ⟨a1_0, a1_1, a1_2, a1_3, a1_4, l1_5⟩ (q : Int) (k : Int))) (giveS a0 ⟨a1_0, a1_1, a1_2, a1_3, a1_4, l1_5⟩ (q : Int) (k : Int)) = T at *
      generalize stallB ⟨a1_0, a1_1, a1_2, a1_3, a1_4, l1_5⟩ (giveD a0 ⟨a1_0, a1_1, a1_2, a1_3, a1_4, l1_5⟩ (q : Int) (k : Int)) = ST at *
      generalize giveS a0 ⟨a1_0, a1_1, a1_2, a1_3, a1_4, l1_5⟩ (q : Int) (k : Int) = GS at *
      generalize giveD a0 ⟨a1_0, a1_1, a1_2, a1_3, a1_4, l1_5⟩ (q : Int) (k : Int) = D at *
      obtain ⟨xa, xu, xn, xg, xl, xo⟩ := D
      have f8 : (GS.toList == GS.toList) = true := beq_self_eq_true _
      clear hb hsup h0 h7 hz
      dsimp only at C1 C2 C3 C4 C5 C6 C7 HW
      subst hsa
      generalize supS 2 (q : Int) (k : Int) = S at *
      generalize supS 3 0 6 = S3 at *
      go_enter Tryz.func6, Tryz.ntmps6
      go_upto_region 5 with (first | (go_at_call 13; refine (CtlAwake.awake_any _ (HT.out.below hB)).mono ?_; rintro e u1 ⟨rfl, hb⟩; replace hB := thenB hB hb; replace hX := resB hX hb; replace hD := hD.below hb; clear hb) | (go_at_call 14; refine (P2.out _).mono ?_; rintro e u2 ⟨rfl, hb⟩; replace hB := thenB hB hb; replace hX := resB hX hb; replace hD := hD.below hb; clear hb))
      go_upto_region 6 with (go_at_call 14; refine (P3.out _).mono ?_; rintro e u3 ⟨rfl, hb⟩; replace hB := thenB hB hb; replace hX := resB hX hb; replace hD := hD.below hb; clear hb)
      clear mk P2 P3
      go_wp2_with fail
      refine (C1.out _ _ hD (HT.out.below hB)).mono ?_; rintro e u5 ⟨v1, rfl, ho1, hb⟩; replace hB := thenB hB hb; replace hX := resB hX hb; replace hD := hD.below hb; clear hb C1
      have hI := ho1.is
      obtain ⟨p1, q1, rfl⟩ := ho1.form
      clear ho1
      obtain ⟨hQ, hQr, hn1⟩ := dev_reply u5 (.int .i64 xa) (.int .i64 xu) (.int .i64 xn) (.int .i64 xg) (.int .i64 xl) (.slice p1 xo.length q1) (.bool false) (.bool ST) (.string T)
      replace hB := thenB hB hn1
      replace hX := resB hX hn1
      replace hD := hD.below hn1
      replace hI := hI.below hn1
      clear hn1
      go_upto_region 7 with fail
      generalize (u5.alloc _).alloc _ = W1 at *
      generalize u5.heap.size = G1 at *
      go_wp2_with fail
      refine (C2.out _ _ hD (HT.out.below hB)).mono ?_; rintro e u6 ⟨v2, rfl, ho2, hb⟩; replace hB := thenB hB hb; replace hX := resB hX hb; replace hD := hD.below hb; replace hQ := resB hQ hb; replace hQr := SetWalk.resB hQr hb; replace hI := hI.below hb; clear hb C2 HT
      have hJ := ho2.is
      obtain ⟨p2, q2, rfl⟩ := ho2.form
      clear ho2
      obtain ⟨hR, hRr, hn2⟩ := dev_reply u6 (.int .i64 ya) (.int .i64 yu) (.int .i64 yn) (.int .i64 yg) (.int .i64 yl) (.slice p2 yo.length q2) (.bool false) (.bool ST2) (.string T2)
      replace hB := thenB hB hn2
      replace hX := resB hX hn2
      replace hD := hD.below hn2
      replace hQ := resB hQ hn2
      replace hQr := SetWalk.resB hQr hn2
      replace hI := hI.below hn2
      replace hJ := hJ.below hn2
      clear hn2
      go_upto_region 8 with fail
      generalize (u6.alloc _).alloc _ = W2 at *
      generalize u6.heap.size = G2 at *
      go_upto_region 10 with (go_at_call 11; refine (num_any _ _).mono ?_; rintro e W2 ⟨rfl, rfl⟩)
      go_wp2_with fail
      refine (C3.out _ _ hD).mono ?_; rintro e u7 ⟨v3, rfl, hK, hb⟩; replace hB := thenB hB hb; replace hX := resB hX hb; replace hD := hD.below hb; replace hQ := resB hQ hb; replace hQr := SetWalk.resB hQr hb; replace hR := resB hR hb; replace hRr := SetWalk.resB hRr hb; replace hI := hI.below hb; replace hJ := hJ.below hb; clear hb C3
      obtain ⟨p3, q3, rfl, _, _⟩ := id hK
      obtain ⟨hF, hFr, hn3⟩ := dev_answer u7 (.int .i64 ya) (.int .i64 yu) (.int .i64 yn) (.int .i64 yg) (.int .i64 yl) (.slice p3 yo.length q3) (.int .i64 yu) (.int .i64 K) (.int .i64 ya)
      replace hB := thenB hB hn3
      replace hX := resB hX hn3
      replace hD := hD.below hn3
      replace hQ := resB hQ hn3
      replace hQr := SetWalk.resB hQr hn3
      replace hR := resB hR hn3
      replace hRr := SetWalk.resB hRr hn3
      replace hI := hI.below hn3
      replace hJ := hJ.below hn3
      replace hK := hK.below hn3
      clear hn3
      go_upto_region 11 with fail
      generalize (u7.alloc _).alloc _ = W3 at *
      generalize u7.heap.size = G3 at *
      go_wp2_with fail
      refine (C4.out _).mono ?_; rintro e u8 ⟨rfl, hb⟩; replace hB := thenB hB hb; replace hX := resB hX hb; replace hD := hD.below hb; replace hQ := resB hQ hb; replace hQr := SetWalk.resB hQr hb; replace hR := resB hR hb; replace hRr := SetWalk.resB hRr hb; replace hI := hI.below hb; replace hJ := hJ.below hb; replace hK := hK.below hb; replace hF := resB hF hb; clear hb C4 hFr
      go_upto_region 12 with fail
      go_wp2_with fail
      refine (C5.out _ _ _ hJ hK).mono ?_; rintro e u9 ⟨rfl, hb⟩; replace hB := thenB hB hb; replace hX := resB hX hb; replace hD := hD.below hb; replace hQ := resB hQ hb; replace hQr := SetWalk.resB hQr hb; replace hRr := SetWalk.resB hRr hb; replace hI := hI.below hb; clear hb C5 hJ hK hR hF
      rcases HW2.out with ⟨rfl, _, rfl⟩ | ⟨rfl, rfl⟩
      · clear HW2 f9
        go_upto_region 16 with fail
        go_wp2_with fail
        refine (C6.out _ _ hD).mono ?_; rintro e u10 ⟨v4, rfl, hM, hb⟩; replace hB := thenB hB hb; replace hQ := resB hQ hb; replace hQr := SetWalk.resB hQr hb; replace hI := hI.below hb; clear hb C6 hD hX hRr mq
        obtain ⟨p4, q4, rfl, _, _⟩ := id hM
        have hU := resM u10 (.int .i64 xa) (.int .i64 xu) (.int .i64 xn) (.int .i64 xg) (.int .i64 xl) (.slice p4 xo.length q4) 24
        have hn4 := hal u10 (.cells #[.int .i64 xa, .int .i64 xu, .int .i64 xn, .int .i64 xg, .int .i64 xl, .slice p4 xo.length q4] 24)
        replace hB := thenB hB hn4
        replace hQ := resB hQ hn4
        replace hQr := SetWalk.resB hQr hn4
        replace hI := hI.below hn4
        replace hM := hM.below hn4
        clear hn4
        go_upto_region 17 with fail
        generalize u10.alloc _ = W4 at *
        generalize u10.heap.size = G4 at *
        go_wp2_with fail
        refine (C7.out _ _ _ hI hM).mono ?_; rintro e u11 ⟨rfl, hb⟩; replace hB := thenB hB hb; replace hQr := SetWalk.resB hQr hb; replace hU := resB hU hb; clear hb C7 hI hM hQ
        rcases HW.out with ⟨rfl, rfl, rfl⟩ | ⟨rfl, rfl⟩
        · clear HW f8
          go_wp2_with fail
          go_ret
          exact ⟨rfl, hB⟩
        · clear HW
          go_wp2_with fail
          go_ret
          exact ⟨rfl, hB⟩
      · clear HW2
        go_upto_region 16 with fail
        go_wp2_with fail
        refine (C6.out _ _ hD).mono ?_; rintro e u10 ⟨v4, rfl, hM, hb⟩; replace hB := thenB hB hb; replace hQ := resB hQ hb; replace hQr := SetWalk.resB hQr hb; replace hI := hI.below hb; clear hb C6 hD hX hRr mq
        obtain ⟨p4, q4, rfl, _, _⟩ := id hM
        have hU := resM u10 (.int .i64 xa) (.int .i64 xu) (.int .i64 xn) (.int .i64 xg) (.int .i64 xl) (.slice p4 xo.length q4) 24
        have hn4 := hal u10 (.cells #[.int .i64 xa, .int .i64 xu, .int .i64 xn, .int .i64 xg, .int .i64 xl, .slice p4 xo.length q4] 24)
        replace hB := thenB hB hn4
        replace hQ := resB hQ hn4
        replace hQr := SetWalk.resB hQr hn4
        replace hI := hI.below hn4
        replace hM := hM.below hn4
        clear hn4
        go_upto_region 17 with fail
        generalize u10.alloc _ = W4 at *
        generalize u10.heap.size = G4 at *
        go_wp2_with fail
        refine (C7.out _ _ _ hI hM).mono ?_; rintro e u11 ⟨rfl, hb⟩; replace hB := thenB hB hb; replace hQr := SetWalk.resB hQr hb; replace hU := resB hU hb; clear hb C7 hI hM hQ
        rcases HW.out with ⟨rfl, rfl, rfl⟩ | ⟨rfl, rfl⟩
        · clear HW f8
          go_wp2_with fail
          go_ret
          exact ⟨rfl, hB⟩
        · clear HW
          go_wp2_with fail
          go_ret
          exact ⟨rfl, hB⟩
    by_cases g6 : a1_0 = 6
    · have hsa := g6
      have ht : tabB a1_0 2 = true := by rw [g6]; rfl
      clear g0 g6
      have hz : a1_0 = 0 ∨ a1_0 = 6 := by omega
      obtain ⟨e1, e2, e3⟩ := gives (f := a0) (d := ⟨a1_0, a1_1, a1_2, a1_3, a1_4, l1_5⟩) hb hsup ht
      rw [e1, e2, e3, errC_t hb] at C1
      clear e1 e2 e3 ht
      have C6 := hide fun v w' h => UplRef.refUpload_any a0 ⟨a1_0, a1_1, a1_2, a1_3, a1_4, l1_5⟩ v (q : Int) (k : Int) w' h
      rw [ok_give (d := ⟨a1_0, a1_1, a1_2, a1_3, a1_4, l1_5⟩) hb hsup hz] at C6
      unfold UplRef.RefGiven at C6
      have C7 := hide fun u v w' h g => sameDev_yes (giveD a0 ⟨a1_0, a1_1, a1_2, a1_3, a1_4, l1_5⟩ (q : Int) (k : Int)) u v w' h g
      have HW := hide (way_text ⟨a1_0, a1_1, a1_2, a1_3, a1_4, l1_5⟩ (giveD a0 ⟨a1_0, a1_1, a1_2, a1_3, a1_4, l1_5⟩ (q : Int) (k : Int)) (giveS a0 ⟨a1_0, a1_1, a1_2, a1_3, a1_4, l1_5⟩ (q : Int) (k : Int)))
      have C3 := hide fun v w' h => StsRef.refGet_any a0 ⟨a1_0, a1_1, a1_2, a1_3, a1_4, l1_5⟩ v w' h
      have C4 := hide fun w' => AnsRef.refPut_any (getD a0 ⟨a1_0, a1_1, a1_2, a1_3, a1_4, l1_5⟩).su (tkI (getD a0 ⟨a1_0, a1_1, a1_2, a1_3, a1_4, l1_5⟩)) (getD a0 ⟨a1_0, a1_1, a1_2, a1_3, a1_4, l1_5⟩).sa w'
      have C5 := hide fun u v w' h g => sameDev_yes (getD a0 ⟨a1_0, a1_1, a1_2, a1_3, a1_4, l1_5⟩) u v w' h g
      obtain ⟨e4, e5, e6⟩ := told hb h0 h7
      rw [e4, e5, e6, errC_t hb] at C2
      rw [ans_may hb] at C4
      rw [show Sts.errT (bothB a0 ⟨a1_0, a1_1, a1_2, a1_3, a1_4, l1_5⟩) = 0 from Sts.errT_t hb] at C3
      unfold StsRef.RefGot at C3
      clear e4 e5 e6
      have HW2 := hide (way_text ⟨a1_0, a1_1, a1_2, a1_3, a1_4, l1_5⟩ (getD a0 ⟨a1_0, a1_1, a1_2, a1_3, a1_4, l1_5⟩) (Ans.ansS (getD a0 ⟨a1_0, a1_1, a1_2, a1_3, a1_4, l1_5⟩).su (tkI (getD a0 ⟨a1_0, a1_1, a1_2, a1_3, a1_4, l1_5⟩)) (getD a0 ⟨a1_0, a1_1, a1_2, a1_3, a1_4, l1_5⟩).sa))
      generalize textS (stallB ⟨a1_0, a1_1, a1_2, a1_3, a1_4, l1_5⟩ (getD a0 ⟨a1_0, a1_1, a1_2, a1_3, a1_4, l1_5⟩)) (Ans.ansS (getD a0 ⟨a1_0, a1_1, a1_2, a1_3, a1_4, l1_5⟩).su (tkI (getD a0 ⟨a1_0, a1_1, a1_2, a1_3, a1_4, l1_5⟩)) (getD a0 ⟨a1_0, a1_1, a1_2, a1_3, a1_4, l1_5⟩).sa) = T2 at *
      generalize stallB ⟨a1_0, a1_1, a1_2, a1_3, a1_4, l1_5⟩ (getD a0 ⟨a1_0, a1_1, a1_2, a1_3, a1_4, l1_5⟩) = ST2 at *
      generalize Ans.ansS (getD a0 ⟨a1_0, a1_1, a1_2, a1_3, a1_4, l1_5⟩).su (tkI (getD a0 ⟨a1_0, a1_1, a1_2, a1_3, a1_4, l1_5⟩)) (getD a0 ⟨a1_0, a1_1, a1_2, a1_3, a1_4, l1_5⟩).sa = AS at *
      generalize tkI (getD a0 ⟨a1_0, a1_1, a1_2, a1_3, a1_4, l1_5⟩) = K at *
      generalize getD a0 ⟨a1_0, a1_1, a1_2, a1_3, a1_4, l1_5⟩ = D2 at *
      obtain ⟨ya, yu, yn, yg, yl, yo⟩ := D2
      have f9 : (AS.toList != AS.toList) = false := bne_self_eq_false _
      generalize textS (stallB ⟨a1_0, a1_1, a1_2, a1_3, a1_4, l1_5⟩ (giveD a0 ⟨a1_0, a1_1, a1_2, a1_3, a1_4, l1_5⟩ (q : Int) (k : Int))) (giveS a0 ⟨a1_0, a1_1, a1_2, a1_3, a1_4, l1_5⟩ (q : Int) (k : Int)) = T at *
      generalize stallB ⟨a1_0, a1_1, a1_2, a1_3, a1_4, l1_5⟩ (giveD a0 ⟨a1_0, a1_1, a1_2, a1_3, a1_4, l1_5⟩ (q : Int) (k : Int)) = ST at *
      generalize giveS a0 ⟨a1_0, a1_1, a1_2, a1_3, a1_4, l1_5⟩ (q : Int) (k : Int) = GS at *
      generalize giveD a0 ⟨a1_0, a1_1, a1_2, a1_3, a1_4, l1_5⟩ (q : Int) (k : Int) = D at *
      obtain ⟨xa, xu, xn, xg, xl, xo⟩ := D
      have f8 : (GS.toList == GS.toList) = true := beq_self_eq_true _
      clear hb hsup h0 h7 hz
      dsimp only at C1 C2 C3 C4 C5 C6 C7 HW
      subst hsa
      generalize supS 2 (q : Int) (k : Int) = S at *
      generalize supS 3 0 6 = S3 at *
      go_enter Tryz.func6, Tryz.ntmps6
      go_upto_region 5 with (first | (go_at_call 13; refine (CtlAwake.awake_any _ (HT.out.below hB)).mono ?_; rintro e u1 ⟨rfl, hb⟩; replace hB := thenB hB hb; replace hX := resB hX hb; replace hD := hD.below hb; clear hb) | (go_at_call 14; refine (P2.out _).mono ?_; rintro e u2 ⟨rfl, hb⟩; replace hB := thenB hB hb; replace hX := resB hX hb; replace hD := hD.below hb; clear hb))
      go_upto_region 6 with (go_at_call 14; refine (P3.out _).mono ?_; rintro e u3 ⟨rfl, hb⟩; replace hB := thenB hB hb; replace hX := resB hX hb; replace hD := hD.below hb; clear hb)
      clear mk P2 P3
      go_wp2_with fail
      refine (C1.out _ _ hD (HT.out.below hB)).mono ?_; rintro e u5 ⟨v1, rfl, ho1, hb⟩; replace hB := thenB hB hb; replace hX := resB hX hb; replace hD := hD.below hb; clear hb C1
      have hI := ho1.is
      obtain ⟨p1, q1, rfl⟩ := ho1.form
      clear ho1
      obtain ⟨hQ, hQr, hn1⟩ := dev_reply u5 (.int .i64 xa) (.int .i64 xu) (.int .i64 xn) (.int .i64 xg) (.int .i64 xl) (.slice p1 xo.length q1) (.bool false) (.bool ST) (.string T)
      replace hB := thenB hB hn1
      replace hX := resB hX hn1
      replace hD := hD.below hn1
      replace hI := hI.below hn1
      clear hn1
      go_upto_region 7 with fail
      generalize (u5.alloc _).alloc _ = W1 at *
      generalize u5.heap.size = G1 at *
      go_wp2_with fail
      refine (C2.out _ _ hD (HT.out.below hB)).mono ?_; rintro e u6 ⟨v2, rfl, ho2, hb⟩; replace hB := thenB hB hb; replace hX := resB hX hb; replace hD := hD.below hb; replace hQ := resB hQ hb; replace hQr := SetWalk.resB hQr hb; replace hI := hI.below hb; clear hb C2 HT
      have hJ := ho2.is
      obtain ⟨p2, q2, rfl⟩ := ho2.form
      clear ho2
      obtain ⟨hR, hRr, hn2⟩ := dev_reply u6 (.int .i64 ya) (.int .i64 yu) (.int .i64 yn) (.int .i64 yg) (.int .i64 yl) (.slice p2 yo.length q2) (.bool false) (.bool ST2) (.string T2)
      replace hB := thenB hB hn2
      replace hX := resB hX hn2
      replace hD := hD.below hn2
      replace hQ := resB hQ hn2
      replace hQr := SetWalk.resB hQr hn2
      replace hI := hI.below hn2
      replace hJ := hJ.below hn2
      clear hn2
      go_upto_region 8 with fail
      generalize (u6.alloc _).alloc _ = W2 at *
      generalize u6.heap.size = G2 at *
      go_upto_region 10 with (go_at_call 11; refine (num_any _ _).mono ?_; rintro e W2 ⟨rfl, rfl⟩)
      go_wp2_with fail
      refine (C3.out _ _ hD).mono ?_; rintro e u7 ⟨v3, rfl, hK, hb⟩; replace hB := thenB hB hb; replace hX := resB hX hb; replace hD := hD.below hb; replace hQ := resB hQ hb; replace hQr := SetWalk.resB hQr hb; replace hR := resB hR hb; replace hRr := SetWalk.resB hRr hb; replace hI := hI.below hb; replace hJ := hJ.below hb; clear hb C3
      obtain ⟨p3, q3, rfl, _, _⟩ := id hK
      obtain ⟨hF, hFr, hn3⟩ := dev_answer u7 (.int .i64 ya) (.int .i64 yu) (.int .i64 yn) (.int .i64 yg) (.int .i64 yl) (.slice p3 yo.length q3) (.int .i64 yu) (.int .i64 K) (.int .i64 ya)
      replace hB := thenB hB hn3
      replace hX := resB hX hn3
      replace hD := hD.below hn3
      replace hQ := resB hQ hn3
      replace hQr := SetWalk.resB hQr hn3
      replace hR := resB hR hn3
      replace hRr := SetWalk.resB hRr hn3
      replace hI := hI.below hn3
      replace hJ := hJ.below hn3
      replace hK := hK.below hn3
      clear hn3
      go_upto_region 11 with fail
      generalize (u7.alloc _).alloc _ = W3 at *
      generalize u7.heap.size = G3 at *
      go_wp2_with fail
      refine (C4.out _).mono ?_; rintro e u8 ⟨rfl, hb⟩; replace hB := thenB hB hb; replace hX := resB hX hb; replace hD := hD.below hb; replace hQ := resB hQ hb; replace hQr := SetWalk.resB hQr hb; replace hR := resB hR hb; replace hRr := SetWalk.resB hRr hb; replace hI := hI.below hb; replace hJ := hJ.below hb; replace hK := hK.below hb; replace hF := resB hF hb; clear hb C4 hFr
      go_upto_region 12 with fail
      go_wp2_with fail
      refine (C5.out _ _ _ hJ hK).mono ?_; rintro e u9 ⟨rfl, hb⟩; replace hB := thenB hB hb; replace hX := resB hX hb; replace hD := hD.below hb; replace hQ := resB hQ hb; replace hQr := SetWalk.resB hQr hb; replace hRr := SetWalk.resB hRr hb; replace hI := hI.below hb; clear hb C5 hJ hK hR hF
      rcases HW2.out with ⟨rfl, _, rfl⟩ | ⟨rfl, rfl⟩
      · clear HW2 f9
        go_upto_region 16 with fail
        go_wp2_with fail
        refine (C6.out _ _ hD).mono ?_; rintro e u10 ⟨v4, rfl, hM, hb⟩; replace hB := thenB hB hb; replace hQ := resB hQ hb; replace hQr := SetWalk.resB hQr hb; replace hI := hI.below hb; clear hb C6 hD hX hRr mq
        obtain ⟨p4, q4, rfl, _, _⟩ := id hM
        have hU := resM u10 (.int .i64 xa) (.int .i64 xu) (.int .i64 xn) (.int .i64 xg) (.int .i64 xl) (.slice p4 xo.length q4) 24
        have hn4 := hal u10 (.cells #[.int .i64 xa, .int .i64 xu, .int .i64 xn, .int .i64 xg, .int .i64 xl, .slice p4 xo.length q4] 24)
        replace hB := thenB hB hn4
        replace hQ := resB hQ hn4
        replace hQr := SetWalk.resB hQr hn4
        replace hI := hI.below hn4
        replace hM := hM.below hn4
        clear hn4
        go_upto_region 17 with fail
        generalize u10.alloc _ = W4 at *
        generalize u10.heap.size = G4 at *
        go_wp2_with fail
        refine (C7.out _ _ _ hI hM).mono ?_; rintro e u11 ⟨rfl, hb⟩; replace hB := thenB hB hb; replace hQr := SetWalk.resB hQr hb; replace hU := resB hU hb; clear hb C7 hI hM hQ
        rcases HW.out with ⟨rfl, rfl, rfl⟩ | ⟨rfl, rfl⟩
        · clear HW f8
          go_wp2_with fail
          go_ret
          exact ⟨rfl, hB⟩
        · clear HW
          go_wp2_with fail
          go_ret
          exact ⟨rfl, hB⟩
      · clear HW2
        go_upto_region 16 with fail
        go_wp2_with fail
        refine (C6.out _ _ hD).mono ?_; rintro e u10 ⟨v4, rfl, hM, hb⟩; replace hB := thenB hB hb; replace hQ := resB hQ hb; replace hQr := SetWalk.resB hQr hb; replace hI := hI.below hb; clear hb C6 hD hX hRr mq
        obtain ⟨p4, q4, rfl, _, _⟩ := id hM
        have hU := resM u10 (.int .i64 xa) (.int .i64 xu) (.int .i64 xn) (.int .i64 xg) (.int .i64 xl) (.slice p4 xo.length q4) 24
        have hn4 := hal u10 (.cells #[.int .i64 xa, .int .i64 xu, .int .i64 xn, .int .i64 xg, .int .i64 xl, .slice p4 xo.length q4] 24)
        replace hB := thenB hB hn4
        replace hQ := resB hQ hn4
        replace hQr := SetWalk.resB hQr hn4
        replace hI := hI.below hn4
        replace hM := hM.below hn4
        clear hn4
        go_upto_region 17 with fail
        generalize u10.alloc _ = W4 at *
        generalize u10.heap.size = G4 at *
        go_wp2_with fail
        refine (C7.out _ _ _ hI hM).mono ?_; rintro e u11 ⟨rfl, hb⟩; replace hB := thenB hB hb; replace hQr := SetWalk.resB hQr hb; replace hU := resB hU hb; clear hb C7 hI hM hQ
        rcases HW.out with ⟨rfl, rfl, rfl⟩ | ⟨rfl, rfl⟩
        · clear HW f8
          go_wp2_with fail
          go_ret
          exact ⟨rfl, hB⟩
        · clear HW
          go_wp2_with fail
          go_ret
          exact ⟨rfl, hB⟩
    obtain ⟨e1, e2, e3⟩ := hand_stall (f := a0) (d := ⟨a1_0, a1_1, a1_2, a1_3, a1_4, l1_5⟩) (s := supS 2 (q : Int) (k : Int)) (t := ⟨#[]⟩) hb (go_not hsup (.inr (tab2_no g0 g6)))
    rw [e1, e2, e3, errC_t hb] at C1
    unfold failedD at C1
    clear e1 e2 e3
    have C3 := hide fun v w' h => StsRef.refGet_any a0 ⟨a1_0, a1_1, a1_2, a1_3, a1_4, l1_5⟩ v w' h
    have C4 := hide fun w' => AnsRef.refPut_any (getD a0 ⟨a1_0, a1_1, a1_2, a1_3, a1_4, l1_5⟩).su (tkI (getD a0 ⟨a1_0, a1_1, a1_2, a1_3, a1_4, l1_5⟩)) (getD a0 ⟨a1_0, a1_1, a1_2, a1_3, a1_4, l1_5⟩).sa w'
    have C5 := hide fun u v w' h g => sameDev_yes (getD a0 ⟨a1_0, a1_1, a1_2, a1_3, a1_4, l1_5⟩) u v w' h g
    obtain ⟨e4, e5, e6⟩ := told hb h0 h7
    rw [e4, e5, e6, errC_t hb] at C2
    rw [ans_may hb] at C4
    rw [show Sts.errT (bothB a0 ⟨a1_0, a1_1, a1_2, a1_3, a1_4, l1_5⟩) = 0 from Sts.errT_t hb] at C3
    unfold StsRef.RefGot at C3
    clear e4 e5 e6
    have HW2 := hide (way_text ⟨a1_0, a1_1, a1_2, a1_3, a1_4, l1_5⟩ (getD a0 ⟨a1_0, a1_1, a1_2, a1_3, a1_4, l1_5⟩) (Ans.ansS (getD a0 ⟨a1_0, a1_1, a1_2, a1_3, a1_4, l1_5⟩).su (tkI (getD a0 ⟨a1_0, a1_1, a1_2, a1_3, a1_4, l1_5⟩)) (getD a0 ⟨a1_0, a1_1, a1_2, a1_3, a1_4, l1_5⟩).sa))
    generalize textS (stallB ⟨a1_0, a1_1, a1_2, a1_3, a1_4, l1_5⟩ (getD a0 ⟨a1_0, a1_1, a1_2, a1_3, a1_4, l1_5⟩)) (Ans.ansS (getD a0 ⟨a1_0, a1_1, a1_2, a1_3, a1_4, l1_5⟩).su (tkI (getD a0 ⟨a1_0, a1_1, a1_2, a1_3, a1_4, l1_5⟩)) (getD a0 ⟨a1_0, a1_1, a1_2, a1_3, a1_4, l1_5⟩).sa) = T2 at *
    generalize stallB ⟨a1_0, a1_1, a1_2, a1_3, a1_4, l1_5⟩ (getD a0 ⟨a1_0, a1_1, a1_2, a1_3, a1_4, l1_5⟩) = ST2 at *
    generalize Ans.ansS (getD a0 ⟨a1_0, a1_1, a1_2, a1_3, a1_4, l1_5⟩).su (tkI (getD a0 ⟨a1_0, a1_1, a1_2, a1_3, a1_4, l1_5⟩)) (getD a0 ⟨a1_0, a1_1, a1_2, a1_3, a1_4, l1_5⟩).sa = AS at *
    generalize tkI (getD a0 ⟨a1_0, a1_1, a1_2, a1_3, a1_4, l1_5⟩) = K at *
    generalize getD a0 ⟨a1_0, a1_1, a1_2, a1_3, a1_4, l1_5⟩ = D2 at *
    obtain ⟨ya, yu, yn, yg, yl, yo⟩ := D2
    have f9 : (AS.toList != AS.toList) = false := bne_self_eq_false _
    have n0 := DnlWalk.ne_t g0
    have n6 := DnlWalk.ne_t g6
    clear hb hsup g0 g6 h0 h7
    dsimp only at C1 C2 C3 C4 C5
    generalize supS 2 (q : Int) (k : Int) = S at *
    generalize supS 3 0 6 = S3 at *
    go_enter Tryz.func6, Tryz.ntmps6
    go_upto_region 5 with (first | (go_at_call 13; refine (CtlAwake.awake_any _ (HT.out.below hB)).mono ?_; rintro e u1 ⟨rfl, hb⟩; replace hB := thenB hB hb; replace hX := resB hX hb; replace hD := hD.below hb; clear hb) | (go_at_call 14; refine (P2.out _).mono ?_; rintro e u2 ⟨rfl, hb⟩; replace hB := thenB hB hb; replace hX := resB hX hb; replace hD := hD.below hb; clear hb))
    go_upto_region 6 with (go_at_call 14; refine (P3.out _).mono ?_; rintro e u3 ⟨rfl, hb⟩; replace hB := thenB hB hb; replace hX := resB hX hb; replace hD := hD.below hb; clear hb)
    clear mk P2 P3
    go_wp2_with fail
    refine (C1.out _ _ hD (HT.out.below hB)).mono ?_; rintro e u5 ⟨v1, rfl, ho1, hb⟩; replace hB := thenB hB hb; replace hX := resB hX hb; replace hD := hD.below hb; clear hb C1
    have hI := ho1.is
    obtain ⟨p1, q1, rfl⟩ := ho1.form
    clear ho1
    obtain ⟨hQ, hQr, hn1⟩ := dev_reply u5 (.int .i64 7) (.int .i64 6) (.int .i64 0) (.int .i64 0) (.int .i64 0) (.slice p1 0 q1) (.bool false) (.bool true) (.string ⟨#[]⟩)
    replace hB := thenB hB hn1
    replace hX := resB hX hn1
    replace hD := hD.below hn1
    replace hI := hI.below hn1
    clear hn1
    go_upto_region 7 with fail
    generalize (u5.alloc _).alloc _ = W1 at *
    generalize u5.heap.size = G1 at *
    go_wp2_with fail
    refine (C2.out _ _ hD (HT.out.below hB)).mono ?_; rintro e u6 ⟨v2, rfl, ho2, hb⟩; replace hB := thenB hB hb; replace hX := resB hX hb; replace hD := hD.below hb; replace hQ := resB hQ hb; replace hQr := SetWalk.resB hQr hb; replace hI := hI.below hb; clear hb C2 HT
    have hJ := ho2.is
    obtain ⟨p2, q2, rfl⟩ := ho2.form
    clear ho2
    obtain ⟨hR, hRr, hn2⟩ := dev_reply u6 (.int .i64 ya) (.int .i64 yu) (.int .i64 yn) (.int .i64 yg) (.int .i64 yl) (.slice p2 yo.length q2) (.bool false) (.bool ST2) (.string T2)
    replace hB := thenB hB hn2
    replace hX := resB hX hn2
    replace hD := hD.below hn2
    replace hQ := resB hQ hn2
    replace hQr := SetWalk.resB hQr hn2
    replace hI := hI.below hn2
    replace hJ := hJ.below hn2
    clear hn2
    go_upto_region 8 with fail
    generalize (u6.alloc _).alloc _ = W2 at *
    generalize u6.heap.size = G2 at *
    go_upto_region 10 with (go_at_call 11; refine (num_any _ _).mono ?_; rintro e W2 ⟨rfl, rfl⟩)
    go_wp2_with fail
    refine (C3.out _ _ hD).mono ?_; rintro e u7 ⟨v3, rfl, hK, hb⟩; replace hB := thenB hB hb; replace hX := resB hX hb; replace hD := hD.below hb; replace hQ := resB hQ hb; replace hQr := SetWalk.resB hQr hb; replace hR := resB hR hb; replace hRr := SetWalk.resB hRr hb; replace hI := hI.below hb; replace hJ := hJ.below hb; clear hb C3
    obtain ⟨p3, q3, rfl, _, _⟩ := id hK
    obtain ⟨hF, hFr, hn3⟩ := dev_answer u7 (.int .i64 ya) (.int .i64 yu) (.int .i64 yn) (.int .i64 yg) (.int .i64 yl) (.slice p3 yo.length q3) (.int .i64 yu) (.int .i64 K) (.int .i64 ya)
    replace hB := thenB hB hn3
    replace hX := resB hX hn3
    replace hD := hD.below hn3
    replace hQ := resB hQ hn3
    replace hQr := SetWalk.resB hQr hn3
    replace hR := resB hR hn3
    replace hRr := SetWalk.resB hRr hn3
    replace hI := hI.below hn3
    replace hJ := hJ.below hn3
    replace hK := hK.below hn3
    clear hn3
    go_upto_region 11 with fail
    generalize (u7.alloc _).alloc _ = W3 at *
    generalize u7.heap.size = G3 at *
    go_wp2_with fail
    refine (C4.out _).mono ?_; rintro e u8 ⟨rfl, hb⟩; replace hB := thenB hB hb; replace hX := resB hX hb; replace hD := hD.below hb; replace hQ := resB hQ hb; replace hQr := SetWalk.resB hQr hb; replace hR := resB hR hb; replace hRr := SetWalk.resB hRr hb; replace hI := hI.below hb; replace hJ := hJ.below hb; replace hK := hK.below hb; replace hF := resB hF hb; clear hb C4 hFr
    go_upto_region 12 with fail
    go_wp2_with fail
    refine (C5.out _ _ _ hJ hK).mono ?_; rintro e u9 ⟨rfl, hb⟩; replace hB := thenB hB hb; replace hX := resB hX hb; replace hD := hD.below hb; replace hQ := resB hQ hb; replace hQr := SetWalk.resB hQr hb; replace hRr := SetWalk.resB hRr hb; replace hI := hI.below hb; clear hb C5 hJ hK hR hF
    rcases HW2.out with ⟨rfl, _, rfl⟩ | ⟨rfl, rfl⟩
    · clear HW2 f9
      go_wp2_with fail
      go_ret
      exact ⟨rfl, hB⟩
    · clear HW2
      go_wp2_with fail
      go_ret
      exact ⟨rfl, hB⟩

set_option maxRecDepth 100000 in
theorem lifted (os : Os) (started : os.Started) (H : Type) (enc : TypeId × Value → H) :
    ReturnsInHanded {} Tryz.checked os 6 .any (fun w args => (Rows.controlGivesSpec.pre enc Tryz.prog Tryz.f6 Rows.controlGivesRow.domain false w args ∧ laidMetH Tryz.prog Rows.controlGivesRow.laid w) ∧ sizedMet enc Tryz.prog Tryz.f6 (OpenSpec.ofChange Rows.controlGivesSpec) false w args) (Rows.controlGivesSpec.post enc Tryz.prog Tryz.f6 false true false false) := by
  refine returnsInHanded_of_change_and (C := Tryz.checked) (X := fun w _ => laidMetH Tryz.prog Rows.controlGivesRow.laid w) (fun _ _ _ hh h => h.of_heap hh) own started (by kernel_rfl) Tryz.func6
    (ChangeSpec.witness_shaped (enc := enc) (C := Tryz.checked) (os := os) (X := fun w _ => laidMetH Tryz.prog Rows.controlGivesRow.laid w) false (World.doorLaid Tryz.prog 22 os) #[.string ByteArray.empty, .agg #[.int .i64 0, .int .i64 0, .int .i64 0, .int .i64 0, .int .i64 0, .slice none 0 0], .int .i64 0] 8 rfl (World.shaped_of_RefB (by kernel_rfl) (by kernel_rfl)) (by kernel_rfl) (by kernel_rfl) (by kernel_rfl) (door_met os _)) ?_
  intro W base args ds gs before hval0 hW hcnd hsz0 hL _
  have hval : ∀ (j : Nat) t v, Tryz.f6.params[j]? = some t → args[j]? = some v → Value.okWide Tryz.prog W .any base t v := hval0
  have hW' := hW
  obtain ⟨p, q, hA0, hV, rfl, hfz, hnd⟩ := hW
  have hA : DataW.TrodAll enc Tryz.prog W 0 (fun _ => true) true Tryz.f6.params.toList args.toList ds p := hA0
  have hsz : (DataW.weightsEach Tryz.prog (Tryz.f6.params.toList ++ Rows.controlGivesSpec.plain.varTypes Tryz.prog) (ds ++ gs)).all (· ≤ reachBytes) = true := hsz0
  clear hsz0
  rw [Tryz.params6] at hA hval hsz
  obtain ⟨v0, vs0, d0, ds0, p0, q0, hargs, rfl, rfl, h0, r0⟩ := trodAll_cons hA
  obtain ⟨v1, vs1, d1, ds1, p1, q1, rfl, rfl, rfl, h1, r1⟩ := trodAll_cons r0
  obtain ⟨v2, vs2, d2, ds2, p2, q2, rfl, rfl, rfl, h2, r2⟩ := trodAll_cons r1
  obtain ⟨rfl, rfl, rfl⟩ := trodAll_nil r2
  obtain rfl : args = #[v0, v1, v2] := by cases args; simp_all
  obtain ⟨rfl, rfl⟩ := trodVars_none hV
  obtain ⟨a0, rfl, rfl, rfl, w0⟩ := open_string Tryz.underlying9 (hval 0 9 v0 rfl rfl) h0
  have k1 := h1
  have lt1 : ∀ x ∈ p1, x.block < W.heap.size := by obtain ⟨m, hm⟩ := k1; exact DataW.trod_lt m _ _ _ hm
  obtain ⟨a1_0, a1_1, a1_2, a1_3, a1_4, a1_5, l1_5, rfl, w1_0, w1_1, w1_2, w1_3, w1_4, i1_5, z1_5, s1_5⟩ := open24 (hval 1 24 v1 rfl rfl) h1 lt1 (Go.Proofs.YtmlfkbkpkgaefaaGreatDoor.DevRow.sized_arg hsz (j := 1) rfl rfl)
  obtain ⟨a2, rfl, rfl, rfl, w2⟩ := open_int Tryz.underlying3 (hval 2 3 v2 rfl rfl) h2
  clear hA0 hval0
  refine (walk a0 a1_0 a1_1 a1_2 a1_3 a1_4 a1_5 l1_5 a2 W w0 w1_0 w1_1 w1_2 w1_3 w1_4 i1_5 z1_5 s1_5 w2 hL).mono fun e W' ⟨he, bel⟩ => ?_
  subst he
  exact ⟨_, rfl, _, _, _, [], _, [], hW', (trodAll_cons_mk (shut_bool Tryz.underlying4 _) trodAll_mk0), (trodAll_cons_mk (shut_string Tryz.underlying9 w0) (trodAll_cons_mk (Below.trod laidOut (by kernel_rfl) (of_decide_eq_true (by kernel_rfl)) k1 bel lt1) (trodAll_cons_mk (shut_int Tryz.underlying3 w2) trodAll_mk0))), rfl, bel.frame _, fun h => by cases h⟩

theorem over : Rows.controlGivesRow.holds Tryz.pinned (OpenSpec.ofChange Rows.controlGivesSpec) :=
  OpenClaim.holds_of_wide 6 Tryz.f6 rfl rfl rfl rfl rfl rfl rfl ⟨rfl, rfl, rfl, rfl, rfl⟩ rfl rfl rfl rfl rfl (by kernel_rfl) Tryz.func6 (by kernel_rfl)
    (of_decide_eq_true (by kernel_rfl)) (by unfold Func.isWrapper; first | (rw [if_pos (by decide +kernel)]; kernel_rfl) | (rw [if_neg (by decide +kernel)]; exact ⟨rfl, rfl⟩))
    (fun os started H enc _ => lifted os started H enc)

theorem plain (f : FuncId) (fn : Func) (hf : Tryz.pinned.checked.prog.funcNamed "skiff/skifflaw21.ControlGives" = some f) (hfn : Tryz.pinned.checked.prog.funcs[f]? = some fn) :
    false = Tryz.pinned.checked.prog.looks [] ∧ ∀ (j : Nat) t, fn.params[j]? = some t → Tryz.pinned.checked.prog.wantsStandIn t = false := by
  obtain rfl : f = 6 := Option.some.inj ((show Tryz.prog.funcNamed "skiff/skifflaw21.ControlGives" = some 6 by kernel_rfl).symm.trans hf) |>.symm
  obtain rfl : fn = Tryz.f6 := (Option.some.inj (Tryz.func6.symm.trans hfn)).symm
  refine ⟨by kernel_rfl, fun j t ht => ?_⟩
  rw [Tryz.params6] at ht
  rcases j with _ | _ | _ | j
  · obtain rfl : 9 = t := by simpa using ht
    exact (show Tryz.prog.wantsStandIn 9 = false by kernel_rfl)
  · obtain rfl : 24 = t := by simpa using ht
    exact (show Tryz.prog.wantsStandIn 24 = false by kernel_rfl)
  · obtain rfl : 3 = t := by simpa using ht
    exact (show Tryz.prog.wantsStandIn 3 = false by kernel_rfl)
  · simp at ht
theorem proved : Rows.ControlGivesCardSaid :=
  Claim7.holds_tied_plain_at .later [] _ _ _ _ over (fun _ h => by cases h) (by kernel_rfl) (fun _ h => by cases h) controlGives_row_tie rfl ⟨rfl, rfl⟩ (by kernel_rfl) rfl plain (by kernel_rfl)
#print axioms proved
end Go.Proofs.YtmlfkbkpkgaefaaGreatDoor.controlGives
