/- Whatever the flash, the device and the number: the law TickCut returns true (behind a cut each byte of the flash is between what was and what the whole tick makes of it, and the device is new), and the arguments read as they did; no condition. -/
import Derived.Test.YtmbgdidelbkdgaaRows
import Derived.Test.YtmbgdidelbkdgaaBagNor
import Derived.Test.YtmbgdidelbkdgaaBagDev
import Derived.Test.YtmbgdidelbkdgaaBagDoc
import Derived.Test.YtmbgdidelbkdgaaBagDnl
import Derived.Test.YtmbgdidelbkdgaaTicMath
import Derived.Test.YtmbgdidelbkdgaaTicRow
import Derived.Test.YtmbgdidelbkdgaaTicStep
import Derived.Test.YtmbgdidelbkdgaaTicCut
import Derived.Test.YtmbgdidelbkdgaaTicDoes
import Derived.Test.YtmbgdidelbkdgaaTicAwake
import Derived.Deep.Cut
import Derived.Deep.QuietTactic
import Derived.BigQuiet
import Derived.WalkKit
import Derived.ProofKit
import Derived.OpenShut
import Derived.ShutString
import Derived.ChangeOld
import Derived.Below
import Derived.SizedLaws
namespace Go.Proofs.Ytmbgdidelbkdgaa.tickCut
open Go.ChangeShapes Go.WideShapes Go.ChangeAt Go.RowKit
open Go.ChangeMaps (open_string shut_string)
set_option linter.unusedVariables false

open Go.Proofs.Ytmbgdidelbkdgaa.Bytes
open Go.Proofs.Ytmbgdidelbkdgaa.Jou
open Go.Proofs.Ytmbgdidelbkdgaa.Dev
open Go.Proofs.Ytmbgdidelbkdgaa.DevRow
open Go.Proofs.Ytmbgdidelbkdgaa.DevHelp
open Go.Proofs.Ytmbgdidelbkdgaa.DevAwake
open Go.Proofs.Ytmbgdidelbkdgaa.Dnl
open Go.Proofs.Ytmbgdidelbkdgaa.Tic
open Go.Proofs.Ytmbgdidelbkdgaa.TicRow
theorem own : ownKnob Try.prog.godebug = none := by kernel_rfl
theorem laidOut : laidOutB Try.prog = true := by kernel_rfl
theorem field_of {H : Type} {enc : TypeId × Value → H} {P : Program} {w : World} {base : Nat} {spare : Nat → Bool} {held : Bool} {t : TypeId} {fs : Array Field} {fuel : Nat} {cs : List Value} {x : DataW H × List MemPlace} (ht : P.underlying t = some (.struct fs)) (h : DataW.trod enc P w base spare held fuel t cs = some x) (i : Nat) (f : Field) (hf : fs[i]? = some f) :
    ∃ n y, DataW.trod enc P w base spare held n f.type ((cs.drop f.offset).take (P.cellsOf f.type)) = some y := by
  obtain ⟨xs, n, _, _, _, hlen, hq⟩ := DataW.trod_struct ht h
  have hi : i < xs.length := by
    rw [hlen]
    rcases Nat.lt_or_ge i fs.size with h1 | h1
    · exact h1
    · rw [Array.getElem?_eq_none h1] at hf; cases hf
  exact ⟨n, xs[i], by rw [hq i f hf, List.getElem?_eq_getElem hi]⟩
theorem list24 {l : List Value} (h : l.length = 6) : ∃ c0 c1 c2 c3 c4 c5, l = [c0, c1, c2, c3, c4, c5] := by
  match l, h with
  | [c0, c1, c2, c3, c4, c5], _ => exact ⟨c0, c1, c2, c3, c4, c5, rfl⟩
set_option maxRecDepth 100000 in
theorem open24 {H : Type} {enc : TypeId × Value → H} {w : World} {base : Nat} {spare : Nat → Bool} {held : Bool} {r : Reach} {b0 : Nat} {v : Value} {d : DataW H} {p : List MemPlace} (hv : Value.okWide Try.prog w r b0 24 v) (h : DataW.Trod enc Try.prog w base spare held 24 v d p) (hlt : ∀ x ∈ p, x.block < w.heap.size) (hsz : (d.weights Try.prog 24).all (· ≤ reachBytes) = true) :
    ∃ (x0 : Int) (x1 : Int) (x2 : Int) (x3 : Int) (x4 : Int) (x5 : Value) (l5 : List Go.Proofs.Ytmbgdidelbkdgaa.Ops.FOp), v = .agg #[.int .i64 x0, .int .i64 x1, .int .i64 x2, .int .i64 x3, .int .i64 x4, x5] ∧ (Lit.int .i64 x0).wf = true ∧ (Lit.int .i64 x1).wf = true ∧ (Lit.int .i64 x2).wf = true ∧ (Lit.int .i64 x3).wf = true ∧ (Lit.int .i64 x4).wf = true ∧ Go.Proofs.Ytmbgdidelbkdgaa.DevRow.IsSt w x5 l5 ∧ l5.length * 32 ≤ 140737488351232 ∧ (∀ o ∈ l5, (Lit.int .i64 o.pl).wf = true ∧ o.tx.size ≤ maxLen) := by
  obtain ⟨cs, rfl, hsz0⟩ := okWide_struct Try.underlying24 hv
  have hc : Try.prog.cellsOf 24 = 6 := by kernel_rfl
  rw [hc] at hsz0
  obtain ⟨l⟩ := cs
  obtain ⟨c0, c1, c2, c3, c4, c5, rfl⟩ := list24 (l := l) (by simpa using hsz0)
  obtain ⟨fuel, hf⟩ := h
  have k0 : Try.prog.cellsOf 3 = 1 := by kernel_rfl
  obtain ⟨n0, y0, h0, L0, Z0⟩ := Go.Proofs.Ytmbgdidelbkdgaa.DevRow.field_of2 Try.underlying24 hf hlt hsz 0 _ rfl
  have g0 : DataW.trod enc Try.prog w base spare held n0 3 [c0] = some y0 := by simpa [Value.cells, k0] using h0
  obtain ⟨x0, e0, _, w0⟩ := DataW.trod_int Try.underlying3 g0
  obtain rfl := (List.cons.inj e0).1
  have k1 : Try.prog.cellsOf 3 = 1 := by kernel_rfl
  obtain ⟨n1, y1, h1, L1, Z1⟩ := Go.Proofs.Ytmbgdidelbkdgaa.DevRow.field_of2 Try.underlying24 hf hlt hsz 1 _ rfl
  have g1 : DataW.trod enc Try.prog w base spare held n1 3 [c1] = some y1 := by simpa [Value.cells, k1] using h1
  obtain ⟨x1, e1, _, w1⟩ := DataW.trod_int Try.underlying3 g1
  obtain rfl := (List.cons.inj e1).1
  have k2 : Try.prog.cellsOf 3 = 1 := by kernel_rfl
  obtain ⟨n2, y2, h2, L2, Z2⟩ := Go.Proofs.Ytmbgdidelbkdgaa.DevRow.field_of2 Try.underlying24 hf hlt hsz 2 _ rfl
  have g2 : DataW.trod enc Try.prog w base spare held n2 3 [c2] = some y2 := by simpa [Value.cells, k2] using h2
  obtain ⟨x2, e2, _, w2⟩ := DataW.trod_int Try.underlying3 g2
  obtain rfl := (List.cons.inj e2).1
  have k3 : Try.prog.cellsOf 3 = 1 := by kernel_rfl
  obtain ⟨n3, y3, h3, L3, Z3⟩ := Go.Proofs.Ytmbgdidelbkdgaa.DevRow.field_of2 Try.underlying24 hf hlt hsz 3 _ rfl
  have g3 : DataW.trod enc Try.prog w base spare held n3 3 [c3] = some y3 := by simpa [Value.cells, k3] using h3
  obtain ⟨x3, e3, _, w3⟩ := DataW.trod_int Try.underlying3 g3
  obtain rfl := (List.cons.inj e3).1
  have k4 : Try.prog.cellsOf 3 = 1 := by kernel_rfl
  obtain ⟨n4, y4, h4, L4, Z4⟩ := Go.Proofs.Ytmbgdidelbkdgaa.DevRow.field_of2 Try.underlying24 hf hlt hsz 4 _ rfl
  have g4 : DataW.trod enc Try.prog w base spare held n4 3 [c4] = some y4 := by simpa [Value.cells, k4] using h4
  obtain ⟨x4, e4, _, w4⟩ := DataW.trod_int Try.underlying3 g4
  obtain rfl := (List.cons.inj e4).1
  have k5 : Try.prog.cellsOf 22 = 1 := by kernel_rfl
  obtain ⟨n5, y5, h5, L5, Z5⟩ := Go.Proofs.Ytmbgdidelbkdgaa.DevRow.field_of2 Try.underlying24 hf hlt hsz 5 _ rfl
  have g5 : DataW.trod enc Try.prog w base spare held n5 22 [c5] = some y5 := by simpa [Value.cells, k5] using h5
  obtain ⟨x5, l5, e5, i5, z5, s5⟩ := Go.Proofs.Ytmbgdidelbkdgaa.DevRow.open_st Try.underlying22 Try.underlying40 rfl rfl rfl rfl rfl rfl Try.underlying4 Try.underlying3 Try.underlying9 (by kernel_rfl) (by kernel_rfl) (by kernel_rfl) (by kernel_rfl) (by kernel_rfl) g5 L5 Z5
  obtain rfl := (List.cons.inj e5).1.symm
  exact ⟨x0, x1, x2, x3, x4, x5, l5, rfl, w0, w1, w2, w3, w4, i5, z5, s5⟩

theorem cut_none {f : ByteArray} {d : FDev} {k : Int} (h : bothB f d = false) : tickF f d = ⟨#[]⟩ ∧ tickD f d = newD ∧ cutF f d k = ⟨#[]⟩ ∧ cutB f d k = false := by
  have hc : cutB f d k = false := by unfold cutB; rw [h]; rfl
  refine ⟨?_, ?_, ?_, hc⟩
  · unfold tickF; rw [h]; rfl
  · unfold tickD; rw [h]; rfl
  · unfold cutF; rw [hc]; rfl
theorem ways (f : ByteArray) (d : FDev) : (bothB f d = false ∧ devB d = false) ∨ (bothB f d = false ∧ devB d = true ∧ mayF f = false) ∨ bothB f d = true := by
  unfold bothB
  cases mayF f <;> cases devB d <;> simp
set_option maxRecDepth 100000 in
set_option maxHeartbeats 4000000 in
theorem walk (a0 : ByteArray) (a1_0 : Int) (a1_1 : Int) (a1_2 : Int) (a1_3 : Int) (a1_4 : Int) (a1_5 : Value) (l1_5 : List Go.Proofs.Ytmbgdidelbkdgaa.Ops.FOp) (a2 : Int) (w : World) (w0 : a0.size ≤ maxLen) (w1_0 : (Lit.int .i64 a1_0).wf = true) (w1_1 : (Lit.int .i64 a1_1).wf = true) (w1_2 : (Lit.int .i64 a1_2).wf = true) (w1_3 : (Lit.int .i64 a1_3).wf = true) (w1_4 : (Lit.int .i64 a1_4).wf = true) (i1_5 : Go.Proofs.Ytmbgdidelbkdgaa.DevRow.IsSt w a1_5 l1_5) (z1_5 : l1_5.length * 32 ≤ 140737488351232) (s1_5 : ∀ o ∈ l1_5, (Lit.int .i64 o.pl).wf = true ∧ o.tx.size ≤ maxLen) (w2 : (Lit.int .i64 a2).wf = true) :
    Calls Try.prog 7 #[.string a0, .agg #[.int .i64 a1_0, .int .i64 a1_1, .int .i64 a1_2, .int .i64 a1_3, .int .i64 a1_4, a1_5], .int .i64 a2] w fun e w' => e = .returned (.bool true) ∧ Below w.heap.size w w' := by
  obtain ⟨k, hk, mk⟩ : ∃ k : Nat, k < 97 ∧ wrap64 ((IntKind.u64.wrap a2).tmod 97) = (k : Int) := mod_u64 a2 97 (by omega) (by omega)
  have br := DevWalk.build_d0
  have hB := (Below.refl w.heap.size w).alloc (Nat.le_refl _) (.cells #[.int .i64 a1_0, .int .i64 a1_1, .int .i64 a1_2, .int .i64 a1_3, .int .i64 a1_4, a1_5] 24)
  have hX := resM w (.int .i64 a1_0) (.int .i64 a1_1) (.int .i64 a1_2) (.int .i64 a1_3) (.int .i64 a1_4) a1_5 24
  have hD := i1_5.below ((Below.refl w.heap.size w).alloc (Nat.le_refl _) (.cells #[.int .i64 a1_0, .int .i64 a1_1, .int .i64 a1_2, .int .i64 a1_3, .int .i64 a1_4, a1_5] 24))
  obtain ⟨a, ca, rfl, _, _⟩ := i1_5
  have C1 := hide fun v w' h => TicCut.step_any a0 ⟨a1_0, a1_1, a1_2, a1_3, a1_4, l1_5⟩ v w' h
  have C2 := hide fun v w' h => TicCut.cut_any a0 ⟨a1_0, a1_1, a1_2, a1_3, a1_4, l1_5⟩ v (k : Int) w' h
  have C3 := hide fun v w' h => DevRef.refDev_any ⟨a1_0, a1_1, a1_2, a1_3, a1_4, l1_5⟩ v w' h
  have C4 := hide (fun w => NorRef.flashMay_any a0 w)
  have hmm : NorWalk.mayB a0 = mayF a0 := rfl
  rw [hmm] at C4
  clear hmm
  rcases ways a0 ⟨a1_0, a1_1, a1_2, a1_3, a1_4, l1_5⟩ with ⟨hb0, hd⟩ | ⟨hb0, hd, hf⟩ | hb0
  · obtain ⟨e1, e2, e3, e4⟩ := cut_none (k := (k : Int)) hb0
    rw [e1, e2, hb0] at C1
    rw [e3, e4] at C2
    rw [hd] at C3
    clear e1 e2 e3 e4 hb0 hd C4
    unfold newD at C1
    dsimp only at C1 C2 C3
    go_enter Try.func7, Try.ntmps7
    go_upto_region 3 with (go_at_call 17; refine (TicAwake.awake_any _).mono ?_; rintro e w' ⟨rfl, hb⟩; replace hB := thenB hB hb; replace hX := resB hX hb; replace hD := hD.below hb; clear hb)
    go_wp2_with fail
    refine (C2.out _ _ hD).mono ?_; rintro e u1 ⟨rfl, hb⟩; replace hB := thenB hB hb; replace hX := resB hX hb; replace hD := hD.below hb; clear hb
    have hP := resM u1 (.int .i64 0) (.int .i64 0) (.int .i64 0) (.int .i64 0) (.int .i64 0) (.slice none 0 0) 24
    have hn := hal u1 (.cells #[.int .i64 0, .int .i64 0, .int .i64 0, .int .i64 0, .int .i64 0, .slice none 0 0] 24)
    replace hX := resB hX hn
    replace hD := hD.below hn
    replace hB := thenB hB hn
    clear hn
    go_upto_region 4 with fail
    generalize u1.alloc _ = W1 at *
    generalize u1.heap.size = G1 at *
    go_wp2_with fail
    refine (C1.out _ _ hD).mono ?_; rintro e u2 ⟨v1, rfl, ho1, hb⟩; replace hB := thenB hB hb; replace hX := resB hX hb; replace hP := resB hP hb; replace hD := hD.below hb; clear hb
    obtain ⟨p1, q1, rfl⟩ := ho1.form
    have hn := hal u2 (.cells #[.int .i64 0, .int .i64 0, .int .i64 0, .int .i64 0, .int .i64 0, .slice p1 0 q1] 24)
    replace hX := resB hX hn
    replace hP := resB hP hn
    replace hD := hD.below hn
    replace hB := thenB hB hn
    clear hn ho1
    go_upto_region 5 with fail
    generalize u2.alloc _ = W2 at *
    generalize u2.heap.size = G2 at *
    have E : errK false = 1800 := rfl
    go_wp2_with (go_at_call 15; refine (num_any _ _).mono ?_; rintro e w' ⟨rfl, rfl⟩)
    refine (same_bare _ _ _ _ _ _).mono ?_; rintro e u5 ⟨rfl, hb⟩; replace hB := thenB hB hb; replace hX := resB hX hb; replace hD := hD.below hb; clear hb hP
    go_wp2_with fail
    refine (C3.out _ _ hD).mono ?_; rintro e u6 ⟨rfl, hb⟩; replace hB := thenB hB hb; clear hb hX hD
    go_wp2_with fail
    go_ret
    exact ⟨rfl, hB⟩
  · obtain ⟨e1, e2, e3, e4⟩ := cut_none (k := (k : Int)) hb0
    rw [e1, e2, hb0] at C1
    rw [e3, e4] at C2
    rw [hd] at C3
    rw [hf] at C4
    clear e1 e2 e3 e4 hb0 hd hf
    unfold newD at C1
    dsimp only at C1 C2 C3
    go_enter Try.func7, Try.ntmps7
    go_upto_region 3 with (go_at_call 17; refine (TicAwake.awake_any _).mono ?_; rintro e w' ⟨rfl, hb⟩; replace hB := thenB hB hb; replace hX := resB hX hb; replace hD := hD.below hb; clear hb)
    go_wp2_with fail
    refine (C2.out _ _ hD).mono ?_; rintro e u1 ⟨rfl, hb⟩; replace hB := thenB hB hb; replace hX := resB hX hb; replace hD := hD.below hb; clear hb
    have hP := resM u1 (.int .i64 0) (.int .i64 0) (.int .i64 0) (.int .i64 0) (.int .i64 0) (.slice none 0 0) 24
    have hn := hal u1 (.cells #[.int .i64 0, .int .i64 0, .int .i64 0, .int .i64 0, .int .i64 0, .slice none 0 0] 24)
    replace hX := resB hX hn
    replace hD := hD.below hn
    replace hB := thenB hB hn
    clear hn
    go_upto_region 4 with fail
    generalize u1.alloc _ = W1 at *
    generalize u1.heap.size = G1 at *
    go_wp2_with fail
    refine (C1.out _ _ hD).mono ?_; rintro e u2 ⟨v1, rfl, ho1, hb⟩; replace hB := thenB hB hb; replace hX := resB hX hb; replace hP := resB hP hb; replace hD := hD.below hb; clear hb
    obtain ⟨p1, q1, rfl⟩ := ho1.form
    have hn := hal u2 (.cells #[.int .i64 0, .int .i64 0, .int .i64 0, .int .i64 0, .int .i64 0, .slice p1 0 q1] 24)
    replace hX := resB hX hn
    replace hP := resB hP hn
    replace hD := hD.below hn
    replace hB := thenB hB hn
    clear hn ho1
    go_upto_region 5 with fail
    generalize u2.alloc _ = W2 at *
    generalize u2.heap.size = G2 at *
    have E : errK false = 1800 := rfl
    go_wp2_with (go_at_call 15; refine (num_any _ _).mono ?_; rintro e w' ⟨rfl, rfl⟩)
    refine (same_bare _ _ _ _ _ _).mono ?_; rintro e u5 ⟨rfl, hb⟩; replace hB := thenB hB hb; replace hX := resB hX hb; replace hD := hD.below hb; clear hb hP
    go_wp2_with fail
    refine (C3.out _ _ hD).mono ?_; rintro e u6 ⟨rfl, hb⟩; replace hB := thenB hB hb; clear hb hX hD
    go_wp2_with (go_at_call 23; refine (C4.out _).mono ?_; rintro e w' ⟨rfl, rfl⟩)
    go_ret
    exact ⟨rfl, hB⟩
  · have hc : cutB a0 ⟨a1_0, a1_1, a1_2, a1_3, a1_4, l1_5⟩ (k : Int) = true := cut_parts.2 ⟨(both_parts.1 hb0).1, (both_parts.1 hb0).2, by omega, by omega⟩
    obtain ⟨s1, s2, hbt⟩ := TicDoes.btw_tick hc
    have s0 := may_size (both_parts.1 hb0).1
    rw [hb0] at C1
    rw [hc] at C2
    have HT := hide fun i h0 h1 h2 => TicDoes.btw_bits (hbt i h0 h1 h2)
    clear hb0 hc hbt C3 C4
    generalize tickF a0 ⟨a1_0, a1_1, a1_2, a1_3, a1_4, l1_5⟩ = F1 at *
    generalize cutF a0 ⟨a1_0, a1_1, a1_2, a1_3, a1_4, l1_5⟩ (k : Int) = F2 at *
    generalize tickD a0 ⟨a1_0, a1_1, a1_2, a1_3, a1_4, l1_5⟩ = D at *
    obtain ⟨da, du, dn, dg, dl, dx⟩ := D
    dsimp only at C1 C2
    have z1 : ((F1.size : Int) != (a0.size : Int)) = false := by rw [s2, s0]; rfl
    have z2 : ((F2.size : Int) != (a0.size : Int)) = false := by rw [s1, s0]; rfl
    have l1 : a0.size ≤ F1.size := by omega
    have l2 : a0.size ≤ F2.size := by omega
    have l3 : a0.size ≤ 768 := by omega
    clear s0 s1 s2
    go_enter Try.func7, Try.ntmps7
    go_upto_region 3 with (go_at_call 17; refine (TicAwake.awake_any _).mono ?_; rintro e w' ⟨rfl, hb⟩; replace hB := thenB hB hb; replace hX := resB hX hb; replace hD := hD.below hb; clear hb)
    go_wp2_with fail
    refine (C2.out _ _ hD).mono ?_; rintro e u1 ⟨rfl, hb⟩; replace hB := thenB hB hb; replace hX := resB hX hb; replace hD := hD.below hb; clear hb
    have hP := resM u1 (.int .i64 0) (.int .i64 0) (.int .i64 0) (.int .i64 0) (.int .i64 0) (.slice none 0 0) 24
    have hn := hal u1 (.cells #[.int .i64 0, .int .i64 0, .int .i64 0, .int .i64 0, .int .i64 0, .slice none 0 0] 24)
    replace hX := resB hX hn
    replace hD := hD.below hn
    replace hB := thenB hB hn
    clear hn
    go_upto_region 4 with fail
    generalize u1.alloc _ = W1 at *
    generalize u1.heap.size = G1 at *
    go_wp2_with fail
    refine (C1.out _ _ hD).mono ?_; rintro e u2 ⟨v1, rfl, ho1, hb⟩; replace hB := thenB hB hb; replace hP := resB hP hb; clear hb hX hD
    obtain ⟨p1, q1, rfl⟩ := ho1.form
    have hn := hal u2 (.cells #[.int .i64 da, .int .i64 du, .int .i64 dn, .int .i64 dg, .int .i64 dl, .slice p1 dx.length q1] 24)
    replace hP := resB hP hn
    replace hB := thenB hB hn
    clear hn ho1
    go_upto_region 5 with fail
    generalize u2.alloc _ = W2 at *
    generalize u2.heap.size = G2 at *
    have E : errK true = 0 := rfl
    go_upto_region 7 with (go_at_call 15; refine (num_any _ _).mono ?_; rintro e w' ⟨rfl, rfl⟩)
    go_wp2_with fail
    refine (same_bare _ _ _ _ _ _).mono ?_; rintro e u5 ⟨rfl, hb⟩; replace hB := thenB hB hb; clear hb hP
    go_wp2_with fail
    clear z1 z2 C1 C2
    go_loopw [13, 14, 15, 16] (fun i s14 s15 s16 wr => ∃ j : Nat, j ≤ a0.size ∧ i = .int .i64 j ∧ Below w.heap.size w wr) (fun i _ _ _ _ => a0.size - (intOf i).toNat)
    case atStart => exact ⟨0, by omega, rfl, hB⟩
    case round =>
      obtain ⟨j, hj, rfl, hbel⟩ := hrel
      by_cases hlt : j < a0.size
      · have j1 : j < F1.size := by omega
        have j2 : j < F2.size := by omega
        obtain ⟨p, q, c1, c2, c3, c4⟩ := HT.out j hlt j1 j2
        go_wp2
        go_quiet (fail)
        go_wp2
        exact ⟨⟨j + 1, by omega, by go_num, bel_drewN hbel _⟩, by simp [intOf]; omega⟩
      · clear HT
        go_wp2_with fail
        refine (TicSent.sent18_any _).mono ?_; rintro e u6 ⟨sk, ck, rfl, _, hb⟩; replace hbel := thenB hbel hb; clear hb
        have br2 := DnlHelp.field_sent sk ck
        go_wp2_with fail
        go_ret
        exact ⟨rfl, hbel⟩

set_option maxRecDepth 100000 in
theorem lifted (os : Os) (started : os.Started) (H : Type) (enc : TypeId × Value → H) :
    ReturnsInHanded {} Try.checked os 7 .any (Rows.tickCutSpec.pre6 enc Try.prog Try.f7 Rows.tickCutRow.domain false) (Rows.tickCutSpec.post enc Try.prog Try.f7 false true false false) := by
  refine returnsInHanded_of_change_sized (C := Try.checked) own started (by kernel_rfl) Try.func7
    (ChangeSpec.witness6 (enc := enc) (C := Try.checked) false ⟨#[], #[.string ByteArray.empty, .agg #[.int .i64 0, .int .i64 0, .int .i64 0, .int .i64 0, .int .i64 0, .slice none 0 0], .int .i64 0], []⟩ 8 (by kernel_rfl) (by kernel_rfl) (by kernel_rfl) (by kernel_rfl)) ?_
  intro W base args ds gs before hval0 hW hcnd hsz0 _
  have hval : ∀ (j : Nat) t v, Try.f7.params[j]? = some t → args[j]? = some v → Value.okWide Try.prog W .any base t v := hval0
  have hW' := hW
  obtain ⟨p, q, hA0, hV, rfl, hfz, hnd⟩ := hW
  have hA : DataW.TrodAll enc Try.prog W 0 (fun _ => true) true Try.f7.params.toList args.toList ds p := hA0
  have hsz : (DataW.weightsEach Try.prog (Try.f7.params.toList ++ Rows.tickCutSpec.plain.varTypes Try.prog) (ds ++ gs)).all (· ≤ reachBytes) = true := hsz0
  clear hsz0
  rw [Try.params7] at hA hval hsz
  obtain ⟨v0, vs0, d0, ds0, p0, q0, hargs, rfl, rfl, h0, r0⟩ := trodAll_cons hA
  obtain ⟨v1, vs1, d1, ds1, p1, q1, rfl, rfl, rfl, h1, r1⟩ := trodAll_cons r0
  obtain ⟨v2, vs2, d2, ds2, p2, q2, rfl, rfl, rfl, h2, r2⟩ := trodAll_cons r1
  obtain ⟨rfl, rfl, rfl⟩ := trodAll_nil r2
  obtain rfl : args = #[v0, v1, v2] := by cases args; simp_all
  obtain ⟨rfl, rfl⟩ := trodVars_none hV
  obtain ⟨a0, rfl, rfl, rfl, w0⟩ := open_string Try.underlying9 (hval 0 9 v0 rfl rfl) h0
  have k1 := h1
  have lt1 : ∀ x ∈ p1, x.block < W.heap.size := by obtain ⟨m, hm⟩ := k1; exact DataW.trod_lt m _ _ _ hm
  obtain ⟨a1_0, a1_1, a1_2, a1_3, a1_4, a1_5, l1_5, rfl, w1_0, w1_1, w1_2, w1_3, w1_4, i1_5, z1_5, s1_5⟩ := open24 (hval 1 24 v1 rfl rfl) h1 lt1 (Go.Proofs.Ytmbgdidelbkdgaa.DevRow.sized_arg hsz (j := 1) rfl rfl)
  obtain ⟨a2, rfl, rfl, rfl, w2⟩ := open_int Try.underlying3 (hval 2 3 v2 rfl rfl) h2
  clear hA0 hval0
  refine (walk a0 a1_0 a1_1 a1_2 a1_3 a1_4 a1_5 l1_5 a2 W w0 w1_0 w1_1 w1_2 w1_3 w1_4 i1_5 z1_5 s1_5 w2).mono fun e W' ⟨he, bel⟩ => ?_
  subst he
  exact ⟨_, rfl, _, _, _, [], _, [], hW', (trodAll_cons_mk (shut_bool Try.underlying4 _) trodAll_mk0), (trodAll_cons_mk (shut_string Try.underlying9 w0) (trodAll_cons_mk (Below.trod laidOut (by kernel_rfl) (of_decide_eq_true (by kernel_rfl)) k1 bel lt1) (trodAll_cons_mk (shut_int Try.underlying3 w2) trodAll_mk0))), rfl, bel.frame _, fun h => by cases h⟩

theorem over : Rows.tickCutRow.holds Try.pinned (OpenSpec.ofChange Rows.tickCutSpec) :=
  OpenClaim.holds_of_wide 7 Try.f7 rfl rfl rfl rfl rfl rfl rfl ⟨rfl, rfl, rfl, rfl, rfl⟩ rfl rfl rfl rfl rfl (by kernel_rfl) Try.func7 (by kernel_rfl)
    (of_decide_eq_true (by kernel_rfl)) (by unfold Func.isWrapper; first | (rw [if_pos (by decide +kernel)]; kernel_rfl) | (rw [if_neg (by decide +kernel)]; exact ⟨rfl, rfl⟩))
    (fun os started H enc _ => lifted os started H enc)

theorem proved : Rows.TickCutSaid :=
  over
#print axioms proved
end Go.Proofs.Ytmbgdidelbkdgaa.tickCut
