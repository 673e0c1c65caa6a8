/- Whatever the flash and the device: the law StatusTells returns true (the answer is of the device as it then is; who asks turns nothing but what waits for asking), and the arguments read as they did; no condition. -/
import Derived.Test.YthdnpgkoanfijaaRows
import Derived.Test.YthdnpgkoanfijaaBagNor
import Derived.Test.YthdnpgkoanfijaaBagDev
import Derived.Test.YthdnpgkoanfijaaTicRow
import Derived.Test.YthdnpgkoanfijaaStsMath
import Derived.Test.YthdnpgkoanfijaaStsMore
import Derived.Test.YthdnpgkoanfijaaStsGet
import Derived.Test.YthdnpgkoanfijaaStsAwake
import Derived.Deep.Cut
import Derived.WalkKit
import Derived.ProofKit
import Derived.OpenShut
import Derived.ShutString
import Derived.ChangeOld
import Derived.Below
import Derived.SizedLaws
namespace Go.Proofs.Ythdnpgkoanfijaa.statusTells
open Go.ChangeShapes Go.WideShapes Go.ChangeAt Go.RowKit
open Go.ChangeMaps (open_string shut_string)
set_option linter.unusedVariables false

open Go.Proofs.Ythdnpgkoanfijaa.Bytes
open Go.Proofs.Ythdnpgkoanfijaa.Jou
open Go.Proofs.Ythdnpgkoanfijaa.Act
open Go.Proofs.Ythdnpgkoanfijaa.Dev
open Go.Proofs.Ythdnpgkoanfijaa.DevRow
open Go.Proofs.Ythdnpgkoanfijaa.DevSet
open Go.Proofs.Ythdnpgkoanfijaa.DevHelp
open Go.Proofs.Ythdnpgkoanfijaa.DevAwake
open Go.Proofs.Ythdnpgkoanfijaa.Dnl
open Go.Proofs.Ythdnpgkoanfijaa.Tic
open Go.Proofs.Ythdnpgkoanfijaa.TicRow
open Go.Proofs.Ythdnpgkoanfijaa.Sts
theorem own : ownKnob Try.prog.godebug = none := by kernel_rfl
theorem laidOut : laidOutB Try.prog = true := by kernel_rfl
theorem field_of {H : Type} {enc : TypeId × Value → H} {P : Program} {w : World} {base : Nat} {spare : Nat → Bool} {held : Bool} {t : TypeId} {fs : Array Field} {fuel : Nat} {cs : List Value} {x : DataW H × List MemPlace} (ht : P.underlying t = some (.struct fs)) (h : DataW.trod enc P w base spare held fuel t cs = some x) (i : Nat) (f : Field) (hf : fs[i]? = some f) :
    ∃ n y, DataW.trod enc P w base spare held n f.type ((cs.drop f.offset).take (P.cellsOf f.type)) = some y := by
  obtain ⟨xs, n, _, _, _, hlen, hq⟩ := DataW.trod_struct ht h
  have hi : i < xs.length := by
    rw [hlen]
    rcases Nat.lt_or_ge i fs.size with h1 | h1
    · exact h1
    · rw [Array.getElem?_eq_none h1] at hf; cases hf
  exact ⟨n, xs[i], by rw [hq i f hf, List.getElem?_eq_getElem hi]⟩
theorem list24 {l : List Value} (h : l.length = 6) : ∃ c0 c1 c2 c3 c4 c5, l = [c0, c1, c2, c3, c4, c5] := by
  match l, h with
  | [c0, c1, c2, c3, c4, c5], _ => exact ⟨c0, c1, c2, c3, c4, c5, rfl⟩
set_option maxRecDepth 100000 in
theorem open24 {H : Type} {enc : TypeId × Value → H} {w : World} {base : Nat} {spare : Nat → Bool} {held : Bool} {r : Reach} {b0 : Nat} {v : Value} {d : DataW H} {p : List MemPlace} (hv : Value.okWide Try.prog w r b0 24 v) (h : DataW.Trod enc Try.prog w base spare held 24 v d p) (hlt : ∀ x ∈ p, x.block < w.heap.size) (hsz : (d.weights Try.prog 24).all (· ≤ reachBytes) = true) :
    ∃ (x0 : Int) (x1 : Int) (x2 : Int) (x3 : Int) (x4 : Int) (x5 : Value) (l5 : List Go.Proofs.Ythdnpgkoanfijaa.Ops.FOp), v = .agg #[.int .i64 x0, .int .i64 x1, .int .i64 x2, .int .i64 x3, .int .i64 x4, x5] ∧ (Lit.int .i64 x0).wf = true ∧ (Lit.int .i64 x1).wf = true ∧ (Lit.int .i64 x2).wf = true ∧ (Lit.int .i64 x3).wf = true ∧ (Lit.int .i64 x4).wf = true ∧ Go.Proofs.Ythdnpgkoanfijaa.DevRow.IsSt w x5 l5 ∧ l5.length * 32 ≤ 140737488351232 ∧ (∀ o ∈ l5, (Lit.int .i64 o.pl).wf = true ∧ o.tx.size ≤ maxLen) := by
  obtain ⟨cs, rfl, hsz0⟩ := okWide_struct Try.underlying24 hv
  have hc : Try.prog.cellsOf 24 = 6 := by kernel_rfl
  rw [hc] at hsz0
  obtain ⟨l⟩ := cs
  obtain ⟨c0, c1, c2, c3, c4, c5, rfl⟩ := list24 (l := l) (by simpa using hsz0)
  obtain ⟨fuel, hf⟩ := h
  have k0 : Try.prog.cellsOf 3 = 1 := by kernel_rfl
  obtain ⟨n0, y0, h0, L0, Z0⟩ := Go.Proofs.Ythdnpgkoanfijaa.DevRow.field_of2 Try.underlying24 hf hlt hsz 0 _ rfl
  have g0 : DataW.trod enc Try.prog w base spare held n0 3 [c0] = some y0 := by simpa [Value.cells, k0] using h0
  obtain ⟨x0, e0, _, w0⟩ := DataW.trod_int Try.underlying3 g0
  obtain rfl := (List.cons.inj e0).1
  have k1 : Try.prog.cellsOf 3 = 1 := by kernel_rfl
  obtain ⟨n1, y1, h1, L1, Z1⟩ := Go.Proofs.Ythdnpgkoanfijaa.DevRow.field_of2 Try.underlying24 hf hlt hsz 1 _ rfl
  have g1 : DataW.trod enc Try.prog w base spare held n1 3 [c1] = some y1 := by simpa [Value.cells, k1] using h1
  obtain ⟨x1, e1, _, w1⟩ := DataW.trod_int Try.underlying3 g1
  obtain rfl := (List.cons.inj e1).1
  have k2 : Try.prog.cellsOf 3 = 1 := by kernel_rfl
  obtain ⟨n2, y2, h2, L2, Z2⟩ := Go.Proofs.Ythdnpgkoanfijaa.DevRow.field_of2 Try.underlying24 hf hlt hsz 2 _ rfl
  have g2 : DataW.trod enc Try.prog w base spare held n2 3 [c2] = some y2 := by simpa [Value.cells, k2] using h2
  obtain ⟨x2, e2, _, w2⟩ := DataW.trod_int Try.underlying3 g2
  obtain rfl := (List.cons.inj e2).1
  have k3 : Try.prog.cellsOf 3 = 1 := by kernel_rfl
  obtain ⟨n3, y3, h3, L3, Z3⟩ := Go.Proofs.Ythdnpgkoanfijaa.DevRow.field_of2 Try.underlying24 hf hlt hsz 3 _ rfl
  have g3 : DataW.trod enc Try.prog w base spare held n3 3 [c3] = some y3 := by simpa [Value.cells, k3] using h3
  obtain ⟨x3, e3, _, w3⟩ := DataW.trod_int Try.underlying3 g3
  obtain rfl := (List.cons.inj e3).1
  have k4 : Try.prog.cellsOf 3 = 1 := by kernel_rfl
  obtain ⟨n4, y4, h4, L4, Z4⟩ := Go.Proofs.Ythdnpgkoanfijaa.DevRow.field_of2 Try.underlying24 hf hlt hsz 4 _ rfl
  have g4 : DataW.trod enc Try.prog w base spare held n4 3 [c4] = some y4 := by simpa [Value.cells, k4] using h4
  obtain ⟨x4, e4, _, w4⟩ := DataW.trod_int Try.underlying3 g4
  obtain rfl := (List.cons.inj e4).1
  have k5 : Try.prog.cellsOf 22 = 1 := by kernel_rfl
  obtain ⟨n5, y5, h5, L5, Z5⟩ := Go.Proofs.Ythdnpgkoanfijaa.DevRow.field_of2 Try.underlying24 hf hlt hsz 5 _ rfl
  have g5 : DataW.trod enc Try.prog w base spare held n5 22 [c5] = some y5 := by simpa [Value.cells, k5] using h5
  obtain ⟨x5, l5, e5, i5, z5, s5⟩ := Go.Proofs.Ythdnpgkoanfijaa.DevRow.open_st Try.underlying22 Try.underlying73 rfl rfl rfl rfl rfl rfl Try.underlying4 Try.underlying3 Try.underlying9 (by kernel_rfl) (by kernel_rfl) (by kernel_rfl) (by kernel_rfl) (by kernel_rfl) g5 L5 Z5
  obtain rfl := (List.cons.inj e5).1.symm
  exact ⟨x0, x1, x2, x3, x4, x5, l5, rfl, w0, w1, w2, w3, w4, i5, z5, s5⟩

theorem run_min (P : Program) (n : Nat) (ts : Array TypeId) (t : TypeId) (w : World) : (Builtin.min_ ts t #[.int .i64 255, .int .i64 (n : Int)]).run P w = .ok (.int .i64 (min (n : Int) 255)) w := by
  simp [Builtin.min_, Builtin.min2]
  repeat split
  all_goals omega
/-- A store into a block made behind the row's. -/
theorem in_other {w : World} {base n : Nat} {v : Value} {l : List Ops.FOp} (h : OwnIn w base n v l) {B : Nat} (hB : n ≤ B) (i : Nat) (y : Value) : OwnIn (w.setCell ⟨B, i, none⟩ y) base n v l := by
  obtain ⟨a, cap, rfl, h0, h⟩ := h
  refine ⟨a, cap, rfl, h0, ?_⟩
  rcases h with h | ⟨b, o, rfl, h1, h2, h3, h7, h4, h5, h6⟩
  · exact .inl h
  · have hne : ∀ j, (w.setCell ⟨B, i, none⟩ y).cell? ⟨b, j, none⟩ = w.cell? ⟨b, j, none⟩ := fun j => World.cell?_setCell_other w _ _ _ (ne_blk (by omega))
    exact .inr ⟨b, o, rfl, h1, h2, h3, h7, by rw [size_set]; exact h4, ⟨fun i hi => by rw [hne]; exact h5.er i hi, fun i hi => by rw [hne]; exact h5.pl i hi, fun i hi => by rw [hne]; exact h5.tx i hi⟩, fun i => by rw [World.frozen?_setCell]; exact h6 i⟩
theorem eq_f {a b : Int} (h : ¬ a = b) : (a == b) = false := beq_eq_false_iff_ne.2 h
set_option maxRecDepth 100000 in
set_option maxHeartbeats 4000000 in
theorem walk (a0 : ByteArray) (a1_0 : Int) (a1_1 : Int) (a1_2 : Int) (a1_3 : Int) (a1_4 : Int) (a1_5 : Value) (l1_5 : List Go.Proofs.Ythdnpgkoanfijaa.Ops.FOp) (w : World) (w0 : a0.size ≤ maxLen) (w1_0 : (Lit.int .i64 a1_0).wf = true) (w1_1 : (Lit.int .i64 a1_1).wf = true) (w1_2 : (Lit.int .i64 a1_2).wf = true) (w1_3 : (Lit.int .i64 a1_3).wf = true) (w1_4 : (Lit.int .i64 a1_4).wf = true) (i1_5 : Go.Proofs.Ythdnpgkoanfijaa.DevRow.IsSt w a1_5 l1_5) (z1_5 : l1_5.length * 32 ≤ 140737488351232) (s1_5 : ∀ o ∈ l1_5, (Lit.int .i64 o.pl).wf = true ∧ o.tx.size ≤ maxLen) :
    Calls Try.prog 5 #[.string a0, .agg #[.int .i64 a1_0, .int .i64 a1_1, .int .i64 a1_2, .int .i64 a1_3, .int .i64 a1_4, a1_5]] w fun e w' => e = .returned (.bool true) ∧ Below w.heap.size w w' := by
  have br := DevWalk.build_d0
  have ba := AnsWalk.build_ans
  have hB := (Below.refl w.heap.size w).alloc (Nat.le_refl _) (.cells #[.int .i64 a1_0, .int .i64 a1_1, .int .i64 a1_2, .int .i64 a1_3, .int .i64 a1_4, a1_5] 24)
  have hX := resM w (.int .i64 a1_0) (.int .i64 a1_1) (.int .i64 a1_2) (.int .i64 a1_3) (.int .i64 a1_4) a1_5 24
  have hD := i1_5.below ((Below.refl w.heap.size w).alloc (Nat.le_refl _) (.cells #[.int .i64 a1_0, .int .i64 a1_1, .int .i64 a1_2, .int .i64 a1_3, .int .i64 a1_4, a1_5] 24))
  have HI := hide i1_5
  obtain ⟨a, ca, rfl, _, _⟩ := i1_5
  have C1 := hide fun v w' h => StsGet.get_any a0 ⟨a1_0, a1_1, a1_2, a1_3, a1_4, l1_5⟩ v w' h
  cases hb0 : bothB a0 ⟨a1_0, a1_1, a1_2, a1_3, a1_4, l1_5⟩ with
  | false =>
    rw [get_no hb0, hb0, show errT false = 1900 from rfl] at C1
    unfold StsGet.Got at C1
    generalize tkI newD = K at *
    unfold newD at C1
    dsimp only [List.length_nil] at C1
    clear hb0
    go_enter Try.func5, Try.ntmps5
    go_upto_region 3 with (go_at_call 14; refine (StsAwake.awake_any _).mono ?_; rintro e w' ⟨rfl, hb⟩; replace hB := thenB hB hb; replace hX := resB hX hb; replace hD := hD.below hb; clear hb)
    go_wp2_with fail
    refine (C1.out _ _ hD).mono ?_; rintro e u1 ⟨v1, rfl, ho1, hb⟩; replace hB := thenB hB hb; replace hX := resB hX hb; replace hD := hD.below hb; clear hb C1
    obtain ⟨p1, q1, rfl⟩ := ho1.form
    have hS := ho1.is
    clear ho1
    dsimp only [List.length_nil]
    obtain ⟨hQ, hQx, hn, _⟩ := StsAwake.two_made u1 (.int .i64 0) (.int .i64 0) (.int .i64 0) (.int .i64 0) (.int .i64 0) (.slice p1 0 q1) (.int .i64 0) (.int .i64 K) (.int .i64 0)
    replace hB := thenB hB hn
    replace hX := resB hX hn
    replace hD := hD.below hn
    replace hS := hS.below hn
    clear hn
    go_upto_region 4 with fail
    generalize (u1.alloc _).alloc _ = W1 at *
    generalize u1.heap.size = G1 at *
    go_wp2_with (go_at_call 12; refine (num_any _ _).mono ?_; rintro e w' ⟨rfl, rfl⟩)
    refine (sameDev_yes ⟨0, 0, 0, 0, 0, []⟩ _ _ _ hS (isSt_nil _)).mono ?_; rintro e u3 ⟨rfl, hb⟩; replace hB := thenB hB hb; clear hb
    go_wp2_with fail
    go_ret
    exact ⟨rfl, hB⟩
  | true =>
    have hl := (dev_parts (both_parts.1 hb0).2).2.2.2
    rw [get_ok hb0, hb0, show errT true = 0 from rfl] at C1
    clear hb0
    unfold StsGet.Got at C1
    have C6 := hide fun u v w' h g => sameDev_yes ⟨a1_0, a1_1, a1_2, a1_3, a1_4, l1_5⟩ u v w' h g
    dsimp only at C6 hl
    by_cases h1 : a1_0 = 1
    · rw [ask_sync (d := ⟨a1_0, a1_1, a1_2, a1_3, a1_4, l1_5⟩) h1] at C1
      subst h1
      rcases sync_ways ⟨1, a1_1, a1_2, a1_3, a1_4, l1_5⟩ with ⟨h2, e2⟩ | ⟨h2, e2⟩
      · rw [e2] at C1
        have hmn := fun ts t w => run_min Try.prog l1_5.length ts t w
        have hk : min (l1_5.length : Int) 255 = tkI ⟨3, a1_1, a1_2, a1_3, a1_4, l1_5⟩ := rfl
        rw [hk] at hmn
        clear hk
        generalize tkI ⟨3, a1_1, a1_2, a1_3, a1_4, l1_5⟩ = K at *
        have CC := hide (fun v w' h => copyDev_any ⟨3, a1_1, a1_2, a1_3, a1_4, l1_5⟩ v w' (show (l1_5.length + 2) * 32 ≤ 140737488355328 by omega) h)
        dsimp only at C1 CC h2
        have F0 := hide (List.length_eq_zero_iff.1 h2)
        have f1 : ¬ (0 : Int) < (l1_5.length : Int) := by omega
        have f2 : ((l1_5.length : Int) == 0) = true := by rw [beq_iff_eq]; omega
        clear h2 e2 hl
        go_enter Try.func5, Try.ntmps5
        go_upto_region 3 with (go_at_call 14; refine (StsAwake.awake_any _).mono ?_; rintro e w' ⟨rfl, hb⟩; replace hB := thenB hB hb; replace hX := resB hX hb; replace hD := hD.below hb; clear hb)
        go_wp2_with fail
        refine (C1.out _ _ hD).mono ?_; rintro e u1 ⟨v1, rfl, ho1, hb⟩; replace hB := thenB hB hb; replace hX := resB hX hb; replace hD := hD.below hb; clear hb C1
        obtain ⟨p1, q1, rfl⟩ := ho1.form
        have hS := ho1.is
        clear ho1
        obtain ⟨hQ, hQx, hn, _⟩ := StsAwake.two_made u1 (.int .i64 3) (.int .i64 a1_1) (.int .i64 a1_2) (.int .i64 a1_3) (.int .i64 a1_4) (.slice p1 l1_5.length q1) (.int .i64 a1_1) (.int .i64 K) (.int .i64 3)
        replace hB := thenB hB hn
        replace hX := resB hX hn
        replace hD := hD.below hn
        replace hS := hS.below hn
        clear hn
        go_upto_region 4 with fail
        generalize (u1.alloc _).alloc _ = W1 at *
        generalize u1.heap.size = G1 at *
        go_upto_region 10 with (go_at_call 12; refine (num_any _ _).mono ?_; rintro e w' ⟨rfl, rfl⟩)
        clear hQx
        go_wp2_with fail
        refine (CC.out _ _ hS).mono ?_; rintro e u2 ⟨⟨u, rfl, ho⟩, hb⟩; replace hB := thenB hB hb; replace hX := resB hX hb; replace hD := hD.below hb; replace hQ := resB hQ hb; clear hb hS CC
        have hU := ownsS_is ho
        have hne := fun k (hk : Value.ownBlock u = some k) => (ho.lt k hk).2
        have hlt := (TicRow.own_of ho).lt
        clear ho
        obtain ⟨p2, q2, rfl, _, _⟩ := id hU
        have g1 : G1 < u2.heap.size := hQ.1
        have g0 : w.heap.size < u2.heap.size := hX.1
        have hR := resM u2 (.int .i64 3) (.int .i64 a1_1) (.int .i64 a1_2) (.int .i64 a1_3) (.int .i64 a1_4) (.slice p2 l1_5.length q2) 24
        have hn := hal u2 (.cells #[.int .i64 3, .int .i64 a1_1, .int .i64 a1_2, .int .i64 a1_3, .int .i64 a1_4, .slice p2 l1_5.length q2] 24)
        replace hB := thenB hB hn
        replace hX := resB hX hn
        replace hD := hD.below hn
        replace hQ := resB hQ hn
        replace hlt := hlt.below hn
        clear hn hU hne
        go_upto_region 11 with fail
        generalize u2.alloc _ = W2 at *
        generalize u2.heap.size = G2 at *
        have HB := hide hB
        have HX := hide hX
        have HQ := hide hQ
        have HT := hide hlt
        clear hB hX hQ hlt hD
        go_upto_region 12 with fail
        replace hR := res0 hR (.int .i64 1)
        have hX := resO HX.out (show G2 ≠ w.heap.size by omega) 0 (.int .i64 1)
        have hQ := resO HQ.out (show G2 ≠ G1 by omega) 0 (.int .i64 1)
        have hB := HB.out.setCell (p := ⟨G2, 0, none⟩) (show w.heap.size ≤ G2 by omega) (.int .i64 1)
        have hU := (in_other HT.out (Nat.le_refl _) 0 (.int .i64 1)).st.is
        have hD := HI.out.below hB
        clear HB HX HQ HT
        generalize W2.setCell _ _ = W3 at *
        go_wp2_with fail
        refine (C6.out _ _ _ hU hD).mono ?_; rintro e u3 ⟨rfl, hb⟩; replace hB := thenB hB hb; replace hX := resB hX hb; replace hQ := resB hQ hb; clear hb hU hD hR
        go_wp2_with fail
        all_goals first | exact absurd F0.out (by assumption) | (go_ret; exact ⟨rfl, hB⟩)
      · rw [e2] at C1
        have hmn := fun ts t w => run_min Try.prog l1_5.length ts t w
        have hk : min (l1_5.length : Int) 255 = tkI ⟨2, a1_1, a1_2, a1_3, a1_4, l1_5⟩ := rfl
        rw [hk] at hmn
        clear hk
        generalize tkI ⟨2, a1_1, a1_2, a1_3, a1_4, l1_5⟩ = K at *
        have CC := hide (fun v w' h => copyDev_any ⟨2, a1_1, a1_2, a1_3, a1_4, l1_5⟩ v w' (show (l1_5.length + 2) * 32 ≤ 140737488355328 by omega) h)
        dsimp only at C1 CC h2
        have f1 : (0 : Int) < (l1_5.length : Int) := by omega
        have f2 : ((l1_5.length : Int) == 0) = false := eq_f (by omega)
        clear h2 e2 hl
        go_enter Try.func5, Try.ntmps5
        go_upto_region 3 with (go_at_call 14; refine (StsAwake.awake_any _).mono ?_; rintro e w' ⟨rfl, hb⟩; replace hB := thenB hB hb; replace hX := resB hX hb; replace hD := hD.below hb; clear hb)
        go_wp2_with fail
        refine (C1.out _ _ hD).mono ?_; rintro e u1 ⟨v1, rfl, ho1, hb⟩; replace hB := thenB hB hb; replace hX := resB hX hb; replace hD := hD.below hb; clear hb C1
        obtain ⟨p1, q1, rfl⟩ := ho1.form
        have hS := ho1.is
        clear ho1
        obtain ⟨hQ, hQx, hn, _⟩ := StsAwake.two_made u1 (.int .i64 2) (.int .i64 a1_1) (.int .i64 a1_2) (.int .i64 a1_3) (.int .i64 a1_4) (.slice p1 l1_5.length q1) (.int .i64 a1_1) (.int .i64 K) (.int .i64 2)
        replace hB := thenB hB hn
        replace hX := resB hX hn
        replace hD := hD.below hn
        replace hS := hS.below hn
        clear hn
        go_upto_region 4 with fail
        generalize (u1.alloc _).alloc _ = W1 at *
        generalize u1.heap.size = G1 at *
        go_upto_region 10 with (go_at_call 12; refine (num_any _ _).mono ?_; rintro e w' ⟨rfl, rfl⟩)
        clear hQx
        go_wp2_with fail
        refine (CC.out _ _ hS).mono ?_; rintro e u2 ⟨⟨u, rfl, ho⟩, hb⟩; replace hB := thenB hB hb; replace hX := resB hX hb; replace hD := hD.below hb; replace hQ := resB hQ hb; clear hb hS CC
        have hU := ownsS_is ho
        have hne := fun k (hk : Value.ownBlock u = some k) => (ho.lt k hk).2
        have hlt := (TicRow.own_of ho).lt
        clear ho
        obtain ⟨p2, q2, rfl, _, _⟩ := id hU
        have g1 : G1 < u2.heap.size := hQ.1
        have g0 : w.heap.size < u2.heap.size := hX.1
        have hR := resM u2 (.int .i64 2) (.int .i64 a1_1) (.int .i64 a1_2) (.int .i64 a1_3) (.int .i64 a1_4) (.slice p2 l1_5.length q2) 24
        have hn := hal u2 (.cells #[.int .i64 2, .int .i64 a1_1, .int .i64 a1_2, .int .i64 a1_3, .int .i64 a1_4, .slice p2 l1_5.length q2] 24)
        replace hB := thenB hB hn
        replace hX := resB hX hn
        replace hD := hD.below hn
        replace hQ := resB hQ hn
        replace hlt := hlt.below hn
        clear hn hU hne
        go_upto_region 11 with fail
        generalize u2.alloc _ = W2 at *
        generalize u2.heap.size = G2 at *
        have HB := hide hB
        have HX := hide hX
        have HQ := hide hQ
        have HT := hide hlt
        clear hB hX hQ hlt hD
        go_upto_region 12 with fail
        replace hR := res0 hR (.int .i64 1)
        have hX := resO HX.out (show G2 ≠ w.heap.size by omega) 0 (.int .i64 1)
        have hQ := resO HQ.out (show G2 ≠ G1 by omega) 0 (.int .i64 1)
        have hB := HB.out.setCell (p := ⟨G2, 0, none⟩) (show w.heap.size ≤ G2 by omega) (.int .i64 1)
        have hU := (in_other HT.out (Nat.le_refl _) 0 (.int .i64 1)).st.is
        have hD := HI.out.below hB
        clear HB HX HQ HT
        generalize W2.setCell _ _ = W3 at *
        go_wp2_with fail
        refine (C6.out _ _ _ hU hD).mono ?_; rintro e u3 ⟨rfl, hb⟩; replace hB := thenB hB hb; replace hX := resB hX hb; replace hQ := resB hQ hb; clear hb hU hD hR
        go_wp2_with fail
        go_ret
        exact ⟨rfl, hB⟩
    by_cases h4 : a1_0 = 4
    · rw [ask_mani (d := ⟨a1_0, a1_1, a1_2, a1_3, a1_4, l1_5⟩) h4] at C1
      subst h4
      clear h1
      by_cases he : errS a0 a1_4 a1_3 = 0
      · rw [mani_ok (d := ⟨4, a1_1, a1_2, a1_3, a1_4, l1_5⟩) he] at C1
        have hlen := (rec_len he).1
        clear he
        dsimp only at C1
        generalize recL a0 a1_4 a1_3 = L at *
        have h6 : (6 : Int) ≤ (L.length : Int) := by omega
        have hmn := fun ts t w => run_min Try.prog L.length ts t w
        have hk : min (L.length : Int) 255 = tkI ⟨5, a1_1, a1_2, a1_3, a1_4, L⟩ := rfl
        rw [hk] at hmn
        clear hk hlen hl
        generalize tkI ⟨5, a1_1, a1_2, a1_3, a1_4, L⟩ = K at *
        go_enter Try.func5, Try.ntmps5
        go_upto_region 3 with (go_at_call 14; refine (StsAwake.awake_any _).mono ?_; rintro e w' ⟨rfl, hb⟩; replace hB := thenB hB hb; replace hX := resB hX hb; replace hD := hD.below hb; clear hb)
        go_wp2_with fail
        refine (C1.out _ _ hD).mono ?_; rintro e u1 ⟨v1, rfl, ho1, hb⟩; replace hB := thenB hB hb; replace hX := resB hX hb; replace hD := hD.below hb; clear hb C1
        obtain ⟨p1, q1, rfl⟩ := ho1.form
        have hS := ho1.is
        clear ho1
        obtain ⟨hQ, hQx, hn, _⟩ := StsAwake.two_made u1 (.int .i64 5) (.int .i64 a1_1) (.int .i64 a1_2) (.int .i64 a1_3) (.int .i64 a1_4) (.slice p1 L.length q1) (.int .i64 a1_1) (.int .i64 K) (.int .i64 5)
        replace hB := thenB hB hn
        replace hX := resB hX hn
        replace hD := hD.below hn
        replace hS := hS.below hn
        clear hn
        go_upto_region 4 with fail
        generalize (u1.alloc _).alloc _ = W1 at *
        generalize u1.heap.size = G1 at *
        go_wp2_with (go_at_call 12; refine (num_any _ _).mono ?_; rintro e w' ⟨rfl, rfl⟩)
        go_ret
        exact ⟨rfl, hB⟩
      · rw [mani_no (d := ⟨4, a1_1, a1_2, a1_3, a1_4, l1_5⟩) he] at C1
        clear he
        unfold failedD at C1
        rw [show tkI ⟨7, 3, 0, 0, 0, []⟩ = 0 from rfl] at C1
        clear hl
        dsimp only [List.length_nil] at C1
        go_enter Try.func5, Try.ntmps5
        go_upto_region 3 with (go_at_call 14; refine (StsAwake.awake_any _).mono ?_; rintro e w' ⟨rfl, hb⟩; replace hB := thenB hB hb; replace hX := resB hX hb; replace hD := hD.below hb; clear hb)
        go_wp2_with fail
        refine (C1.out _ _ hD).mono ?_; rintro e u1 ⟨v1, rfl, ho1, hb⟩; replace hB := thenB hB hb; replace hX := resB hX hb; replace hD := hD.below hb; clear hb C1
        obtain ⟨p1, q1, rfl⟩ := ho1.form
        have hS := ho1.is
        clear ho1
        dsimp only [List.length_nil]
        obtain ⟨hQ, hQx, hn, _⟩ := StsAwake.two_made u1 (.int .i64 7) (.int .i64 3) (.int .i64 0) (.int .i64 0) (.int .i64 0) (.slice p1 0 q1) (.int .i64 3) (.int .i64 0) (.int .i64 7)
        replace hB := thenB hB hn
        replace hX := resB hX hn
        replace hD := hD.below hn
        replace hS := hS.below hn
        clear hn
        go_upto_region 4 with fail
        generalize (u1.alloc _).alloc _ = W1 at *
        generalize u1.heap.size = G1 at *
        go_wp2_with (go_at_call 12; refine (num_any _ _).mono ?_; rintro e w' ⟨rfl, rfl⟩)
        go_ret
        exact ⟨rfl, hB⟩
    rw [ask_other (d := ⟨a1_0, a1_1, a1_2, a1_3, a1_4, l1_5⟩) h1 h4] at C1
    have f1 := eq_f h1
    have f4 := eq_f h4
    clear h1 h4
    dsimp only at C1
    have hmn := fun ts t w => run_min Try.prog l1_5.length ts t w
    have hk : min (l1_5.length : Int) 255 = tkI ⟨a1_0, a1_1, a1_2, a1_3, a1_4, l1_5⟩ := rfl
    rw [hk] at hmn
    clear hk hl
    generalize tkI ⟨a1_0, a1_1, a1_2, a1_3, a1_4, l1_5⟩ = K at *
    go_enter Try.func5, Try.ntmps5
    go_upto_region 3 with (go_at_call 14; refine (StsAwake.awake_any _).mono ?_; rintro e w' ⟨rfl, hb⟩; replace hB := thenB hB hb; replace hX := resB hX hb; replace hD := hD.below hb; clear hb)
    go_wp2_with fail
    refine (C1.out _ _ hD).mono ?_; rintro e u1 ⟨v1, rfl, ho1, hb⟩; replace hB := thenB hB hb; replace hX := resB hX hb; replace hD := hD.below hb; clear hb C1
    obtain ⟨p1, q1, rfl⟩ := ho1.form
    have hS := ho1.is
    clear ho1
    obtain ⟨hQ, hQx, hn, _⟩ := StsAwake.two_made u1 (.int .i64 a1_0) (.int .i64 a1_1) (.int .i64 a1_2) (.int .i64 a1_3) (.int .i64 a1_4) (.slice p1 l1_5.length q1) (.int .i64 a1_1) (.int .i64 K) (.int .i64 a1_0)
    replace hB := thenB hB hn
    replace hX := resB hX hn
    replace hD := hD.below hn
    replace hS := hS.below hn
    clear hn
    go_upto_region 4 with fail
    generalize (u1.alloc _).alloc _ = W1 at *
    generalize u1.heap.size = G1 at *
    go_wp2_with (go_at_call 12; refine (num_any _ _).mono ?_; rintro e w' ⟨rfl, rfl⟩)
    refine (C6.out _ _ _ hS hD).mono ?_; rintro e u3 ⟨rfl, hb⟩; replace hB := thenB hB hb; clear hb
    go_wp2_with fail
    go_ret
    exact ⟨rfl, hB⟩

set_option maxRecDepth 100000 in
theorem lifted (os : Os) (started : os.Started) (H : Type) (enc : TypeId × Value → H) :
    ReturnsInHanded {} Try.checked os 5 .any (Rows.statusTellsSpec.pre6 enc Try.prog Try.f5 Rows.statusTellsRow.domain false) (Rows.statusTellsSpec.post enc Try.prog Try.f5 false true false false) := by
  refine returnsInHanded_of_change_sized (C := Try.checked) own started (by kernel_rfl) Try.func5
    (ChangeSpec.witness6 (enc := enc) (C := Try.checked) false ⟨#[], #[.string ByteArray.empty, .agg #[.int .i64 0, .int .i64 0, .int .i64 0, .int .i64 0, .int .i64 0, .slice none 0 0]], []⟩ 8 (by kernel_rfl) (by kernel_rfl) (by kernel_rfl) (by kernel_rfl)) ?_
  intro W base args ds gs before hval0 hW hcnd hsz0 _
  have hval : ∀ (j : Nat) t v, Try.f5.params[j]? = some t → args[j]? = some v → Value.okWide Try.prog W .any base t v := hval0
  have hW' := hW
  obtain ⟨p, q, hA0, hV, rfl, hfz, hnd⟩ := hW
  have hA : DataW.TrodAll enc Try.prog W 0 (fun _ => true) true Try.f5.params.toList args.toList ds p := hA0
  have hsz : (DataW.weightsEach Try.prog (Try.f5.params.toList ++ Rows.statusTellsSpec.plain.varTypes Try.prog) (ds ++ gs)).all (· ≤ reachBytes) = true := hsz0
  clear hsz0
  rw [Try.params5] at hA hval hsz
  obtain ⟨v0, vs0, d0, ds0, p0, q0, hargs, rfl, rfl, h0, r0⟩ := trodAll_cons hA
  obtain ⟨v1, vs1, d1, ds1, p1, q1, rfl, rfl, rfl, h1, r1⟩ := trodAll_cons r0
  obtain ⟨rfl, rfl, rfl⟩ := trodAll_nil r1
  obtain rfl : args = #[v0, v1] := by cases args; simp_all
  obtain ⟨rfl, rfl⟩ := trodVars_none hV
  obtain ⟨a0, rfl, rfl, rfl, w0⟩ := open_string Try.underlying9 (hval 0 9 v0 rfl rfl) h0
  have k1 := h1
  have lt1 : ∀ x ∈ p1, x.block < W.heap.size := by obtain ⟨m, hm⟩ := k1; exact DataW.trod_lt m _ _ _ hm
  obtain ⟨a1_0, a1_1, a1_2, a1_3, a1_4, a1_5, l1_5, rfl, w1_0, w1_1, w1_2, w1_3, w1_4, i1_5, z1_5, s1_5⟩ := open24 (hval 1 24 v1 rfl rfl) h1 lt1 (Go.Proofs.Ythdnpgkoanfijaa.DevRow.sized_arg hsz (j := 1) rfl rfl)
  clear hA0 hval0
  refine (walk a0 a1_0 a1_1 a1_2 a1_3 a1_4 a1_5 l1_5 W w0 w1_0 w1_1 w1_2 w1_3 w1_4 i1_5 z1_5 s1_5).mono fun e W' ⟨he, bel⟩ => ?_
  subst he
  exact ⟨_, rfl, _, _, _, [], _, [], hW', (trodAll_cons_mk (shut_bool Try.underlying4 _) trodAll_mk0), (trodAll_cons_mk (shut_string Try.underlying9 w0) (trodAll_cons_mk (Below.trod laidOut (by kernel_rfl) (of_decide_eq_true (by kernel_rfl)) k1 bel lt1) trodAll_mk0)), rfl, bel.frame _, fun h => by cases h⟩

theorem over : Rows.statusTellsRow.holds Try.pinned (OpenSpec.ofChange Rows.statusTellsSpec) :=
  OpenClaim.holds_of_wide 5 Try.f5 rfl rfl rfl rfl rfl rfl rfl ⟨rfl, rfl, rfl, rfl, rfl⟩ rfl rfl rfl rfl rfl (by kernel_rfl) Try.func5 (by kernel_rfl)
    (of_decide_eq_true (by kernel_rfl)) (by unfold Func.isWrapper; first | (rw [if_pos (by decide +kernel)]; kernel_rfl) | (rw [if_neg (by decide +kernel)]; exact ⟨rfl, rfl⟩))
    (fun os started H enc _ => lifted os started H enc)

theorem proved : Rows.StatusTellsSaid :=
  over
#print axioms proved
end Go.Proofs.Ythdnpgkoanfijaa.statusTells
