/- Whatever the host and the numbers, however many: the law ReplyTries returns true (each thing that goes wrong is counted, and ends it when there are too many; its image stays), and the arguments read as they did; no condition. -/
import Derived.Test.YtgkmallikomnaaaRows
import Derived.Test.YtgkmallikomnaaaBagNor
import Derived.Test.YtgkmallikomnaaaBagOps
import Derived.Test.YtgkmallikomnaaaBagDev
import Derived.Test.YtgkmallikomnaaaIntRow
import Derived.Test.YtgkmallikomnaaaBagSuf
import Derived.Test.YtgkmallikomnaaaBagHst
import Derived.Test.YtgkmallikomnaaaBagHsr
import Derived.Test.YtgkmallikomnaaaRepMath
import Derived.Test.YtgkmallikomnaaaRepFacts
import Derived.Test.YtgkmallikomnaaaRepRef
import Derived.Test.YtgkmallikomnaaaRepTake
import Derived.Test.YtgkmallikomnaaaRepWalk
import Derived.Test.YtgkmallikomnaaaRepAwake
import Derived.Test.YtgkmallikomnaaaRepSet
import Derived.Laws.StructEq
import Derived.Deep.Cut
import Derived.Deep.RegionHeld3
import Derived.WalkKit
import Derived.ProofKit
import Derived.OpenShut
import Derived.ShutString
import Derived.ChangeOld
import Derived.Below
import Derived.SizedLaws
namespace Go.Proofs.Ytgkmallikomnaaa.replyTries
open Go.ChangeShapes Go.WideShapes Go.ChangeAt Go.RowKit
open Go.ChangeMaps (open_string shut_string)
set_option linter.unusedVariables false

open Go.Proofs.Ytgkmallikomnaaa.Bytes
open Go.Proofs.Ytgkmallikomnaaa.Hst
open Go.Proofs.Ytgkmallikomnaaa.HstWalk
open Go.Proofs.Ytgkmallikomnaaa.HstAsk
open Go.Proofs.Ytgkmallikomnaaa.Rep
open Go.Proofs.Ytgkmallikomnaaa.RepFacts
open Go.Proofs.Ytgkmallikomnaaa.RepTake
open Go.Proofs.Ytgkmallikomnaaa.RepWalk
open Go.Proofs.Ytgkmallikomnaaa.RepAwake
open Go.Proofs.Ytgkmallikomnaaa.IntRow
open Go.Proofs.Ytgkmallikomnaaa.Take
theorem own : ownKnob Try.prog.godebug = none := by kernel_rfl
theorem laidOut : laidOutB Try.prog = true := by kernel_rfl
theorem field_of {H : Type} {enc : TypeId × Value → H} {P : Program} {w : World} {base : Nat} {spare : Nat → Bool} {held : Bool} {t : TypeId} {fs : Array Field} {fuel : Nat} {cs : List Value} {x : DataW H × List MemPlace} (ht : P.underlying t = some (.struct fs)) (h : DataW.trod enc P w base spare held fuel t cs = some x) (i : Nat) (f : Field) (hf : fs[i]? = some f) :
    ∃ n y, DataW.trod enc P w base spare held n f.type ((cs.drop f.offset).take (P.cellsOf f.type)) = some y := by
  obtain ⟨xs, n, _, _, _, hlen, hq⟩ := DataW.trod_struct ht h
  have hi : i < xs.length := by
    rw [hlen]
    rcases Nat.lt_or_ge i fs.size with h1 | h1
    · exact h1
    · rw [Array.getElem?_eq_none h1] at hf; cases hf
  exact ⟨n, xs[i], by rw [hq i f hf, List.getElem?_eq_getElem hi]⟩
theorem list23 {l : List Value} (h : l.length = 7) : ∃ c0 c1 c2 c3 c4 c5 c6, l = [c0, c1, c2, c3, c4, c5, c6] := by
  match l, h with
  | [c0, c1, c2, c3, c4, c5, c6], _ => exact ⟨c0, c1, c2, c3, c4, c5, c6, rfl⟩
set_option maxRecDepth 100000 in
theorem open23 {H : Type} {enc : TypeId × Value → H} {w : World} {base : Nat} {spare : Nat → Bool} {held : Bool} {r : Reach} {b0 : Nat} {v : Value} {d : DataW H} {p : List MemPlace} (hv : Value.okWide Try.prog w r b0 23 v) (h : DataW.Trod enc Try.prog w base spare held 23 v d p) :
    ∃ (x0 : Int) (x1 : ByteArray) (x2 : Int) (x3 : Bool) (x4 : Int) (x5 : ByteArray) (x6 : Int), v = .agg #[.int .i64 x0, .string x1, .int .i64 x2, .bool x3, .int .i64 x4, .string x5, .int .i64 x6] ∧ (Lit.int .i64 x0).wf = true ∧ x1.size ≤ maxLen ∧ (Lit.int .i64 x2).wf = true ∧ (Lit.int .i64 x4).wf = true ∧ x5.size ≤ maxLen ∧ (Lit.int .i64 x6).wf = true := by
  obtain ⟨cs, rfl, hsz0⟩ := okWide_struct Try.underlying23 hv
  have hc : Try.prog.cellsOf 23 = 7 := by kernel_rfl
  rw [hc] at hsz0
  obtain ⟨l⟩ := cs
  obtain ⟨c0, c1, c2, c3, c4, c5, c6, rfl⟩ := list23 (l := l) (by simpa using hsz0)
  obtain ⟨fuel, hf⟩ := h
  have k0 : Try.prog.cellsOf 3 = 1 := by kernel_rfl
  obtain ⟨n0, y0, h0⟩ := field_of Try.underlying23 hf 0 _ rfl
  have g0 : DataW.trod enc Try.prog w base spare held n0 3 [c0] = some y0 := by simpa [Value.cells, k0] using h0
  obtain ⟨x0, e0, _, w0⟩ := DataW.trod_int Try.underlying3 g0
  obtain rfl := (List.cons.inj e0).1
  have k1 : Try.prog.cellsOf 9 = 1 := by kernel_rfl
  obtain ⟨n1, y1, h1⟩ := field_of Try.underlying23 hf 1 _ rfl
  have g1 : DataW.trod enc Try.prog w base spare held n1 9 [c1] = some y1 := by simpa [Value.cells, k1] using h1
  obtain ⟨x1, e1, _, w1⟩ := DataW.trod_string Try.underlying9 g1
  obtain rfl := (List.cons.inj e1).1
  have k2 : Try.prog.cellsOf 3 = 1 := by kernel_rfl
  obtain ⟨n2, y2, h2⟩ := field_of Try.underlying23 hf 2 _ rfl
  have g2 : DataW.trod enc Try.prog w base spare held n2 3 [c2] = some y2 := by simpa [Value.cells, k2] using h2
  obtain ⟨x2, e2, _, w2⟩ := DataW.trod_int Try.underlying3 g2
  obtain rfl := (List.cons.inj e2).1
  have k3 : Try.prog.cellsOf 4 = 1 := by kernel_rfl
  obtain ⟨n3, y3, h3⟩ := field_of Try.underlying23 hf 3 _ rfl
  have g3 : DataW.trod enc Try.prog w base spare held n3 4 [c3] = some y3 := by simpa [Value.cells, k3] using h3
  obtain ⟨x3, e3, _⟩ := DataW.trod_bool Try.underlying4 g3
  obtain rfl := (List.cons.inj e3).1
  have k4 : Try.prog.cellsOf 3 = 1 := by kernel_rfl
  obtain ⟨n4, y4, h4⟩ := field_of Try.underlying23 hf 4 _ rfl
  have g4 : DataW.trod enc Try.prog w base spare held n4 3 [c4] = some y4 := by simpa [Value.cells, k4] using h4
  obtain ⟨x4, e4, _, w4⟩ := DataW.trod_int Try.underlying3 g4
  obtain rfl := (List.cons.inj e4).1
  have k5 : Try.prog.cellsOf 9 = 1 := by kernel_rfl
  obtain ⟨n5, y5, h5⟩ := field_of Try.underlying23 hf 5 _ rfl
  have g5 : DataW.trod enc Try.prog w base spare held n5 9 [c5] = some y5 := by simpa [Value.cells, k5] using h5
  obtain ⟨x5, e5, _, w5⟩ := DataW.trod_string Try.underlying9 g5
  obtain rfl := (List.cons.inj e5).1
  have k6 : Try.prog.cellsOf 3 = 1 := by kernel_rfl
  obtain ⟨n6, y6, h6⟩ := field_of Try.underlying23 hf 6 _ rfl
  have g6 : DataW.trod enc Try.prog w base spare held n6 3 [c6] = some y6 := by simpa [Value.cells, k6] using h6
  obtain ⟨x6, e6, _, w6⟩ := DataW.trod_int Try.underlying3 g6
  obtain rfl := (List.cons.inj e6).1
  exact ⟨x0, x1, x2, x3, x4, x5, x6, rfl, w0, w1, w2, w4, w5, w6⟩

open Go.Proofs.Ytgkmallikomnaaa.IdtWalk (num_any)
open List (setIfInBounds_toArray set_cons_zero set_cons_succ)
/-- One thing more that goes wrong: too many, or one more. -/
theorem more_wrong {h : FHost} (g : okH h = true) (lo : Bool) : ∃ X : FHost, takeH h lo (!lo) ⟨#[]⟩ = X ∧ X.im = h.im ∧ hostB X.ph X.im X.bl X.tr X.rd X.rp = true ∧ ((h.tr = 8 ∧ X.ph = 7 ∧ X.rp = 2 ∧ X.tr = 8) ∨ (h.tr < 8 ∧ ¬ X.ph = 7 ∧ X.tr = h.tr + 1 ∧ okH X = true)) := by
  obtain ⟨g1, _, _, _, g5, _⟩ := ok_nums g
  have hk := kept_take g lo (!lo) ⟨#[]⟩
  refine ⟨_, rfl, hk.im, hk.may, ?_⟩
  have hm := hk.may
  rw [take_ok _ _ _ g] at hm ⊢
  cases ho : overB h with
  | true =>
    have h8 := over_iff.1 ho
    have e1 : lostH h = overH h := by unfold lostH; rw [ho]; rfl
    have e2 : anewH h = overH h := by unfold anewH; rw [ho]; rfl
    left
    cases lo
    · show _ ∧ (anewH h).ph = 7 ∧ (anewH h).rp = 2 ∧ (anewH h).tr = 8
      rw [e2]
      exact ⟨by omega, rfl, rfl, rfl⟩
    · show _ ∧ (lostH h).ph = 7 ∧ (lostH h).rp = 2 ∧ (lostH h).tr = 8
      rw [e1]
      exact ⟨by omega, rfl, rfl, rfl⟩
  | false =>
    have h8 := over_not.1 ho
    have e1 : lostH h = goneH h := by unfold lostH; rw [ho]; rfl
    have e2 : anewH h = freshH h := by unfold anewH; rw [ho]; rfl
    right
    cases lo
    · change mayH (anewH h) = true at hm
      show _ ∧ ¬ (anewH h).ph = 7 ∧ (anewH h).tr = h.tr + 1 ∧ okH (anewH h) = true
      rw [e2] at hm ⊢
      exact ⟨by omega, by show ¬ (1 : Int) = 7; decide, rfl, ok_parts.2 ⟨hm, by show ¬ (1 : Int) = 0; decide, by show ¬ (1 : Int) = 7; decide⟩⟩
    · change mayH (lostH h) = true at hm
      show _ ∧ ¬ (lostH h).ph = 7 ∧ (lostH h).tr = h.tr + 1 ∧ okH (lostH h) = true
      rw [e1] at hm ⊢
      have hp : ¬ (goneH h).ph = 7 ∧ ¬ (goneH h).ph = 0 ∧ (goneH h).tr = h.tr + 1 := by
        unfold goneH freshH moreH
        split
        · exact ⟨by show ¬ (1 : Int) = 7; decide, by show ¬ (1 : Int) = 0; decide, rfl⟩
        · split
          · exact ⟨by show ¬ (3 : Int) = 7; decide, by show ¬ (3 : Int) = 0; decide, rfl⟩
          · split
            · exact ⟨by show ¬ (5 : Int) = 7; decide, by show ¬ (5 : Int) = 0; decide, rfl⟩
            · split
              · exact ⟨by show ¬ (1 : Int) = 7; decide, by show ¬ (1 : Int) = 0; decide, rfl⟩
              · exact ⟨by show ¬ h.ph = 7; omega, by show ¬ h.ph = 0; omega, rfl⟩
      exact ⟨by omega, hp.1, hp.2.2, ok_parts.2 ⟨hm, hp.2.1, hp.1⟩⟩
set_option maxRecDepth 100000 in
set_option maxHeartbeats 8000000 in
theorem walk (a0_0 : Int) (a0_1 : ByteArray) (a0_2 : Int) (a0_3 : Bool) (a0_4 : Int) (a0_5 : ByteArray) (a0_6 : Int) (v1 : Value) (l1 : List Int) (w : World) (w0_0 : (Lit.int .i64 a0_0).wf = true) (w0_1 : a0_1.size ≤ maxLen) (w0_2 : (Lit.int .i64 a0_2).wf = true) (w0_4 : (Lit.int .i64 a0_4).wf = true) (w0_5 : a0_5.size ≤ maxLen) (w0_6 : (Lit.int .i64 a0_6).wf = true) (i1 : Go.Proofs.Ytgkmallikomnaaa.IntRow.IsInts w v1 l1) :
    Calls Try.prog 5 #[.agg #[.int .i64 a0_0, .string a0_1, .int .i64 a0_2, .bool a0_3, .int .i64 a0_4, .string a0_5, .int .i64 a0_6], v1] w fun e w' => e = .returned (.bool true) ∧ Below w.heap.size w w' := by
  have hX := sevRM w (.int .i64 a0_0) (.string a0_1) (.int .i64 a0_2) (.bool a0_3) (.int .i64 a0_4) (.string a0_5) (.int .i64 a0_6) 23
  have hB := hal w (.cells #[.int .i64 a0_0, .string a0_1, .int .i64 a0_2, .bool a0_3, .int .i64 a0_4, .string a0_5, .int .i64 a0_6] 23)
  have b1 := build_rls
  have CW := hide (fun w => awake_any w)
  have CM := hide (fun w => HstRef.refHMay_any a0_0 a0_1 a0_2 a0_3 a0_4 a0_5 a0_6 w)
  obtain ⟨a, ca, rfl, hlm, hrow⟩ := i1
  cases g : okH ⟨a0_0, a0_1, a0_2, a0_3, a0_4, a0_5, a0_6⟩ with
  | false =>
    have hc : hostB a0_0 a0_1 a0_2 a0_4 a0_5 a0_6 = false ∨ hostB a0_0 a0_1 a0_2 a0_4 a0_5 a0_6 = true ∧ (a0_0 = 0 ∨ a0_0 = 7) := by
      unfold okH askB restB at g
      cases h1 : hostB a0_0 a0_1 a0_2 a0_4 a0_5 a0_6 with
      | false => exact .inl rfl
      | true =>
        dsimp only at g
        rw [h1, Bool.true_and, Bool.not_eq_false', decide_eq_true_iff] at g
        exact .inr ⟨rfl, g⟩
    clear g hrow
    rcases hc with h1 | ⟨h1, rfl | rfl⟩
    all_goals
      rw [h1] at CM
      clear h1
      go_enter Try.func5, Try.ntmps5
      go_upto_region 1 with fail
      generalize w.alloc _ = W at *
      go_wp2_with (first | (go_at_call 12; refine (CW.out _).mono ?_; rintro e1 w1 ⟨rfl, hb⟩; replace hB := thenB hB hb; replace hX := sevRB hX hb; clear hb) | (go_at_call 14; refine (CM.out _).mono ?_; rintro e1 w2 ⟨rfl, hb⟩; replace hB := thenB hB hb; replace hX := sevRB hX hb; clear hb))
      go_ret
      exact ⟨rfl, hB⟩
  | true =>
    obtain ⟨g0, g2, g3⟩ := ok_parts.1 g
    obtain ⟨gp, _, _, _, gt, _⟩ := ok_nums g
    have HG := hide g
    unfold mayH at g0
    dsimp only at g0 g2 g3 gp gt
    rw [g0] at CM
    have q0 : (a0_0 == 0) = false := beq_eq_false_iff_ne.2 g2
    have q7 : (a0_0 == 7) = false := beq_eq_false_iff_ne.2 g3
    have HT := hide (fun (h : FHost) (k : okH h = true) (lo : Bool) => more_wrong k lo)
    have HTake := hide (fun (h X : FHost) (k : okH h = true) (lo : Bool) (e : takeH h lo (!lo) ⟨#[]⟩ = X) w => took (t := ⟨#[]⟩) k e (by decide) w)
    have HMay := hide (fun (x : FHost) (k : hostB x.ph x.im x.bl x.tr x.rd x.rp = true) (w : World) => show Calls Try.prog 14 #[.agg #[.int .i64 x.ph, .string x.im, .int .i64 x.bl, .bool x.ag, .int .i64 x.tr, .string x.rd, .int .i64 x.rp]] w fun e w' => e = .returned (.bool true) ∧ Below w.heap.size w w' from by have q := HstRef.refHMay_any x.ph x.im x.bl x.ag x.tr x.rd x.rp w; rw [k] at q; exact q)
    clear g g0
    go_enter Try.func5, Try.ntmps5
    go_upto_region 1 with fail
    generalize w.alloc _ = W at *
    go_upto_region 5 with (first | (go_at_call 12; refine (CW.out _).mono ?_; rintro e1 w1 ⟨rfl, hb⟩; replace hB := thenB hB hb; replace hX := sevRB hX hb; clear hb) | (go_at_call 14; refine (CM.out _).mono ?_; rintro e1 w2 ⟨rfl, hb⟩; replace hB := thenB hB hb; replace hX := sevRB hX hb; clear hb))
    clear CW CM g2 g3 gp
    have hlen : l1.length ≤ 9223372036854775807 := by unfold maxLen at hlm; omega
    go_wp2_with fail
    go_loopw [6] (fun y wr => ∃ (n : Nat) (h : FHost), n ≤ 12 ∧ n ≤ l1.length ∧ y = .int .i64 n ∧ Hid (okH h = true) ∧ Hid (h.im = a0_1) ∧ Hid (h.tr = a0_4 + n) ∧ SevR wr w.heap.size (.int .i64 h.ph) (.string h.im) (.int .i64 h.bl) (.bool h.ag) (.int .i64 h.tr) (.string h.rd) (.int .i64 h.rp) ∧ Below w.heap.size w wr) (fun y _ => 12 - (intOf y).toNat)
    case atStart => exact ⟨0, ⟨a0_0, a0_1, a0_2, a0_3, a0_4, a0_5, a0_6⟩, by omega, by omega, rfl, HG.out, rfl, show a0_4 = a0_4 + ((0 : Nat) : Int) by omega, hX, hB⟩
    case round =>
      clear hX hB HG
      obtain ⟨n, h, hn12, hnl, rfl, HO, HI, HTR, hX, hB⟩ := hrel
      by_cases hgo : n < l1.length ∧ n < 12
      · obtain ⟨hl, h12⟩ := hgo
        have ho8 := (ok_nums HO.out).2.2.2.2.1
        rcases hrow with h0 | ⟨bq, oq, rfl, h1, h2, h3, h4⟩
        · rw [h0] at hl; exact absurd hl (Nat.not_lt_zero _)
        have hc : At w bq (oq + n) (.int .i64 l1[n]) := ⟨h3, h4 n hl⟩
        replace hc := atB hc hB
        have hbq : bq < w.heap.size := h3
        clear h4 h3
        have hb1 : bits .and .i64 l1[n] 1 = 0 ∨ bits .and .i64 l1[n] 1 = 1 := by
          obtain ⟨q, hq, e⟩ := mask_i64 l1[n] 1 (by omega)
          have e' : bits .and .i64 l1[n] 1 = (q : Int) := e
          omega
        generalize l1[n] = zn at *
        have hg1 : decide ((n : Int) < (l1.length : Int)) = true := decide_eq_true (by omega)
        have hg2 : decide ((n : Int) < 12) = true := decide_eq_true (by omega)
        generalize l1.length = L at *
        rcases hb1 with hb1 | hb1
        · skip
          obtain ⟨X, eX, i1, i2, i3⟩ := HT.out h HO.out false
          have CU := hide (HTake.out h X HO.out false eX)
          have CY := hide (HMay.out X i2)
          obtain ⟨ph, im, bl, ag, tr, rd, rp⟩ := h
          obtain ⟨y0, y1, y2, y3, y4, y5, y6⟩ := X
          unfold Taken at CU
          dsimp only [Bool.not_true, Bool.not_false] at *
          subst i1
          clear HT HTake HMay i2 eX HO
          rcases i3 with ⟨i3, rfl, rfl, rfl⟩ | ⟨i3, i4, rfl, i5⟩
          · subst i3
            have qL : ((n : Int) == 8 - a0_4) = true := by rw [beq_iff_eq]; have := HTR.out; (try dsimp only at this); omega
            clear HTR HI
            go_upto_region 9 with fail
            refine wp_region_noPanic ?_
            refine wp_region_held_drew (S := fun X => (X.cell? ⟨w.heap.size, 0, none⟩ = some (.int .i64 ph) ∧ X.cell? ⟨w.heap.size, 1, none⟩ = some (.string y1) ∧ X.cell? ⟨w.heap.size, 2, none⟩ = some (.int .i64 bl) ∧ X.cell? ⟨w.heap.size, 3, none⟩ = some (.bool ag) ∧ X.cell? ⟨w.heap.size, 4, none⟩ = some (.int .i64 8) ∧ X.cell? ⟨w.heap.size, 5, none⟩ = some (.string rd) ∧ X.cell? ⟨w.heap.size, 6, none⟩ = some (.int .i64 rp)) ∧ X.cell? ⟨bq, oq + n, none⟩ = some (.int .i64 zn)) (by kernel_rfl) (by exact ⟨⟨hX.2.1, hX.2.2.1, hX.2.2.2.1, hX.2.2.2.2.1, hX.2.2.2.2.2.1, hX.2.2.2.2.2.2.1, hX.2.2.2.2.2.2.2.1⟩, hc.2⟩) (fun hHeld => ?_)
            change SevR wr.drew _ _ _ _ _ _ _ _ at hX
            change At wr.drew _ _ _ at hc
            replace hB : Below w.heap.size w wr.drew := ⟨hB.os, hB.tape, hB.output, hB.size, hB.block⟩
            generalize wr.drew = wd at *
            refine tk 0 ?_; simp only [Act.put, setIfInBounds_toArray, set_cons_zero, set_cons_succ]
            refine tk 1 ?_; simp only [Act.put, setIfInBounds_toArray, set_cons_zero, set_cons_succ]
            refine tk 2 ?_; simp only [Act.put, setIfInBounds_toArray, set_cons_zero, set_cons_succ]
            refine tk 3 ?_; simp only [Act.put, setIfInBounds_toArray, set_cons_zero, set_cons_succ]
            refine tk 4 ?_; simp only [Act.put, setIfInBounds_toArray, set_cons_zero, set_cons_succ]
            refine tk 5 ?_; simp only [Act.put, setIfInBounds_toArray, set_cons_zero, set_cons_succ]
            refine tk 6 ?_; simp only [Act.put, setIfInBounds_toArray, set_cons_zero, set_cons_succ]
            refine tk 7 ?_; simp only [Act.put, setIfInBounds_toArray, set_cons_zero, set_cons_succ]
            refine tk 8 ?_; simp only [Act.put, setIfInBounds_toArray, set_cons_zero, set_cons_succ]
            refine tk 9 ?_; simp only [Act.put, setIfInBounds_toArray, set_cons_zero, set_cons_succ]
            refine tk 10 ?_; simp only [Act.put, setIfInBounds_toArray, set_cons_zero, set_cons_succ]
            refine tk 11 ?_; simp only [Act.put, setIfInBounds_toArray, set_cons_zero, set_cons_succ]
            refine tk 12 ?_; simp only [Act.put, setIfInBounds_toArray, set_cons_zero, set_cons_succ]
            refine tk 13 ?_; simp only [Act.put, setIfInBounds_toArray, set_cons_zero, set_cons_succ]
            refine wpAnyH_ready (rs := [14, 18]) (by kernel_rfl) (by simp) ?_
            refine AllReadyH.cons rfl (fun K hK => ?_) ?_
            ·
             go_simp
             go_at_call 9
             refine (CU.out _).mono ?_
             rintro e1 z1 ⟨rfl, hb⟩
             replace hB := thenB hB hb
             replace hX := sevRB hX hb
             replace hc := atB hc hb
             clear hb
             refine hK.out _ _ (by exact ⟨⟨hX.2.1, hX.2.2.1, hX.2.2.2.1, hX.2.2.2.2.1, hX.2.2.2.2.2.1, hX.2.2.2.2.2.2.1, hX.2.2.2.2.2.2.2.1⟩, hc.2⟩) (fun hHeld => ?_)
             clear hK K
             try simp only [Act.put, setIfInBounds_toArray, set_cons_zero, set_cons_succ]
             refine tk 15 ?_; simp only [Act.put, setIfInBounds_toArray, set_cons_zero, set_cons_succ]
             refine tk 16 ?_; simp only [Act.put, setIfInBounds_toArray, set_cons_zero, set_cons_succ]
             refine tk 17 ?_; simp only [Act.put, setIfInBounds_toArray, set_cons_zero, set_cons_succ]
             refine wpAnyH_ready (rs := [18]) (by kernel_rfl) (by simp) ?_
             refine AllReadyH.cons rfl (fun K hK => ?_) ?_
             ·
              go_simp
              have hb := hal z1 (.cells #[.int .i64 0, .string ⟨#[]⟩, .int .i64 0, .bool false, .int .i64 0, .string ⟨#[]⟩, .int .i64 0] 23)
              have hU := sevRM z1 (.int .i64 0) (.string ⟨#[]⟩) (.int .i64 0) (.bool false) (.int .i64 0) (.string ⟨#[]⟩) (.int .i64 0) 23
              have hGB := hX.1
              have hGc := hc.1
              have hG0 := hB.size
              replace hB := thenB hB hb
              replace hX := sevRB hX hb
              replace hc := atB hc hb
              clear hb
              refine hK.out _ _ (by exact ⟨⟨hX.2.1, hX.2.2.1, hX.2.2.2.1, hX.2.2.2.2.1, hX.2.2.2.2.2.1, hX.2.2.2.2.2.2.1, hX.2.2.2.2.2.2.2.1⟩, hc.2⟩) (fun hHeld => ?_)
              clear hK K
              try simp only [Act.put, setIfInBounds_toArray, set_cons_zero, set_cons_succ]
              generalize z1.alloc (.cells #[.int .i64 0, .string ⟨#[]⟩, .int .i64 0, .bool false, .int .i64 0, .string ⟨#[]⟩, .int .i64 0] 23) = z2 at *
              generalize z1.heap.size = G at *
              refine wpAnyH_ready (rs := [19]) (by kernel_rfl) (by simp) ?_
              refine AllReadyH.cons rfl (fun K hK => ?_) ?_
              ·
               go_simp
               replace hU := RepSet.setAll hU (.int .i64 7) (.string y1) (.int .i64 y2) (.bool y3) (.int .i64 8) (.string y5) (.int .i64 2)
               replace hX := RepSet.setO7 hX (show G ≠ w.heap.size by omega) (.int .i64 7) (.string y1) (.int .i64 y2) (.bool y3) (.int .i64 8) (.string y5) (.int .i64 2)
               replace hc := atO7 hc (show G ≠ bq by omega) (.int .i64 7) (.string y1) (.int .i64 y2) (.bool y3) (.int .i64 8) (.string y5) (.int .i64 2)
               replace hB := HstHost.set7 (x0 := .int .i64 7) (x1 := .string y1) (x2 := .int .i64 y2) (x3 := .bool y3) (x4 := .int .i64 8) (x5 := .string y5) (x6 := .int .i64 2) hB hG0
               refine hK.out _ _ (by exact ⟨⟨hX.2.1, hX.2.2.1, hX.2.2.2.1, hX.2.2.2.2.1, hX.2.2.2.2.2.1, hX.2.2.2.2.2.2.1, hX.2.2.2.2.2.2.2.1⟩, hc.2⟩) (fun hHeld => ?_)
               clear hK K
               try simp only [Act.put, setIfInBounds_toArray, set_cons_zero, set_cons_succ]
               generalize (((((((z2.setCell ⟨G, 0, none⟩ (.int .i64 7)).setCell ⟨G, 1, none⟩ (.string y1)).setCell ⟨G, 2, none⟩ (.int .i64 y2)).setCell ⟨G, 3, none⟩ (.bool y3)).setCell ⟨G, 4, none⟩ (.int .i64 8)).setCell ⟨G, 5, none⟩ (.string y5)).setCell ⟨G, 6, none⟩ (.int .i64 2)) = z3 at *
               refine tk 20 ?_; simp only [Act.put, setIfInBounds_toArray, set_cons_zero, set_cons_succ]
               refine wpAnyH_done (by kernel_rfl) ?_ _
               refine NoPanic.normal ?_
               go_wp2_with (first | (go_at_call 11; refine (num_any _ _).mono ?_; rintro e1 w' ⟨rfl, rfl⟩) | (go_at_call 14; refine (CY.out _).mono ?_; rintro e1 w9 ⟨rfl, hb⟩; replace hB := thenB hB hb; replace hX := sevRB hX hb; replace hU := sevRB hU hb; clear hb))
               go_ret
               exact ⟨rfl, hB⟩
              exact AllReadyH.nil
             exact AllReadyH.nil
            refine AllReadyH.cons rfl (fun K hK => ?_) ?_
            ·
             go_simp
             have hb := hal wd (.cells #[.int .i64 0, .string ⟨#[]⟩, .int .i64 0, .bool false, .int .i64 0, .string ⟨#[]⟩, .int .i64 0] 23)
             have hU := sevRM wd (.int .i64 0) (.string ⟨#[]⟩) (.int .i64 0) (.bool false) (.int .i64 0) (.string ⟨#[]⟩) (.int .i64 0) 23
             have hGB := hX.1
             have hGc := hc.1
             have hG0 := hB.size
             replace hB := thenB hB hb
             replace hX := sevRB hX hb
             replace hc := atB hc hb
             clear hb
             refine hK.out _ _ (by exact ⟨⟨hX.2.1, hX.2.2.1, hX.2.2.2.1, hX.2.2.2.2.1, hX.2.2.2.2.2.1, hX.2.2.2.2.2.2.1, hX.2.2.2.2.2.2.2.1⟩, hc.2⟩) (fun hHeld => ?_)
             clear hK K
             try simp only [Act.put, setIfInBounds_toArray, set_cons_zero, set_cons_succ]
             generalize wd.alloc (.cells #[.int .i64 0, .string ⟨#[]⟩, .int .i64 0, .bool false, .int .i64 0, .string ⟨#[]⟩, .int .i64 0] 23) = z4 at *
             generalize wd.heap.size = G at *
             refine wpAnyH_ready (rs := [14]) (by kernel_rfl) (by simp) ?_
             refine AllReadyH.cons rfl (fun K hK => ?_) ?_
             ·
              go_simp
              go_at_call 9
              refine (CU.out _).mono ?_
              rintro e1 z5 ⟨rfl, hb⟩
              replace hB := thenB hB hb
              replace hX := sevRB hX hb
              replace hc := atB hc hb
              replace hU := sevRB hU hb
              clear hb
              refine hK.out _ _ (by exact ⟨⟨hX.2.1, hX.2.2.1, hX.2.2.2.1, hX.2.2.2.2.1, hX.2.2.2.2.2.1, hX.2.2.2.2.2.2.1, hX.2.2.2.2.2.2.2.1⟩, hc.2⟩) (fun hHeld => ?_)
              clear hK K
              try simp only [Act.put, setIfInBounds_toArray, set_cons_zero, set_cons_succ]
              refine tk 15 ?_; simp only [Act.put, setIfInBounds_toArray, set_cons_zero, set_cons_succ]
              refine tk 16 ?_; simp only [Act.put, setIfInBounds_toArray, set_cons_zero, set_cons_succ]
              refine tk 17 ?_; simp only [Act.put, setIfInBounds_toArray, set_cons_zero, set_cons_succ]
              refine wpAnyH_ready (rs := [19]) (by kernel_rfl) (by simp) ?_
              refine AllReadyH.cons rfl (fun K hK => ?_) ?_
              ·
               go_simp
               replace hU := RepSet.setAll hU (.int .i64 7) (.string y1) (.int .i64 y2) (.bool y3) (.int .i64 8) (.string y5) (.int .i64 2)
               replace hX := RepSet.setO7 hX (show G ≠ w.heap.size by omega) (.int .i64 7) (.string y1) (.int .i64 y2) (.bool y3) (.int .i64 8) (.string y5) (.int .i64 2)
               replace hc := atO7 hc (show G ≠ bq by omega) (.int .i64 7) (.string y1) (.int .i64 y2) (.bool y3) (.int .i64 8) (.string y5) (.int .i64 2)
               replace hB := HstHost.set7 (x0 := .int .i64 7) (x1 := .string y1) (x2 := .int .i64 y2) (x3 := .bool y3) (x4 := .int .i64 8) (x5 := .string y5) (x6 := .int .i64 2) hB hG0
               refine hK.out _ _ (by exact ⟨⟨hX.2.1, hX.2.2.1, hX.2.2.2.1, hX.2.2.2.2.1, hX.2.2.2.2.2.1, hX.2.2.2.2.2.2.1, hX.2.2.2.2.2.2.2.1⟩, hc.2⟩) (fun hHeld => ?_)
               clear hK K
               try simp only [Act.put, setIfInBounds_toArray, set_cons_zero, set_cons_succ]
               generalize (((((((z5.setCell ⟨G, 0, none⟩ (.int .i64 7)).setCell ⟨G, 1, none⟩ (.string y1)).setCell ⟨G, 2, none⟩ (.int .i64 y2)).setCell ⟨G, 3, none⟩ (.bool y3)).setCell ⟨G, 4, none⟩ (.int .i64 8)).setCell ⟨G, 5, none⟩ (.string y5)).setCell ⟨G, 6, none⟩ (.int .i64 2)) = z6 at *
               refine tk 20 ?_; simp only [Act.put, setIfInBounds_toArray, set_cons_zero, set_cons_succ]
               refine wpAnyH_done (by kernel_rfl) ?_ _
               refine NoPanic.normal ?_
               go_wp2_with (first | (go_at_call 11; refine (num_any _ _).mono ?_; rintro e1 w' ⟨rfl, rfl⟩) | (go_at_call 14; refine (CY.out _).mono ?_; rintro e1 w9 ⟨rfl, hb⟩; replace hB := thenB hB hb; replace hX := sevRB hX hb; replace hU := sevRB hU hb; clear hb))
               go_ret
               exact ⟨rfl, hB⟩
              exact AllReadyH.nil
             exact AllReadyH.nil
            exact AllReadyH.nil
          · have HOX := hide i5
            have qL : ((n : Int) == 8 - a0_4) = false := by rw [beq_eq_false_iff_ne]; have := HTR.out; (try dsimp only at this); omega
            have HTR2 : Hid (tr + 1 = a0_4 + ((n + 1 : Nat) : Int)) := by have := HTR.out; (try dsimp only at this); show tr + 1 = _; omega
            have q77 : (y0 == 7) = false := beq_eq_false_iff_ne.2 i4
            clear i5 i4 HTR
            go_upto_region 9 with fail
            refine wp_region_noPanic ?_
            refine wp_region_held_drew (S := fun X => (X.cell? ⟨w.heap.size, 0, none⟩ = some (.int .i64 ph) ∧ X.cell? ⟨w.heap.size, 1, none⟩ = some (.string y1) ∧ X.cell? ⟨w.heap.size, 2, none⟩ = some (.int .i64 bl) ∧ X.cell? ⟨w.heap.size, 3, none⟩ = some (.bool ag) ∧ X.cell? ⟨w.heap.size, 4, none⟩ = some (.int .i64 tr) ∧ X.cell? ⟨w.heap.size, 5, none⟩ = some (.string rd) ∧ X.cell? ⟨w.heap.size, 6, none⟩ = some (.int .i64 rp)) ∧ X.cell? ⟨bq, oq + n, none⟩ = some (.int .i64 zn)) (by kernel_rfl) (by exact ⟨⟨hX.2.1, hX.2.2.1, hX.2.2.2.1, hX.2.2.2.2.1, hX.2.2.2.2.2.1, hX.2.2.2.2.2.2.1, hX.2.2.2.2.2.2.2.1⟩, hc.2⟩) (fun hHeld => ?_)
            change SevR wr.drew _ _ _ _ _ _ _ _ at hX
            change At wr.drew _ _ _ at hc
            replace hB : Below w.heap.size w wr.drew := ⟨hB.os, hB.tape, hB.output, hB.size, hB.block⟩
            generalize wr.drew = wd at *
            refine tk 0 ?_; simp only [Act.put, setIfInBounds_toArray, set_cons_zero, set_cons_succ]
            refine tk 1 ?_; simp only [Act.put, setIfInBounds_toArray, set_cons_zero, set_cons_succ]
            refine tk 2 ?_; simp only [Act.put, setIfInBounds_toArray, set_cons_zero, set_cons_succ]
            refine tk 3 ?_; simp only [Act.put, setIfInBounds_toArray, set_cons_zero, set_cons_succ]
            refine tk 4 ?_; simp only [Act.put, setIfInBounds_toArray, set_cons_zero, set_cons_succ]
            refine tk 5 ?_; simp only [Act.put, setIfInBounds_toArray, set_cons_zero, set_cons_succ]
            refine tk 6 ?_; simp only [Act.put, setIfInBounds_toArray, set_cons_zero, set_cons_succ]
            refine tk 7 ?_; simp only [Act.put, setIfInBounds_toArray, set_cons_zero, set_cons_succ]
            refine tk 8 ?_; simp only [Act.put, setIfInBounds_toArray, set_cons_zero, set_cons_succ]
            refine tk 9 ?_; simp only [Act.put, setIfInBounds_toArray, set_cons_zero, set_cons_succ]
            refine tk 10 ?_; simp only [Act.put, setIfInBounds_toArray, set_cons_zero, set_cons_succ]
            refine tk 11 ?_; simp only [Act.put, setIfInBounds_toArray, set_cons_zero, set_cons_succ]
            refine tk 12 ?_; simp only [Act.put, setIfInBounds_toArray, set_cons_zero, set_cons_succ]
            refine tk 13 ?_; simp only [Act.put, setIfInBounds_toArray, set_cons_zero, set_cons_succ]
            refine wpAnyH_ready (rs := [14, 18]) (by kernel_rfl) (by simp) ?_
            refine AllReadyH.cons rfl (fun K hK => ?_) ?_
            ·
             go_simp
             go_at_call 9
             refine (CU.out _).mono ?_
             rintro e1 z1 ⟨rfl, hb⟩
             replace hB := thenB hB hb
             replace hX := sevRB hX hb
             replace hc := atB hc hb
             clear hb
             refine hK.out _ _ (by exact ⟨⟨hX.2.1, hX.2.2.1, hX.2.2.2.1, hX.2.2.2.2.1, hX.2.2.2.2.2.1, hX.2.2.2.2.2.2.1, hX.2.2.2.2.2.2.2.1⟩, hc.2⟩) (fun hHeld => ?_)
             clear hK K
             try simp only [Act.put, setIfInBounds_toArray, set_cons_zero, set_cons_succ]
             refine tk 15 ?_; simp only [Act.put, setIfInBounds_toArray, set_cons_zero, set_cons_succ]
             refine tk 16 ?_; simp only [Act.put, setIfInBounds_toArray, set_cons_zero, set_cons_succ]
             refine tk 17 ?_; simp only [Act.put, setIfInBounds_toArray, set_cons_zero, set_cons_succ]
             refine wpAnyH_ready (rs := [18]) (by kernel_rfl) (by simp) ?_
             refine AllReadyH.cons rfl (fun K hK => ?_) ?_
             ·
              go_simp
              have hb := hal z1 (.cells #[.int .i64 0, .string ⟨#[]⟩, .int .i64 0, .bool false, .int .i64 0, .string ⟨#[]⟩, .int .i64 0] 23)
              have hU := sevRM z1 (.int .i64 0) (.string ⟨#[]⟩) (.int .i64 0) (.bool false) (.int .i64 0) (.string ⟨#[]⟩) (.int .i64 0) 23
              have hGB := hX.1
              have hGc := hc.1
              have hG0 := hB.size
              replace hB := thenB hB hb
              replace hX := sevRB hX hb
              replace hc := atB hc hb
              clear hb
              refine hK.out _ _ (by exact ⟨⟨hX.2.1, hX.2.2.1, hX.2.2.2.1, hX.2.2.2.2.1, hX.2.2.2.2.2.1, hX.2.2.2.2.2.2.1, hX.2.2.2.2.2.2.2.1⟩, hc.2⟩) (fun hHeld => ?_)
              clear hK K
              try simp only [Act.put, setIfInBounds_toArray, set_cons_zero, set_cons_succ]
              generalize z1.alloc (.cells #[.int .i64 0, .string ⟨#[]⟩, .int .i64 0, .bool false, .int .i64 0, .string ⟨#[]⟩, .int .i64 0] 23) = z2 at *
              generalize z1.heap.size = G at *
              refine wpAnyH_ready (rs := [19]) (by kernel_rfl) (by simp) ?_
              refine AllReadyH.cons rfl (fun K hK => ?_) ?_
              ·
               go_simp
               replace hU := RepSet.setAll hU (.int .i64 y0) (.string y1) (.int .i64 y2) (.bool y3) (.int .i64 (tr + 1)) (.string y5) (.int .i64 y6)
               replace hX := RepSet.setO7 hX (show G ≠ w.heap.size by omega) (.int .i64 y0) (.string y1) (.int .i64 y2) (.bool y3) (.int .i64 (tr + 1)) (.string y5) (.int .i64 y6)
               replace hc := atO7 hc (show G ≠ bq by omega) (.int .i64 y0) (.string y1) (.int .i64 y2) (.bool y3) (.int .i64 (tr + 1)) (.string y5) (.int .i64 y6)
               replace hB := HstHost.set7 (x0 := .int .i64 y0) (x1 := .string y1) (x2 := .int .i64 y2) (x3 := .bool y3) (x4 := .int .i64 (tr + 1)) (x5 := .string y5) (x6 := .int .i64 y6) hB hG0
               refine hK.out _ _ (by exact ⟨⟨hX.2.1, hX.2.2.1, hX.2.2.2.1, hX.2.2.2.2.1, hX.2.2.2.2.2.1, hX.2.2.2.2.2.2.1, hX.2.2.2.2.2.2.2.1⟩, hc.2⟩) (fun hHeld => ?_)
               clear hK K
               try simp only [Act.put, setIfInBounds_toArray, set_cons_zero, set_cons_succ]
               generalize (((((((z2.setCell ⟨G, 0, none⟩ (.int .i64 y0)).setCell ⟨G, 1, none⟩ (.string y1)).setCell ⟨G, 2, none⟩ (.int .i64 y2)).setCell ⟨G, 3, none⟩ (.bool y3)).setCell ⟨G, 4, none⟩ (.int .i64 (tr + 1))).setCell ⟨G, 5, none⟩ (.string y5)).setCell ⟨G, 6, none⟩ (.int .i64 y6)) = z3 at *
               refine tk 20 ?_; simp only [Act.put, setIfInBounds_toArray, set_cons_zero, set_cons_succ]
               refine wpAnyH_done (by kernel_rfl) ?_ _
               refine NoPanic.normal ?_
               go_upto_region 16 with (first | (go_at_call 11; refine (num_any _ _).mono ?_; rintro e1 w' ⟨rfl, rfl⟩) | (go_at_call 14; refine (CY.out _).mono ?_; rintro e1 w9 ⟨rfl, hb⟩; replace hB := thenB hB hb; replace hX := sevRB hX hb; replace hU := sevRB hU hb; clear hb))
               go_wp2_with fail
               exact ⟨⟨n + 1, ⟨y0, y1, y2, y3, tr + 1, y5, y6⟩, by omega, by omega, by go_num, HOX, HI, HTR2, RepSet.setAll hX (.int .i64 y0) (.string y1) (.int .i64 y2) (.bool y3) (.int .i64 (tr + 1)) (.string y5) (.int .i64 y6), HstHost.set7 hB (Nat.le_refl _)⟩, by simp [intOf]; omega⟩
              exact AllReadyH.nil
             exact AllReadyH.nil
            refine AllReadyH.cons rfl (fun K hK => ?_) ?_
            ·
             go_simp
             have hb := hal wd (.cells #[.int .i64 0, .string ⟨#[]⟩, .int .i64 0, .bool false, .int .i64 0, .string ⟨#[]⟩, .int .i64 0] 23)
             have hU := sevRM wd (.int .i64 0) (.string ⟨#[]⟩) (.int .i64 0) (.bool false) (.int .i64 0) (.string ⟨#[]⟩) (.int .i64 0) 23
             have hGB := hX.1
             have hGc := hc.1
             have hG0 := hB.size
             replace hB := thenB hB hb
             replace hX := sevRB hX hb
             replace hc := atB hc hb
             clear hb
             refine hK.out _ _ (by exact ⟨⟨hX.2.1, hX.2.2.1, hX.2.2.2.1, hX.2.2.2.2.1, hX.2.2.2.2.2.1, hX.2.2.2.2.2.2.1, hX.2.2.2.2.2.2.2.1⟩, hc.2⟩) (fun hHeld => ?_)
             clear hK K
             try simp only [Act.put, setIfInBounds_toArray, set_cons_zero, set_cons_succ]
             generalize wd.alloc (.cells #[.int .i64 0, .string ⟨#[]⟩, .int .i64 0, .bool false, .int .i64 0, .string ⟨#[]⟩, .int .i64 0] 23) = z4 at *
             generalize wd.heap.size = G at *
             refine wpAnyH_ready (rs := [14]) (by kernel_rfl) (by simp) ?_
             refine AllReadyH.cons rfl (fun K hK => ?_) ?_
             ·
              go_simp
              go_at_call 9
              refine (CU.out _).mono ?_
              rintro e1 z5 ⟨rfl, hb⟩
              replace hB := thenB hB hb
              replace hX := sevRB hX hb
              replace hc := atB hc hb
              replace hU := sevRB hU hb
              clear hb
              refine hK.out _ _ (by exact ⟨⟨hX.2.1, hX.2.2.1, hX.2.2.2.1, hX.2.2.2.2.1, hX.2.2.2.2.2.1, hX.2.2.2.2.2.2.1, hX.2.2.2.2.2.2.2.1⟩, hc.2⟩) (fun hHeld => ?_)
              clear hK K
              try simp only [Act.put, setIfInBounds_toArray, set_cons_zero, set_cons_succ]
              refine tk 15 ?_; simp only [Act.put, setIfInBounds_toArray, set_cons_zero, set_cons_succ]
              refine tk 16 ?_; simp only [Act.put, setIfInBounds_toArray, set_cons_zero, set_cons_succ]
              refine tk 17 ?_; simp only [Act.put, setIfInBounds_toArray, set_cons_zero, set_cons_succ]
              refine wpAnyH_ready (rs := [19]) (by kernel_rfl) (by simp) ?_
              refine AllReadyH.cons rfl (fun K hK => ?_) ?_
              ·
               go_simp
               replace hU := RepSet.setAll hU (.int .i64 y0) (.string y1) (.int .i64 y2) (.bool y3) (.int .i64 (tr + 1)) (.string y5) (.int .i64 y6)
               replace hX := RepSet.setO7 hX (show G ≠ w.heap.size by omega) (.int .i64 y0) (.string y1) (.int .i64 y2) (.bool y3) (.int .i64 (tr + 1)) (.string y5) (.int .i64 y6)
               replace hc := atO7 hc (show G ≠ bq by omega) (.int .i64 y0) (.string y1) (.int .i64 y2) (.bool y3) (.int .i64 (tr + 1)) (.string y5) (.int .i64 y6)
               replace hB := HstHost.set7 (x0 := .int .i64 y0) (x1 := .string y1) (x2 := .int .i64 y2) (x3 := .bool y3) (x4 := .int .i64 (tr + 1)) (x5 := .string y5) (x6 := .int .i64 y6) hB hG0
               refine hK.out _ _ (by exact ⟨⟨hX.2.1, hX.2.2.1, hX.2.2.2.1, hX.2.2.2.2.1, hX.2.2.2.2.2.1, hX.2.2.2.2.2.2.1, hX.2.2.2.2.2.2.2.1⟩, hc.2⟩) (fun hHeld => ?_)
               clear hK K
               try simp only [Act.put, setIfInBounds_toArray, set_cons_zero, set_cons_succ]
               generalize (((((((z5.setCell ⟨G, 0, none⟩ (.int .i64 y0)).setCell ⟨G, 1, none⟩ (.string y1)).setCell ⟨G, 2, none⟩ (.int .i64 y2)).setCell ⟨G, 3, none⟩ (.bool y3)).setCell ⟨G, 4, none⟩ (.int .i64 (tr + 1))).setCell ⟨G, 5, none⟩ (.string y5)).setCell ⟨G, 6, none⟩ (.int .i64 y6)) = z6 at *
               refine tk 20 ?_; simp only [Act.put, setIfInBounds_toArray, set_cons_zero, set_cons_succ]
               refine wpAnyH_done (by kernel_rfl) ?_ _
               refine NoPanic.normal ?_
               go_upto_region 16 with (first | (go_at_call 11; refine (num_any _ _).mono ?_; rintro e1 w' ⟨rfl, rfl⟩) | (go_at_call 14; refine (CY.out _).mono ?_; rintro e1 w9 ⟨rfl, hb⟩; replace hB := thenB hB hb; replace hX := sevRB hX hb; replace hU := sevRB hU hb; clear hb))
               go_wp2_with fail
               exact ⟨⟨n + 1, ⟨y0, y1, y2, y3, tr + 1, y5, y6⟩, by omega, by omega, by go_num, HOX, HI, HTR2, RepSet.setAll hX (.int .i64 y0) (.string y1) (.int .i64 y2) (.bool y3) (.int .i64 (tr + 1)) (.string y5) (.int .i64 y6), HstHost.set7 hB (Nat.le_refl _)⟩, by simp [intOf]; omega⟩
              exact AllReadyH.nil
             exact AllReadyH.nil
            exact AllReadyH.nil
        · skip
          obtain ⟨X, eX, i1, i2, i3⟩ := HT.out h HO.out true
          have CU := hide (HTake.out h X HO.out true eX)
          have CY := hide (HMay.out X i2)
          obtain ⟨ph, im, bl, ag, tr, rd, rp⟩ := h
          obtain ⟨y0, y1, y2, y3, y4, y5, y6⟩ := X
          unfold Taken at CU
          dsimp only [Bool.not_true, Bool.not_false] at *
          subst i1
          clear HT HTake HMay i2 eX HO
          rcases i3 with ⟨i3, rfl, rfl, rfl⟩ | ⟨i3, i4, rfl, i5⟩
          · subst i3
            have qL : ((n : Int) == 8 - a0_4) = true := by rw [beq_iff_eq]; have := HTR.out; (try dsimp only at this); omega
            clear HTR HI
            go_upto_region 9 with fail
            refine wp_region_noPanic ?_
            refine wp_region_held_drew (S := fun X => (X.cell? ⟨w.heap.size, 0, none⟩ = some (.int .i64 ph) ∧ X.cell? ⟨w.heap.size, 1, none⟩ = some (.string y1) ∧ X.cell? ⟨w.heap.size, 2, none⟩ = some (.int .i64 bl) ∧ X.cell? ⟨w.heap.size, 3, none⟩ = some (.bool ag) ∧ X.cell? ⟨w.heap.size, 4, none⟩ = some (.int .i64 8) ∧ X.cell? ⟨w.heap.size, 5, none⟩ = some (.string rd) ∧ X.cell? ⟨w.heap.size, 6, none⟩ = some (.int .i64 rp)) ∧ X.cell? ⟨bq, oq + n, none⟩ = some (.int .i64 zn)) (by kernel_rfl) (by exact ⟨⟨hX.2.1, hX.2.2.1, hX.2.2.2.1, hX.2.2.2.2.1, hX.2.2.2.2.2.1, hX.2.2.2.2.2.2.1, hX.2.2.2.2.2.2.2.1⟩, hc.2⟩) (fun hHeld => ?_)
            change SevR wr.drew _ _ _ _ _ _ _ _ at hX
            change At wr.drew _ _ _ at hc
            replace hB : Below w.heap.size w wr.drew := ⟨hB.os, hB.tape, hB.output, hB.size, hB.block⟩
            generalize wr.drew = wd at *
            refine tk 0 ?_; simp only [Act.put, setIfInBounds_toArray, set_cons_zero, set_cons_succ]
            refine tk 1 ?_; simp only [Act.put, setIfInBounds_toArray, set_cons_zero, set_cons_succ]
            refine tk 2 ?_; simp only [Act.put, setIfInBounds_toArray, set_cons_zero, set_cons_succ]
            refine tk 3 ?_; simp only [Act.put, setIfInBounds_toArray, set_cons_zero, set_cons_succ]
            refine tk 4 ?_; simp only [Act.put, setIfInBounds_toArray, set_cons_zero, set_cons_succ]
            refine tk 5 ?_; simp only [Act.put, setIfInBounds_toArray, set_cons_zero, set_cons_succ]
            refine tk 6 ?_; simp only [Act.put, setIfInBounds_toArray, set_cons_zero, set_cons_succ]
            refine tk 7 ?_; simp only [Act.put, setIfInBounds_toArray, set_cons_zero, set_cons_succ]
            refine tk 8 ?_; simp only [Act.put, setIfInBounds_toArray, set_cons_zero, set_cons_succ]
            refine tk 9 ?_; simp only [Act.put, setIfInBounds_toArray, set_cons_zero, set_cons_succ]
            refine tk 10 ?_; simp only [Act.put, setIfInBounds_toArray, set_cons_zero, set_cons_succ]
            refine tk 11 ?_; simp only [Act.put, setIfInBounds_toArray, set_cons_zero, set_cons_succ]
            refine tk 12 ?_; simp only [Act.put, setIfInBounds_toArray, set_cons_zero, set_cons_succ]
            refine tk 13 ?_; simp only [Act.put, setIfInBounds_toArray, set_cons_zero, set_cons_succ]
            refine wpAnyH_ready (rs := [14, 18]) (by kernel_rfl) (by simp) ?_
            refine AllReadyH.cons rfl (fun K hK => ?_) ?_
            ·
             go_simp
             go_at_call 9
             refine (CU.out _).mono ?_
             rintro e1 z1 ⟨rfl, hb⟩
             replace hB := thenB hB hb
             replace hX := sevRB hX hb
             replace hc := atB hc hb
             clear hb
             refine hK.out _ _ (by exact ⟨⟨hX.2.1, hX.2.2.1, hX.2.2.2.1, hX.2.2.2.2.1, hX.2.2.2.2.2.1, hX.2.2.2.2.2.2.1, hX.2.2.2.2.2.2.2.1⟩, hc.2⟩) (fun hHeld => ?_)
             clear hK K
             try simp only [Act.put, setIfInBounds_toArray, set_cons_zero, set_cons_succ]
             refine tk 15 ?_; simp only [Act.put, setIfInBounds_toArray, set_cons_zero, set_cons_succ]
             refine tk 16 ?_; simp only [Act.put, setIfInBounds_toArray, set_cons_zero, set_cons_succ]
             refine tk 17 ?_; simp only [Act.put, setIfInBounds_toArray, set_cons_zero, set_cons_succ]
             refine wpAnyH_ready (rs := [18]) (by kernel_rfl) (by simp) ?_
             refine AllReadyH.cons rfl (fun K hK => ?_) ?_
             ·
              go_simp
              have hb := hal z1 (.cells #[.int .i64 0, .string ⟨#[]⟩, .int .i64 0, .bool false, .int .i64 0, .string ⟨#[]⟩, .int .i64 0] 23)
              have hU := sevRM z1 (.int .i64 0) (.string ⟨#[]⟩) (.int .i64 0) (.bool false) (.int .i64 0) (.string ⟨#[]⟩) (.int .i64 0) 23
              have hGB := hX.1
              have hGc := hc.1
              have hG0 := hB.size
              replace hB := thenB hB hb
              replace hX := sevRB hX hb
              replace hc := atB hc hb
              clear hb
              refine hK.out _ _ (by exact ⟨⟨hX.2.1, hX.2.2.1, hX.2.2.2.1, hX.2.2.2.2.1, hX.2.2.2.2.2.1, hX.2.2.2.2.2.2.1, hX.2.2.2.2.2.2.2.1⟩, hc.2⟩) (fun hHeld => ?_)
              clear hK K
              try simp only [Act.put, setIfInBounds_toArray, set_cons_zero, set_cons_succ]
              generalize z1.alloc (.cells #[.int .i64 0, .string ⟨#[]⟩, .int .i64 0, .bool false, .int .i64 0, .string ⟨#[]⟩, .int .i64 0] 23) = z2 at *
              generalize z1.heap.size = G at *
              refine wpAnyH_ready (rs := [19]) (by kernel_rfl) (by simp) ?_
              refine AllReadyH.cons rfl (fun K hK => ?_) ?_
              ·
               go_simp
               replace hU := RepSet.setAll hU (.int .i64 7) (.string y1) (.int .i64 y2) (.bool y3) (.int .i64 8) (.string y5) (.int .i64 2)
               replace hX := RepSet.setO7 hX (show G ≠ w.heap.size by omega) (.int .i64 7) (.string y1) (.int .i64 y2) (.bool y3) (.int .i64 8) (.string y5) (.int .i64 2)
               replace hc := atO7 hc (show G ≠ bq by omega) (.int .i64 7) (.string y1) (.int .i64 y2) (.bool y3) (.int .i64 8) (.string y5) (.int .i64 2)
               replace hB := HstHost.set7 (x0 := .int .i64 7) (x1 := .string y1) (x2 := .int .i64 y2) (x3 := .bool y3) (x4 := .int .i64 8) (x5 := .string y5) (x6 := .int .i64 2) hB hG0
               refine hK.out _ _ (by exact ⟨⟨hX.2.1, hX.2.2.1, hX.2.2.2.1, hX.2.2.2.2.1, hX.2.2.2.2.2.1, hX.2.2.2.2.2.2.1, hX.2.2.2.2.2.2.2.1⟩, hc.2⟩) (fun hHeld => ?_)
               clear hK K
               try simp only [Act.put, setIfInBounds_toArray, set_cons_zero, set_cons_succ]
               generalize (((((((z2.setCell ⟨G, 0, none⟩ (.int .i64 7)).setCell ⟨G, 1, none⟩ (.string y1)).setCell ⟨G, 2, none⟩ (.int .i64 y2)).setCell ⟨G, 3, none⟩ (.bool y3)).setCell ⟨G, 4, none⟩ (.int .i64 8)).setCell ⟨G, 5, none⟩ (.string y5)).setCell ⟨G, 6, none⟩ (.int .i64 2)) = z3 at *
               refine tk 20 ?_; simp only [Act.put, setIfInBounds_toArray, set_cons_zero, set_cons_succ]
               refine wpAnyH_done (by kernel_rfl) ?_ _
               refine NoPanic.normal ?_
               go_wp2_with (first | (go_at_call 11; refine (num_any _ _).mono ?_; rintro e1 w' ⟨rfl, rfl⟩) | (go_at_call 14; refine (CY.out _).mono ?_; rintro e1 w9 ⟨rfl, hb⟩; replace hB := thenB hB hb; replace hX := sevRB hX hb; replace hU := sevRB hU hb; clear hb))
               go_ret
               exact ⟨rfl, hB⟩
              exact AllReadyH.nil
             exact AllReadyH.nil
            refine AllReadyH.cons rfl (fun K hK => ?_) ?_
            ·
             go_simp
             have hb := hal wd (.cells #[.int .i64 0, .string ⟨#[]⟩, .int .i64 0, .bool false, .int .i64 0, .string ⟨#[]⟩, .int .i64 0] 23)
             have hU := sevRM wd (.int .i64 0) (.string ⟨#[]⟩) (.int .i64 0) (.bool false) (.int .i64 0) (.string ⟨#[]⟩) (.int .i64 0) 23
             have hGB := hX.1
             have hGc := hc.1
             have hG0 := hB.size
             replace hB := thenB hB hb
             replace hX := sevRB hX hb
             replace hc := atB hc hb
             clear hb
             refine hK.out _ _ (by exact ⟨⟨hX.2.1, hX.2.2.1, hX.2.2.2.1, hX.2.2.2.2.1, hX.2.2.2.2.2.1, hX.2.2.2.2.2.2.1, hX.2.2.2.2.2.2.2.1⟩, hc.2⟩) (fun hHeld => ?_)
             clear hK K
             try simp only [Act.put, setIfInBounds_toArray, set_cons_zero, set_cons_succ]
             generalize wd.alloc (.cells #[.int .i64 0, .string ⟨#[]⟩, .int .i64 0, .bool false, .int .i64 0, .string ⟨#[]⟩, .int .i64 0] 23) = z4 at *
             generalize wd.heap.size = G at *
             refine wpAnyH_ready (rs := [14]) (by kernel_rfl) (by simp) ?_
             refine AllReadyH.cons rfl (fun K hK => ?_) ?_
             ·
              go_simp
              go_at_call 9
              refine (CU.out _).mono ?_
              rintro e1 z5 ⟨rfl, hb⟩
              replace hB := thenB hB hb
              replace hX := sevRB hX hb
              replace hc := atB hc hb
              replace hU := sevRB hU hb
              clear hb
              refine hK.out _ _ (by exact ⟨⟨hX.2.1, hX.2.2.1, hX.2.2.2.1, hX.2.2.2.2.1, hX.2.2.2.2.2.1, hX.2.2.2.2.2.2.1, hX.2.2.2.2.2.2.2.1⟩, hc.2⟩) (fun hHeld => ?_)
              clear hK K
              try simp only [Act.put, setIfInBounds_toArray, set_cons_zero, set_cons_succ]
              refine tk 15 ?_; simp only [Act.put, setIfInBounds_toArray, set_cons_zero, set_cons_succ]
              refine tk 16 ?_; simp only [Act.put, setIfInBounds_toArray, set_cons_zero, set_cons_succ]
              refine tk 17 ?_; simp only [Act.put, setIfInBounds_toArray, set_cons_zero, set_cons_succ]
              refine wpAnyH_ready (rs := [19]) (by kernel_rfl) (by simp) ?_
              refine AllReadyH.cons rfl (fun K hK => ?_) ?_
              ·
               go_simp
               replace hU := RepSet.setAll hU (.int .i64 7) (.string y1) (.int .i64 y2) (.bool y3) (.int .i64 8) (.string y5) (.int .i64 2)
               replace hX := RepSet.setO7 hX (show G ≠ w.heap.size by omega) (.int .i64 7) (.string y1) (.int .i64 y2) (.bool y3) (.int .i64 8) (.string y5) (.int .i64 2)
               replace hc := atO7 hc (show G ≠ bq by omega) (.int .i64 7) (.string y1) (.int .i64 y2) (.bool y3) (.int .i64 8) (.string y5) (.int .i64 2)
               replace hB := HstHost.set7 (x0 := .int .i64 7) (x1 := .string y1) (x2 := .int .i64 y2) (x3 := .bool y3) (x4 := .int .i64 8) (x5 := .string y5) (x6 := .int .i64 2) hB hG0
               refine hK.out _ _ (by exact ⟨⟨hX.2.1, hX.2.2.1, hX.2.2.2.1, hX.2.2.2.2.1, hX.2.2.2.2.2.1, hX.2.2.2.2.2.2.1, hX.2.2.2.2.2.2.2.1⟩, hc.2⟩) (fun hHeld => ?_)
               clear hK K
               try simp only [Act.put, setIfInBounds_toArray, set_cons_zero, set_cons_succ]
               generalize (((((((z5.setCell ⟨G, 0, none⟩ (.int .i64 7)).setCell ⟨G, 1, none⟩ (.string y1)).setCell ⟨G, 2, none⟩ (.int .i64 y2)).setCell ⟨G, 3, none⟩ (.bool y3)).setCell ⟨G, 4, none⟩ (.int .i64 8)).setCell ⟨G, 5, none⟩ (.string y5)).setCell ⟨G, 6, none⟩ (.int .i64 2)) = z6 at *
               refine tk 20 ?_; simp only [Act.put, setIfInBounds_toArray, set_cons_zero, set_cons_succ]
               refine wpAnyH_done (by kernel_rfl) ?_ _
               refine NoPanic.normal ?_
               go_wp2_with (first | (go_at_call 11; refine (num_any _ _).mono ?_; rintro e1 w' ⟨rfl, rfl⟩) | (go_at_call 14; refine (CY.out _).mono ?_; rintro e1 w9 ⟨rfl, hb⟩; replace hB := thenB hB hb; replace hX := sevRB hX hb; replace hU := sevRB hU hb; clear hb))
               go_ret
               exact ⟨rfl, hB⟩
              exact AllReadyH.nil
             exact AllReadyH.nil
            exact AllReadyH.nil
          · have HOX := hide i5
            have qL : ((n : Int) == 8 - a0_4) = false := by rw [beq_eq_false_iff_ne]; have := HTR.out; (try dsimp only at this); omega
            have HTR2 : Hid (tr + 1 = a0_4 + ((n + 1 : Nat) : Int)) := by have := HTR.out; (try dsimp only at this); show tr + 1 = _; omega
            have q77 : (y0 == 7) = false := beq_eq_false_iff_ne.2 i4
            clear i5 i4 HTR
            go_upto_region 9 with fail
            refine wp_region_noPanic ?_
            refine wp_region_held_drew (S := fun X => (X.cell? ⟨w.heap.size, 0, none⟩ = some (.int .i64 ph) ∧ X.cell? ⟨w.heap.size, 1, none⟩ = some (.string y1) ∧ X.cell? ⟨w.heap.size, 2, none⟩ = some (.int .i64 bl) ∧ X.cell? ⟨w.heap.size, 3, none⟩ = some (.bool ag) ∧ X.cell? ⟨w.heap.size, 4, none⟩ = some (.int .i64 tr) ∧ X.cell? ⟨w.heap.size, 5, none⟩ = some (.string rd) ∧ X.cell? ⟨w.heap.size, 6, none⟩ = some (.int .i64 rp)) ∧ X.cell? ⟨bq, oq + n, none⟩ = some (.int .i64 zn)) (by kernel_rfl) (by exact ⟨⟨hX.2.1, hX.2.2.1, hX.2.2.2.1, hX.2.2.2.2.1, hX.2.2.2.2.2.1, hX.2.2.2.2.2.2.1, hX.2.2.2.2.2.2.2.1⟩, hc.2⟩) (fun hHeld => ?_)
            change SevR wr.drew _ _ _ _ _ _ _ _ at hX
            change At wr.drew _ _ _ at hc
            replace hB : Below w.heap.size w wr.drew := ⟨hB.os, hB.tape, hB.output, hB.size, hB.block⟩
            generalize wr.drew = wd at *
            refine tk 0 ?_; simp only [Act.put, setIfInBounds_toArray, set_cons_zero, set_cons_succ]
            refine tk 1 ?_; simp only [Act.put, setIfInBounds_toArray, set_cons_zero, set_cons_succ]
            refine tk 2 ?_; simp only [Act.put, setIfInBounds_toArray, set_cons_zero, set_cons_succ]
            refine tk 3 ?_; simp only [Act.put, setIfInBounds_toArray, set_cons_zero, set_cons_succ]
            refine tk 4 ?_; simp only [Act.put, setIfInBounds_toArray, set_cons_zero, set_cons_succ]
            refine tk 5 ?_; simp only [Act.put, setIfInBounds_toArray, set_cons_zero, set_cons_succ]
            refine tk 6 ?_; simp only [Act.put, setIfInBounds_toArray, set_cons_zero, set_cons_succ]
            refine tk 7 ?_; simp only [Act.put, setIfInBounds_toArray, set_cons_zero, set_cons_succ]
            refine tk 8 ?_; simp only [Act.put, setIfInBounds_toArray, set_cons_zero, set_cons_succ]
            refine tk 9 ?_; simp only [Act.put, setIfInBounds_toArray, set_cons_zero, set_cons_succ]
            refine tk 10 ?_; simp only [Act.put, setIfInBounds_toArray, set_cons_zero, set_cons_succ]
            refine tk 11 ?_; simp only [Act.put, setIfInBounds_toArray, set_cons_zero, set_cons_succ]
            refine tk 12 ?_; simp only [Act.put, setIfInBounds_toArray, set_cons_zero, set_cons_succ]
            refine tk 13 ?_; simp only [Act.put, setIfInBounds_toArray, set_cons_zero, set_cons_succ]
            refine wpAnyH_ready (rs := [14, 18]) (by kernel_rfl) (by simp) ?_
            refine AllReadyH.cons rfl (fun K hK => ?_) ?_
            ·
             go_simp
             go_at_call 9
             refine (CU.out _).mono ?_
             rintro e1 z1 ⟨rfl, hb⟩
             replace hB := thenB hB hb
             replace hX := sevRB hX hb
             replace hc := atB hc hb
             clear hb
             refine hK.out _ _ (by exact ⟨⟨hX.2.1, hX.2.2.1, hX.2.2.2.1, hX.2.2.2.2.1, hX.2.2.2.2.2.1, hX.2.2.2.2.2.2.1, hX.2.2.2.2.2.2.2.1⟩, hc.2⟩) (fun hHeld => ?_)
             clear hK K
             try simp only [Act.put, setIfInBounds_toArray, set_cons_zero, set_cons_succ]
             refine tk 15 ?_; simp only [Act.put, setIfInBounds_toArray, set_cons_zero, set_cons_succ]
             refine tk 16 ?_; simp only [Act.put, setIfInBounds_toArray, set_cons_zero, set_cons_succ]
             refine tk 17 ?_; simp only [Act.put, setIfInBounds_toArray, set_cons_zero, set_cons_succ]
             refine wpAnyH_ready (rs := [18]) (by kernel_rfl) (by simp) ?_
             refine AllReadyH.cons rfl (fun K hK => ?_) ?_
             ·
              go_simp
              have hb := hal z1 (.cells #[.int .i64 0, .string ⟨#[]⟩, .int .i64 0, .bool false, .int .i64 0, .string ⟨#[]⟩, .int .i64 0] 23)
              have hU := sevRM z1 (.int .i64 0) (.string ⟨#[]⟩) (.int .i64 0) (.bool false) (.int .i64 0) (.string ⟨#[]⟩) (.int .i64 0) 23
              have hGB := hX.1
              have hGc := hc.1
              have hG0 := hB.size
              replace hB := thenB hB hb
              replace hX := sevRB hX hb
              replace hc := atB hc hb
              clear hb
              refine hK.out _ _ (by exact ⟨⟨hX.2.1, hX.2.2.1, hX.2.2.2.1, hX.2.2.2.2.1, hX.2.2.2.2.2.1, hX.2.2.2.2.2.2.1, hX.2.2.2.2.2.2.2.1⟩, hc.2⟩) (fun hHeld => ?_)
              clear hK K
              try simp only [Act.put, setIfInBounds_toArray, set_cons_zero, set_cons_succ]
              generalize z1.alloc (.cells #[.int .i64 0, .string ⟨#[]⟩, .int .i64 0, .bool false, .int .i64 0, .string ⟨#[]⟩, .int .i64 0] 23) = z2 at *
              generalize z1.heap.size = G at *
              refine wpAnyH_ready (rs := [19]) (by kernel_rfl) (by simp) ?_
              refine AllReadyH.cons rfl (fun K hK => ?_) ?_
              ·
               go_simp
               replace hU := RepSet.setAll hU (.int .i64 y0) (.string y1) (.int .i64 y2) (.bool y3) (.int .i64 (tr + 1)) (.string y5) (.int .i64 y6)
               replace hX := RepSet.setO7 hX (show G ≠ w.heap.size by omega) (.int .i64 y0) (.string y1) (.int .i64 y2) (.bool y3) (.int .i64 (tr + 1)) (.string y5) (.int .i64 y6)
               replace hc := atO7 hc (show G ≠ bq by omega) (.int .i64 y0) (.string y1) (.int .i64 y2) (.bool y3) (.int .i64 (tr + 1)) (.string y5) (.int .i64 y6)
               replace hB := HstHost.set7 (x0 := .int .i64 y0) (x1 := .string y1) (x2 := .int .i64 y2) (x3 := .bool y3) (x4 := .int .i64 (tr + 1)) (x5 := .string y5) (x6 := .int .i64 y6) hB hG0
               refine hK.out _ _ (by exact ⟨⟨hX.2.1, hX.2.2.1, hX.2.2.2.1, hX.2.2.2.2.1, hX.2.2.2.2.2.1, hX.2.2.2.2.2.2.1, hX.2.2.2.2.2.2.2.1⟩, hc.2⟩) (fun hHeld => ?_)
               clear hK K
               try simp only [Act.put, setIfInBounds_toArray, set_cons_zero, set_cons_succ]
               generalize (((((((z2.setCell ⟨G, 0, none⟩ (.int .i64 y0)).setCell ⟨G, 1, none⟩ (.string y1)).setCell ⟨G, 2, none⟩ (.int .i64 y2)).setCell ⟨G, 3, none⟩ (.bool y3)).setCell ⟨G, 4, none⟩ (.int .i64 (tr + 1))).setCell ⟨G, 5, none⟩ (.string y5)).setCell ⟨G, 6, none⟩ (.int .i64 y6)) = z3 at *
               refine tk 20 ?_; simp only [Act.put, setIfInBounds_toArray, set_cons_zero, set_cons_succ]
               refine wpAnyH_done (by kernel_rfl) ?_ _
               refine NoPanic.normal ?_
               go_upto_region 16 with (first | (go_at_call 11; refine (num_any _ _).mono ?_; rintro e1 w' ⟨rfl, rfl⟩) | (go_at_call 14; refine (CY.out _).mono ?_; rintro e1 w9 ⟨rfl, hb⟩; replace hB := thenB hB hb; replace hX := sevRB hX hb; replace hU := sevRB hU hb; clear hb))
               go_wp2_with fail
               exact ⟨⟨n + 1, ⟨y0, y1, y2, y3, tr + 1, y5, y6⟩, by omega, by omega, by go_num, HOX, HI, HTR2, RepSet.setAll hX (.int .i64 y0) (.string y1) (.int .i64 y2) (.bool y3) (.int .i64 (tr + 1)) (.string y5) (.int .i64 y6), HstHost.set7 hB (Nat.le_refl _)⟩, by simp [intOf]; omega⟩
              exact AllReadyH.nil
             exact AllReadyH.nil
            refine AllReadyH.cons rfl (fun K hK => ?_) ?_
            ·
             go_simp
             have hb := hal wd (.cells #[.int .i64 0, .string ⟨#[]⟩, .int .i64 0, .bool false, .int .i64 0, .string ⟨#[]⟩, .int .i64 0] 23)
             have hU := sevRM wd (.int .i64 0) (.string ⟨#[]⟩) (.int .i64 0) (.bool false) (.int .i64 0) (.string ⟨#[]⟩) (.int .i64 0) 23
             have hGB := hX.1
             have hGc := hc.1
             have hG0 := hB.size
             replace hB := thenB hB hb
             replace hX := sevRB hX hb
             replace hc := atB hc hb
             clear hb
             refine hK.out _ _ (by exact ⟨⟨hX.2.1, hX.2.2.1, hX.2.2.2.1, hX.2.2.2.2.1, hX.2.2.2.2.2.1, hX.2.2.2.2.2.2.1, hX.2.2.2.2.2.2.2.1⟩, hc.2⟩) (fun hHeld => ?_)
             clear hK K
             try simp only [Act.put, setIfInBounds_toArray, set_cons_zero, set_cons_succ]
             generalize wd.alloc (.cells #[.int .i64 0, .string ⟨#[]⟩, .int .i64 0, .bool false, .int .i64 0, .string ⟨#[]⟩, .int .i64 0] 23) = z4 at *
             generalize wd.heap.size = G at *
             refine wpAnyH_ready (rs := [14]) (by kernel_rfl) (by simp) ?_
             refine AllReadyH.cons rfl (fun K hK => ?_) ?_
             ·
              go_simp
              go_at_call 9
              refine (CU.out _).mono ?_
              rintro e1 z5 ⟨rfl, hb⟩
              replace hB := thenB hB hb
              replace hX := sevRB hX hb
              replace hc := atB hc hb
              replace hU := sevRB hU hb
              clear hb
              refine hK.out _ _ (by exact ⟨⟨hX.2.1, hX.2.2.1, hX.2.2.2.1, hX.2.2.2.2.1, hX.2.2.2.2.2.1, hX.2.2.2.2.2.2.1, hX.2.2.2.2.2.2.2.1⟩, hc.2⟩) (fun hHeld => ?_)
              clear hK K
              try simp only [Act.put, setIfInBounds_toArray, set_cons_zero, set_cons_succ]
              refine tk 15 ?_; simp only [Act.put, setIfInBounds_toArray, set_cons_zero, set_cons_succ]
              refine tk 16 ?_; simp only [Act.put, setIfInBounds_toArray, set_cons_zero, set_cons_succ]
              refine tk 17 ?_; simp only [Act.put, setIfInBounds_toArray, set_cons_zero, set_cons_succ]
              refine wpAnyH_ready (rs := [19]) (by kernel_rfl) (by simp) ?_
              refine AllReadyH.cons rfl (fun K hK => ?_) ?_
              ·
               go_simp
               replace hU := RepSet.setAll hU (.int .i64 y0) (.string y1) (.int .i64 y2) (.bool y3) (.int .i64 (tr + 1)) (.string y5) (.int .i64 y6)
               replace hX := RepSet.setO7 hX (show G ≠ w.heap.size by omega) (.int .i64 y0) (.string y1) (.int .i64 y2) (.bool y3) (.int .i64 (tr + 1)) (.string y5) (.int .i64 y6)
               replace hc := atO7 hc (show G ≠ bq by omega) (.int .i64 y0) (.string y1) (.int .i64 y2) (.bool y3) (.int .i64 (tr + 1)) (.string y5) (.int .i64 y6)
               replace hB := HstHost.set7 (x0 := .int .i64 y0) (x1 := .string y1) (x2 := .int .i64 y2) (x3 := .bool y3) (x4 := .int .i64 (tr + 1)) (x5 := .string y5) (x6 := .int .i64 y6) hB hG0
               refine hK.out _ _ (by exact ⟨⟨hX.2.1, hX.2.2.1, hX.2.2.2.1, hX.2.2.2.2.1, hX.2.2.2.2.2.1, hX.2.2.2.2.2.2.1, hX.2.2.2.2.2.2.2.1⟩, hc.2⟩) (fun hHeld => ?_)
               clear hK K
               try simp only [Act.put, setIfInBounds_toArray, set_cons_zero, set_cons_succ]
               generalize (((((((z5.setCell ⟨G, 0, none⟩ (.int .i64 y0)).setCell ⟨G, 1, none⟩ (.string y1)).setCell ⟨G, 2, none⟩ (.int .i64 y2)).setCell ⟨G, 3, none⟩ (.bool y3)).setCell ⟨G, 4, none⟩ (.int .i64 (tr + 1))).setCell ⟨G, 5, none⟩ (.string y5)).setCell ⟨G, 6, none⟩ (.int .i64 y6)) = z6 at *
               refine tk 20 ?_; simp only [Act.put, setIfInBounds_toArray, set_cons_zero, set_cons_succ]
               refine wpAnyH_done (by kernel_rfl) ?_ _
               refine NoPanic.normal ?_
               go_upto_region 16 with (first | (go_at_call 11; refine (num_any _ _).mono ?_; rintro e1 w' ⟨rfl, rfl⟩) | (go_at_call 14; refine (CY.out _).mono ?_; rintro e1 w9 ⟨rfl, hb⟩; replace hB := thenB hB hb; replace hX := sevRB hX hb; replace hU := sevRB hU hb; clear hb))
               go_wp2_with fail
               exact ⟨⟨n + 1, ⟨y0, y1, y2, y3, tr + 1, y5, y6⟩, by omega, by omega, by go_num, HOX, HI, HTR2, RepSet.setAll hX (.int .i64 y0) (.string y1) (.int .i64 y2) (.bool y3) (.int .i64 (tr + 1)) (.string y5) (.int .i64 y6), HstHost.set7 hB (Nat.le_refl _)⟩, by simp [intOf]; omega⟩
              exact AllReadyH.nil
             exact AllReadyH.nil
            exact AllReadyH.nil
      · have hd : ¬ n < l1.length ∨ ¬ n < 12 := by omega
        clear hrow hlm
        by_cases hl : n < l1.length
        · have hg1 : decide ((n : Int) < (l1.length : Int)) = true := decide_eq_true (by omega)
          have hg2 : decide ((n : Int) < 12) = false := decide_eq_false (by omega)
          generalize l1.length = L at *
          go_wp2_with fail
          go_ret
          exact ⟨rfl, hB⟩
        · have hg1 : decide ((n : Int) < (l1.length : Int)) = false := decide_eq_false (by omega)
          generalize l1.length = L at *
          go_wp2_with fail
          go_ret
          exact ⟨rfl, hB⟩

set_option maxRecDepth 100000 in
theorem lifted (os : Os) (started : os.Started) (H : Type) (enc : TypeId × Value → H) :
    ReturnsInHanded {} Try.checked os 5 .any (Rows.replyTriesSpec.pre6 enc Try.prog Try.f5 Rows.replyTriesRow.domain false) (Rows.replyTriesSpec.post enc Try.prog Try.f5 false true false false) := by
  refine returnsInHanded_of_change_sized (C := Try.checked) own started (by kernel_rfl) Try.func5
    (ChangeSpec.witness6 (enc := enc) (C := Try.checked) false ⟨#[], #[.agg #[.int .i64 0, .string ByteArray.empty, .int .i64 0, .bool false, .int .i64 0, .string ByteArray.empty, .int .i64 0], .slice none 0 0], []⟩ 8 (by kernel_rfl) (by kernel_rfl) (by kernel_rfl) (by kernel_rfl)) ?_
  intro W base args ds gs before hval0 hW hcnd hsz0 _
  have hval : ∀ (j : Nat) t v, Try.f5.params[j]? = some t → args[j]? = some v → Value.okWide Try.prog W .any base t v := hval0
  have hW' := hW
  obtain ⟨p, q, hA0, hV, rfl, hfz, hnd⟩ := hW
  have hA : DataW.TrodAll enc Try.prog W 0 (fun _ => true) true Try.f5.params.toList args.toList ds p := hA0
  have hsz : (DataW.weightsEach Try.prog (Try.f5.params.toList ++ Rows.replyTriesSpec.plain.varTypes Try.prog) (ds ++ gs)).all (· ≤ reachBytes) = true := hsz0
  clear hsz0
  rw [Try.params5] at hA hval hsz
  obtain ⟨v0, vs0, d0, ds0, p0, q0, hargs, rfl, rfl, h0, r0⟩ := trodAll_cons hA
  obtain ⟨v1, vs1, d1, ds1, p1, q1, rfl, rfl, rfl, h1, r1⟩ := trodAll_cons r0
  obtain ⟨rfl, rfl, rfl⟩ := trodAll_nil r1
  obtain rfl : args = #[v0, v1] := by cases args; simp_all
  obtain ⟨rfl, rfl⟩ := trodVars_none hV
  have k0 := h0
  have lt0 : ∀ x ∈ p0, x.block < W.heap.size := by obtain ⟨m, hm⟩ := k0; exact DataW.trod_lt m _ _ _ hm
  obtain ⟨a0_0, a0_1, a0_2, a0_3, a0_4, a0_5, a0_6, rfl, w0_0, w0_1, w0_2, w0_4, w0_5, w0_6⟩ := open23 (hval 0 23 v0 rfl rfl) h0
  have k1 := h1
  have lt1 : ∀ x ∈ p1, x.block < W.heap.size := by obtain ⟨m, hm⟩ := k1; exact DataW.trod_lt m _ _ _ hm
  obtain ⟨l1, i1⟩ := Go.Proofs.Ytgkmallikomnaaa.IntRow.open_row Try.underlying37 Try.underlying3 (by kernel_rfl) (hval 1 37 v1 rfl rfl) h1 lt1
  clear hA0 hval0
  refine (walk a0_0 a0_1 a0_2 a0_3 a0_4 a0_5 a0_6 v1 l1 W w0_0 w0_1 w0_2 w0_4 w0_5 w0_6 i1).mono fun e W' ⟨he, bel⟩ => ?_
  subst he
  exact ⟨_, rfl, _, _, _, [], _, [], hW', (trodAll_cons_mk (shut_bool Try.underlying4 _) trodAll_mk0), (trodAll_cons_mk (Below.trod laidOut (by kernel_rfl) (of_decide_eq_true (by kernel_rfl)) k0 bel lt0) (trodAll_cons_mk (Below.trod laidOut (by kernel_rfl) (of_decide_eq_true (by kernel_rfl)) k1 bel lt1) trodAll_mk0)), rfl, bel.frame _, fun h => by cases h⟩

theorem over : Rows.replyTriesRow.holds Try.pinned (OpenSpec.ofChange Rows.replyTriesSpec) :=
  OpenClaim.holds_of_wide 5 Try.f5 rfl rfl rfl rfl rfl rfl rfl ⟨rfl, rfl, rfl, rfl, rfl⟩ rfl rfl rfl rfl rfl (by kernel_rfl) Try.func5 (by kernel_rfl)
    (of_decide_eq_true (by kernel_rfl)) (by unfold Func.isWrapper; first | (rw [if_pos (by decide +kernel)]; kernel_rfl) | (rw [if_neg (by decide +kernel)]; exact ⟨rfl, rfl⟩))
    (fun os started H enc _ => lifted os started H enc)

theorem proved : Rows.ReplyTriesSaid :=
  over
#print axioms proved
end Go.Proofs.Ytgkmallikomnaaa.replyTries
