/- Whatever the flash, the step, the place, the text and the number: the law Opses returns true (each call of package ops answers as the document's own; what it hands out may be written over), and the arguments read as they did; no condition. -/
import Derived.Test.YtdjiifponkclnaaRows
import Derived.Test.YtdjiifponkclnaaNorMath
import Derived.Test.YtdjiifponkclnaaBytes
import Derived.Test.YtdjiifponkclnaaNorWalk
import Derived.Test.YtdjiifponkclnaaNorRef
import Derived.Test.YtdjiifponkclnaaOpsMath
import Derived.Test.YtdjiifponkclnaaOpsRow
import Derived.Test.YtdjiifponkclnaaOpsWalk
import Derived.Test.YtdjiifponkclnaaOpsWords
import Derived.Test.YtdjiifponkclnaaOpsRef
import Derived.Test.YtdjiifponkclnaaOpsHelp
import Derived.Test.YtdjiifponkclnaaOpsAwake
import Derived.Deep.RegionWith
import Derived.RegionTactic
import Derived.Deep.DrawnRows
import Derived.Deep.RegionHeld3
import Derived.WalkKit
import Derived.ProofKit
import Derived.OpenShut
import Derived.ShutString
import Derived.ChangeOld
import Derived.Below
namespace Go.Proofs.Ytdjiifponkclnaa.opses
open Go.ChangeShapes Go.WideShapes Go.ChangeAt Go.RowKit
open Go.ChangeMaps (open_string shut_string)
set_option linter.unusedVariables false

open Go.Proofs.Ytdjiifponkclnaa.Bytes
open Go.Proofs.Ytdjiifponkclnaa.Ops
open Go.Proofs.Ytdjiifponkclnaa.OpsRow
open Go.Proofs.Ytdjiifponkclnaa.OpsWalk
open Go.Proofs.Ytdjiifponkclnaa.OpsWords
open Go.Proofs.Ytdjiifponkclnaa.OpsRef
open Go.Proofs.Ytdjiifponkclnaa.OpsHelp
open Go.Proofs.Ytdjiifponkclnaa.OpsAwake
theorem own : ownKnob Try.prog.godebug = none := by kernel_rfl
theorem laidOut : laidOutB Try.prog = true := by kernel_rfl
theorem field_of {H : Type} {enc : TypeId × Value → H} {P : Program} {w : World} {base : Nat} {spare : Nat → Bool} {held : Bool} {t : TypeId} {fs : Array Field} {fuel : Nat} {cs : List Value} {x : DataW H × List MemPlace} (ht : P.underlying t = some (.struct fs)) (h : DataW.trod enc P w base spare held fuel t cs = some x) (i : Nat) (f : Field) (hf : fs[i]? = some f) :
    ∃ n y, DataW.trod enc P w base spare held n f.type ((cs.drop f.offset).take (P.cellsOf f.type)) = some y := by
  obtain ⟨xs, n, _, _, _, hlen, hq⟩ := DataW.trod_struct ht h
  have hi : i < xs.length := by
    rw [hlen]
    rcases Nat.lt_or_ge i fs.size with h1 | h1
    · exact h1
    · rw [Array.getElem?_eq_none h1] at hf; cases hf
  exact ⟨n, xs[i], by rw [hq i f hf, List.getElem?_eq_getElem hi]⟩
theorem list23 {l : List Value} (h : l.length = 3) : ∃ c0 c1 c2, l = [c0, c1, c2] := by
  match l, h with
  | [c0, c1, c2], _ => exact ⟨c0, c1, c2, rfl⟩
set_option maxRecDepth 100000 in
theorem open23 {H : Type} {enc : TypeId × Value → H} {w : World} {base : Nat} {spare : Nat → Bool} {held : Bool} {r : Reach} {b0 : Nat} {v : Value} {d : DataW H} {p : List MemPlace} (hv : Value.okWide Try.prog w r b0 23 v) (h : DataW.Trod enc Try.prog w base spare held 23 v d p) :
    ∃ (x0 : Bool) (x1 : Int) (x2 : ByteArray), v = .agg #[.bool x0, .int .i64 x1, .string x2] ∧ (Lit.int .i64 x1).wf = true ∧ x2.size ≤ maxLen := by
  obtain ⟨cs, rfl, hsz⟩ := okWide_struct Try.underlying23 hv
  have hc : Try.prog.cellsOf 23 = 3 := by kernel_rfl
  rw [hc] at hsz
  obtain ⟨l⟩ := cs
  obtain ⟨c0, c1, c2, rfl⟩ := list23 (l := l) (by simpa using hsz)
  obtain ⟨fuel, hf⟩ := h
  have k0 : Try.prog.cellsOf 4 = 1 := by kernel_rfl
  obtain ⟨n0, y0, h0⟩ := field_of Try.underlying23 hf 0 _ rfl
  have g0 : DataW.trod enc Try.prog w base spare held n0 4 [c0] = some y0 := by simpa [Value.cells, k0] using h0
  obtain ⟨x0, e0, _⟩ := DataW.trod_bool Try.underlying4 g0
  obtain rfl := (List.cons.inj e0).1
  have k1 : Try.prog.cellsOf 3 = 1 := by kernel_rfl
  obtain ⟨n1, y1, h1⟩ := field_of Try.underlying23 hf 1 _ rfl
  have g1 : DataW.trod enc Try.prog w base spare held n1 3 [c1] = some y1 := by simpa [Value.cells, k1] using h1
  obtain ⟨x1, e1, _, w1⟩ := DataW.trod_int Try.underlying3 g1
  obtain rfl := (List.cons.inj e1).1
  have k2 : Try.prog.cellsOf 9 = 1 := by kernel_rfl
  obtain ⟨n2, y2, h2⟩ := field_of Try.underlying23 hf 2 _ rfl
  have g2 : DataW.trod enc Try.prog w base spare held n2 9 [c2] = some y2 := by simpa [Value.cells, k2] using h2
  obtain ⟨x2, e2, _, w2⟩ := DataW.trod_string Try.underlying9 g2
  obtain rfl := (List.cons.inj e2).1
  exact ⟨x0, x1, x2, rfl, w1, w2⟩

attribute [local go_sem ↓] Go.wp_at_zero Go.wp_at_succ
theorem words_few (a : Int) (t : ByteArray) : (wordsL a t).length ≤ 65536 := by
  cases h : wordsOk a t with
  | false => rw [wordsL_no h]; simp
  | true =>
    rw [wordsL_ok h, length_wordsTo]
    have := wordsOk_parts.1 h
    unfold wordsN
    omega
set_option maxHeartbeats 2000000 in
theorem walk (a0 : ByteArray) (a1_0 : Bool) (a1_1 : Int) (a1_2 : ByteArray) (a2 : Int) (a3 : ByteArray) (a4 : Int) (w0 : a0.size ≤ maxLen) (w1_1 : (Lit.int .i64 a1_1).wf = true) (w1_2 : a1_2.size ≤ maxLen) (w2 : (Lit.int .i64 a2).wf = true) (w3 : a3.size ≤ maxLen) (w4 : (Lit.int .i64 a4).wf = true) (w : World) :
    Calls Try.prog 3 #[.string a0, .agg #[.bool a1_0, .int .i64 a1_1, .string a1_2], .int .i64 a2, .string a3, .int .i64 a4] w fun e w' => e = .returned (.bool true) ∧ Below w.heap.size w w' := by
  have hB := (Below.refl w.heap.size w).alloc (Nat.le_refl _) (.cells #[.bool a1_0, .int .i64 a1_1, .string a1_2] 23)
  have hX := boxM w (.bool a1_0) (.int .i64 a1_1) (.string a1_2) 23
  have HL := hide (words_few a2 a3)
  have hm : opMay a1_0 a1_1 a1_2 = false → cutS a0 a1_0 a1_1 a1_2 96 = ⟨#[]⟩ ∧ errO (cutOk a0 a1_0 a1_1 a1_2 96) = 300 := fun h => ⟨cutS_no (cutOk_mayF h), errO_f (cutOk_mayF h)⟩
  have HM := hide hm
  clear hm
  cases k1 : opMay a1_0 a1_1 a1_2 with
  | false =>
    obtain ⟨m1, m2⟩ := HM.out k1
    clear HM
    go_enter Try.func3, Try.ntmps3
    go_wp2_with fail
    refine (words_any _ _ _).mono ?_
    rintro e w1 ⟨v1, rfl, ho1, hb⟩
    replace ho1 := owns_mono ho1 hB.size; replace hB := thenB hB hb; replace hX := boxB hX hb; clear hb
    go_wp2_with fail
    refine (refWords_any _ _ _).mono ?_
    rintro e w2 ⟨v2, rfl, ho2, hb⟩
    replace ho1 := owns_below ho1 hb; replace hB := thenB hB hb; replace hX := boxB hX hb; clear hb
    go_wp2_with (first | (go_at_call 11; refine (do_any _ _ _ _ _).mono ?_; rintro e w' ⟨rfl, hb⟩; replace hB := hB.trans (hb.mono hB.size); replace hX := boxB hX hb; replace ho1 := owns_below ho1 hb; replace ho2 := owns_below ho2 hb; clear hb) | (go_at_call 12; refine (refDo_any _ _ _ _ _).mono ?_; rintro e w' ⟨rfl, hb⟩; replace hB := hB.trans (hb.mono hB.size); replace hX := boxB hX hb; replace ho1 := owns_below ho1 hb; replace ho2 := owns_below ho2 hb; clear hb) | (go_at_call 13; refine (refMay_any _ _ _ _).mono ?_; rintro e w' ⟨rfl, hb⟩; replace hB := hB.trans (hb.mono hB.size); replace hX := boxB hX hb; replace ho1 := owns_below ho1 hb; replace ho2 := owns_below ho2 hb; clear hb) | (go_at_call 14; refine (cut_any _ _ _ _ _ _).mono ?_; rintro e w' ⟨rfl, hb⟩; replace hB := hB.trans (hb.mono hB.size); replace hX := boxB hX hb; replace ho1 := owns_below ho1 hb; replace ho2 := owns_below ho2 hb; clear hb) | (go_at_call 15; refine (refCut_any _ _ _ _ _ _).mono ?_; rintro e w' ⟨rfl, hb⟩; replace hB := hB.trans (hb.mono hB.size); replace hX := boxB hX hb; replace ho1 := owns_below ho1 hb; replace ho2 := owns_below ho2 hb; clear hb))
    generalize cutS a0 a1_0 a1_1 a1_2 96 = C1 at *
    generalize cutS a0 a1_0 a1_1 a1_2 a4 = C2 at *
    generalize errO (cutOk a0 a1_0 a1_1 a1_2 96) = E1 at *
    generalize errO (cutOk a0 a1_0 a1_1 a1_2 a4) = E2 at *
    generalize errO (wordsOk a2 a3) = E3 at *
    go_region_held3 (fun W => W.cell? ⟨w.heap.size, 0, none⟩ = some (.bool a1_0) ∧ W.cell? ⟨w.heap.size, 1, none⟩ = some (.int .i64 a1_1) ∧ W.cell? ⟨w.heap.size, 2, none⟩ = some (.string a1_2)) (go_keep) (first | (go_at_call 16; refine (same_yes _ _ (wordsL a2 a3) _ HL.out (by exact owns_is ho1) (by exact owns_is ho2)).mono ?_; rintro e w3 ⟨rfl, hb⟩; replace hB := thenD hb hB rfl rfl rfl rfl; replace ho1 := ownsD hb ho1; replace hX := boxD hb hX; clear hb ho2) | (first | (go_at_call 17; refine (num_any _ _).mono ?_; rintro e w' ⟨rfl, rfl⟩) | (go_at_call 18; refine (opMay_any _ _ _ _).mono ?_; rintro e w' ⟨rfl, hb⟩; replace hB := thenD hb hB rfl rfl rfl rfl; replace hX := boxD hb hX; replace ho1 := ownsD hb ho1; clear hb) | (go_at_call 13; refine (refMay_any _ _ _ _).mono ?_; rintro e w' ⟨rfl, hb⟩; replace hB := thenD hb hB rfl rfl rfl rfl; replace hX := boxD hb hX; replace ho1 := ownsD hb ho1; clear hb)))
    all_goals go_wp2_with fail
    refine (spoil_any _ (wordsL a2 a3) _ w.heap.size HL.out ho1).mono ?_
    rintro e w4 ⟨rfl, hb⟩
    replace hB := hB.trans hb; clear hb ho1 hX
    go_wp2_with (first | (go_at_call 20; refine (awake_any _).mono ?_; rintro e w' ⟨rfl, hb⟩; replace hB := hB.trans (hb.mono hB.size); clear hb))
    go_ret
    exact ⟨rfl, hB⟩
  | true =>
    clear HM
    go_enter Try.func3, Try.ntmps3
    go_wp2_with fail
    refine (words_any _ _ _).mono ?_
    rintro e w1 ⟨v1, rfl, ho1, hb⟩
    replace ho1 := owns_mono ho1 hB.size; replace hB := thenB hB hb; replace hX := boxB hX hb; clear hb
    go_wp2_with fail
    refine (refWords_any _ _ _).mono ?_
    rintro e w2 ⟨v2, rfl, ho2, hb⟩
    replace ho1 := owns_below ho1 hb; replace hB := thenB hB hb; replace hX := boxB hX hb; clear hb
    go_wp2_with (first | (go_at_call 11; refine (do_any _ _ _ _ _).mono ?_; rintro e w' ⟨rfl, hb⟩; replace hB := hB.trans (hb.mono hB.size); replace hX := boxB hX hb; replace ho1 := owns_below ho1 hb; replace ho2 := owns_below ho2 hb; clear hb) | (go_at_call 12; refine (refDo_any _ _ _ _ _).mono ?_; rintro e w' ⟨rfl, hb⟩; replace hB := hB.trans (hb.mono hB.size); replace hX := boxB hX hb; replace ho1 := owns_below ho1 hb; replace ho2 := owns_below ho2 hb; clear hb) | (go_at_call 13; refine (refMay_any _ _ _ _).mono ?_; rintro e w' ⟨rfl, hb⟩; replace hB := hB.trans (hb.mono hB.size); replace hX := boxB hX hb; replace ho1 := owns_below ho1 hb; replace ho2 := owns_below ho2 hb; clear hb) | (go_at_call 14; refine (cut_any _ _ _ _ _ _).mono ?_; rintro e w' ⟨rfl, hb⟩; replace hB := hB.trans (hb.mono hB.size); replace hX := boxB hX hb; replace ho1 := owns_below ho1 hb; replace ho2 := owns_below ho2 hb; clear hb) | (go_at_call 15; refine (refCut_any _ _ _ _ _ _).mono ?_; rintro e w' ⟨rfl, hb⟩; replace hB := hB.trans (hb.mono hB.size); replace hX := boxB hX hb; replace ho1 := owns_below ho1 hb; replace ho2 := owns_below ho2 hb; clear hb))
    generalize cutS a0 a1_0 a1_1 a1_2 96 = C1 at *
    generalize cutS a0 a1_0 a1_1 a1_2 a4 = C2 at *
    generalize errO (cutOk a0 a1_0 a1_1 a1_2 96) = E1 at *
    generalize errO (cutOk a0 a1_0 a1_1 a1_2 a4) = E2 at *
    generalize errO (wordsOk a2 a3) = E3 at *
    go_region_held3 (fun W => W.cell? ⟨w.heap.size, 0, none⟩ = some (.bool a1_0) ∧ W.cell? ⟨w.heap.size, 1, none⟩ = some (.int .i64 a1_1) ∧ W.cell? ⟨w.heap.size, 2, none⟩ = some (.string a1_2)) (go_keep) (first | (go_at_call 16; refine (same_yes _ _ (wordsL a2 a3) _ HL.out (by exact owns_is ho1) (by exact owns_is ho2)).mono ?_; rintro e w3 ⟨rfl, hb⟩; replace hB := thenD hb hB rfl rfl rfl rfl; replace ho1 := ownsD hb ho1; replace hX := boxD hb hX; clear hb ho2) | (first | (go_at_call 17; refine (num_any _ _).mono ?_; rintro e w' ⟨rfl, rfl⟩) | (go_at_call 18; refine (opMay_any _ _ _ _).mono ?_; rintro e w' ⟨rfl, hb⟩; replace hB := thenD hb hB rfl rfl rfl rfl; replace hX := boxD hb hX; replace ho1 := ownsD hb ho1; clear hb) | (go_at_call 13; refine (refMay_any _ _ _ _).mono ?_; rintro e w' ⟨rfl, hb⟩; replace hB := thenD hb hB rfl rfl rfl rfl; replace hX := boxD hb hX; replace ho1 := ownsD hb ho1; clear hb)))
    all_goals go_wp2_with fail
    refine (spoil_any _ (wordsL a2 a3) _ w.heap.size HL.out ho1).mono ?_
    rintro e w4 ⟨rfl, hb⟩
    replace hB := hB.trans hb; clear hb ho1 hX
    go_wp2_with (first | (go_at_call 20; refine (awake_any _).mono ?_; rintro e w' ⟨rfl, hb⟩; replace hB := hB.trans (hb.mono hB.size); clear hb))
    go_ret
    exact ⟨rfl, hB⟩

set_option maxRecDepth 100000 in
theorem lifted (os : Os) (started : os.Started) (H : Type) (enc : TypeId × Value → H) :
    ReturnsInHanded {} Try.checked os 3 .any (Rows.opsesSpec.pre6 enc Try.prog Try.f3 Rows.opsesRow.domain false) (Rows.opsesSpec.post enc Try.prog Try.f3 false true false false) := by
  refine returnsInHanded_of_change (C := Try.checked) own started (by kernel_rfl) Try.func3
    (ChangeSpec.witness6 (enc := enc) (C := Try.checked) false ⟨#[], #[.string ByteArray.empty, .agg #[.bool false, .int .i64 0, .string ByteArray.empty], .int .i64 0, .string ByteArray.empty, .int .i64 0], []⟩ 8 (by kernel_rfl) (by kernel_rfl) (by kernel_rfl) (by kernel_rfl)) ?_
  intro W base args ds gs before hval0 hW hcnd _
  have hval : ∀ (j : Nat) t v, Try.f3.params[j]? = some t → args[j]? = some v → Value.okWide Try.prog W .any base t v := hval0
  have hW' := hW
  obtain ⟨p, q, hA0, hV, rfl, hfz, hnd⟩ := hW
  have hA : DataW.TrodAll enc Try.prog W 0 (fun _ => true) true Try.f3.params.toList args.toList ds p := hA0
  rw [Try.params3] at hA hval
  obtain ⟨v0, vs0, d0, ds0, p0, q0, hargs, rfl, rfl, h0, r0⟩ := trodAll_cons hA
  obtain ⟨v1, vs1, d1, ds1, p1, q1, rfl, rfl, rfl, h1, r1⟩ := trodAll_cons r0
  obtain ⟨v2, vs2, d2, ds2, p2, q2, rfl, rfl, rfl, h2, r2⟩ := trodAll_cons r1
  obtain ⟨v3, vs3, d3, ds3, p3, q3, rfl, rfl, rfl, h3, r3⟩ := trodAll_cons r2
  obtain ⟨v4, vs4, d4, ds4, p4, q4, rfl, rfl, rfl, h4, r4⟩ := trodAll_cons r3
  obtain ⟨rfl, rfl, rfl⟩ := trodAll_nil r4
  obtain rfl : args = #[v0, v1, v2, v3, v4] := by cases args; simp_all
  obtain ⟨rfl, rfl⟩ := trodVars_none hV
  obtain ⟨a0, rfl, rfl, rfl, w0⟩ := open_string Try.underlying9 (hval 0 9 v0 rfl rfl) h0
  have k1 := h1
  have lt1 : ∀ x ∈ p1, x.block < W.heap.size := by obtain ⟨m, hm⟩ := k1; exact DataW.trod_lt m _ _ _ hm
  obtain ⟨a1_0, a1_1, a1_2, rfl, w1_1, w1_2⟩ := open23 (hval 1 23 v1 rfl rfl) h1
  obtain ⟨a2, rfl, rfl, rfl, w2⟩ := open_int Try.underlying3 (hval 2 3 v2 rfl rfl) h2
  obtain ⟨a3, rfl, rfl, rfl, w3⟩ := open_string Try.underlying9 (hval 3 9 v3 rfl rfl) h3
  obtain ⟨a4, rfl, rfl, rfl, w4⟩ := open_int Try.underlying3 (hval 4 3 v4 rfl rfl) h4
  clear hA0 hval0
  refine (walk a0 a1_0 a1_1 a1_2 a2 a3 a4 w0 w1_1 w1_2 w2 w3 w4 W).mono fun e W' ⟨he, bel⟩ => ?_
  subst he
  exact ⟨_, rfl, _, _, _, [], _, [], hW', (trodAll_cons_mk (shut_bool Try.underlying4 _) trodAll_mk0), (trodAll_cons_mk (shut_string Try.underlying9 w0) (trodAll_cons_mk (Below.trod laidOut (by kernel_rfl) (of_decide_eq_true (by kernel_rfl)) k1 bel lt1) (trodAll_cons_mk (shut_int Try.underlying3 w2) (trodAll_cons_mk (shut_string Try.underlying9 w3) (trodAll_cons_mk (shut_int Try.underlying3 w4) trodAll_mk0))))), rfl, bel.frame _, fun h => by cases h⟩

theorem over : Rows.opsesRow.holds Try.pinned (OpenSpec.ofChange Rows.opsesSpec) :=
  OpenClaim.holds_of_wide 3 Try.f3 rfl rfl rfl rfl rfl rfl rfl ⟨rfl, rfl, rfl, rfl, rfl⟩ rfl rfl rfl rfl rfl (by kernel_rfl) Try.func3 (by kernel_rfl)
    (of_decide_eq_true (by kernel_rfl)) (by unfold Func.isWrapper; first | (rw [if_pos (by decide +kernel)]; kernel_rfl) | (rw [if_neg (by decide +kernel)]; exact ⟨rfl, rfl⟩))
    (fun os started H enc _ => lifted os started H enc)

theorem proved : Rows.OpsesSaid :=
  over
#print axioms proved
end Go.Proofs.Ytdjiifponkclnaa.opses
