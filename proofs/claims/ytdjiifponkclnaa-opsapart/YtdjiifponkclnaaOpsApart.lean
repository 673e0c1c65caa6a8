/- Whatever the flash and the two steps: the law OpsApart returns true (steps at places that don't meet may be done in either row), and the arguments read as they did; no condition. -/
import Derived.Test.YtdjiifponkclnaaRows
import Derived.Test.YtdjiifponkclnaaNorMath
import Derived.Test.YtdjiifponkclnaaBytes
import Derived.Test.YtdjiifponkclnaaNorWalk
import Derived.Test.YtdjiifponkclnaaNorRef
import Derived.Test.YtdjiifponkclnaaOpsMath
import Derived.Test.YtdjiifponkclnaaOpsRow
import Derived.Test.YtdjiifponkclnaaOpsWalk
import Derived.Test.YtdjiifponkclnaaOpsWords
import Derived.Test.YtdjiifponkclnaaOpsRef
import Derived.Test.YtdjiifponkclnaaOpsHelp
import Derived.Test.YtdjiifponkclnaaOpsAwake
import Derived.WalkKit
import Derived.ProofKit
import Derived.OpenShut
import Derived.ShutString
import Derived.ChangeOld
import Derived.Below
namespace Go.Proofs.Ytdjiifponkclnaa.opsApart
open Go.ChangeShapes Go.WideShapes Go.ChangeAt Go.RowKit
open Go.ChangeMaps (open_string shut_string)
set_option linter.unusedVariables false

open Go.Proofs.Ytdjiifponkclnaa.Bytes
open Go.Proofs.Ytdjiifponkclnaa.Ops
open Go.Proofs.Ytdjiifponkclnaa.OpsRow
open Go.Proofs.Ytdjiifponkclnaa.OpsWalk
open Go.Proofs.Ytdjiifponkclnaa.OpsRef
open Go.Proofs.Ytdjiifponkclnaa.OpsHelp
open Go.Proofs.Ytdjiifponkclnaa.OpsAwake
theorem own : ownKnob Try.prog.godebug = none := by kernel_rfl
theorem laidOut : laidOutB Try.prog = true := by kernel_rfl
theorem field_of {H : Type} {enc : TypeId × Value → H} {P : Program} {w : World} {base : Nat} {spare : Nat → Bool} {held : Bool} {t : TypeId} {fs : Array Field} {fuel : Nat} {cs : List Value} {x : DataW H × List MemPlace} (ht : P.underlying t = some (.struct fs)) (h : DataW.trod enc P w base spare held fuel t cs = some x) (i : Nat) (f : Field) (hf : fs[i]? = some f) :
    ∃ n y, DataW.trod enc P w base spare held n f.type ((cs.drop f.offset).take (P.cellsOf f.type)) = some y := by
  obtain ⟨xs, n, _, _, _, hlen, hq⟩ := DataW.trod_struct ht h
  have hi : i < xs.length := by
    rw [hlen]
    rcases Nat.lt_or_ge i fs.size with h1 | h1
    · exact h1
    · rw [Array.getElem?_eq_none h1] at hf; cases hf
  exact ⟨n, xs[i], by rw [hq i f hf, List.getElem?_eq_getElem hi]⟩
theorem list23 {l : List Value} (h : l.length = 3) : ∃ c0 c1 c2, l = [c0, c1, c2] := by
  match l, h with
  | [c0, c1, c2], _ => exact ⟨c0, c1, c2, rfl⟩
set_option maxRecDepth 100000 in
theorem open23 {H : Type} {enc : TypeId × Value → H} {w : World} {base : Nat} {spare : Nat → Bool} {held : Bool} {r : Reach} {b0 : Nat} {v : Value} {d : DataW H} {p : List MemPlace} (hv : Value.okWide Try.prog w r b0 23 v) (h : DataW.Trod enc Try.prog w base spare held 23 v d p) :
    ∃ (x0 : Bool) (x1 : Int) (x2 : ByteArray), v = .agg #[.bool x0, .int .i64 x1, .string x2] ∧ (Lit.int .i64 x1).wf = true ∧ x2.size ≤ maxLen := by
  obtain ⟨cs, rfl, hsz⟩ := okWide_struct Try.underlying23 hv
  have hc : Try.prog.cellsOf 23 = 3 := by kernel_rfl
  rw [hc] at hsz
  obtain ⟨l⟩ := cs
  obtain ⟨c0, c1, c2, rfl⟩ := list23 (l := l) (by simpa using hsz)
  obtain ⟨fuel, hf⟩ := h
  have k0 : Try.prog.cellsOf 4 = 1 := by kernel_rfl
  obtain ⟨n0, y0, h0⟩ := field_of Try.underlying23 hf 0 _ rfl
  have g0 : DataW.trod enc Try.prog w base spare held n0 4 [c0] = some y0 := by simpa [Value.cells, k0] using h0
  obtain ⟨x0, e0, _⟩ := DataW.trod_bool Try.underlying4 g0
  obtain rfl := (List.cons.inj e0).1
  have k1 : Try.prog.cellsOf 3 = 1 := by kernel_rfl
  obtain ⟨n1, y1, h1⟩ := field_of Try.underlying23 hf 1 _ rfl
  have g1 : DataW.trod enc Try.prog w base spare held n1 3 [c1] = some y1 := by simpa [Value.cells, k1] using h1
  obtain ⟨x1, e1, _, w1⟩ := DataW.trod_int Try.underlying3 g1
  obtain rfl := (List.cons.inj e1).1
  have k2 : Try.prog.cellsOf 9 = 1 := by kernel_rfl
  obtain ⟨n2, y2, h2⟩ := field_of Try.underlying23 hf 2 _ rfl
  have g2 : DataW.trod enc Try.prog w base spare held n2 9 [c2] = some y2 := by simpa [Value.cells, k2] using h2
  obtain ⟨x2, e2, _, w2⟩ := DataW.trod_string Try.underlying9 g2
  obtain rfl := (List.cons.inj e2).1
  exact ⟨x0, x1, x2, rfl, w1, w2⟩

theorem place_of {f : ByteArray} {e : Bool} {a : Int} {t : ByteArray} (h : cutOk f e a t 96 = true) : 0 ≤ a ∧ a < 768 := by
  have := (cutOk_parts.1 h).2.1
  cases e
  · exact ⟨(may_pr.1 this).1, (may_pr.1 this).2.1⟩
  · exact ⟨(may_er.1 this).1, (may_er.1 this).2.1⟩
set_option maxHeartbeats 2000000 in
theorem walk (a0 : ByteArray) (a1_0 : Bool) (a1_1 : Int) (a1_2 : ByteArray) (a2_0 : Bool) (a2_1 : Int) (a2_2 : ByteArray) (w0 : a0.size ≤ maxLen) (w1_1 : (Lit.int .i64 a1_1).wf = true) (w1_2 : a1_2.size ≤ maxLen) (w2_1 : (Lit.int .i64 a2_1).wf = true) (w2_2 : a2_2.size ≤ maxLen) (w : World) :
    Calls Try.prog 8 #[.string a0, .agg #[.bool a1_0, .int .i64 a1_1, .string a1_2], .agg #[.bool a2_0, .int .i64 a2_1, .string a2_2]] w fun e w' => e = .returned (.bool true) ∧ Below w.heap.size w w' := by
  have hB := ((Below.refl w.heap.size w).alloc (Nat.le_refl _) (.cells #[.bool a1_0, .int .i64 a1_1, .string a1_2] 23)).alloc (Nat.le_of_lt (size_alloc1 _ _)) (.cells #[.bool a2_0, .int .i64 a2_1, .string a2_2] 23)
  have hX := boxB (boxM w (.bool a1_0) (.int .i64 a1_1) (.string a1_2) 23) ((Below.refl _ _).alloc (Nat.le_refl _) (.cells #[.bool a2_0, .int .i64 a2_1, .string a2_2] 23))
  have hY := boxM (w.alloc (.cells #[.bool a1_0, .int .i64 a1_1, .string a1_2] 23)) (.bool a2_0) (.int .i64 a2_1) (.string a2_2) 23
  rw [show (w.alloc (.cells #[.bool a1_0, .int .i64 a1_1, .string a1_2] 23)).heap.size = w.heap.size + 1 from by simp] at hY
  have e0 : errO true = 0 := rfl
  have e2 : errO false = 300 := rfl
  cases k1 : cutOk a0 a1_0 a1_1 a1_2 96 with
  | false =>
    go_enter Try.func8, Try.ntmps8
    go_wp2_with (first | (go_at_call 11; refine (do_any _ _ _ _ _).mono ?_; rintro e w' ⟨rfl, hb⟩; replace hB := hB.trans (hb.mono hB.size); replace hX := boxB hX hb; replace hY := boxB hY hb; clear hb) | (go_at_call 17; refine (num_any _ _).mono ?_; rintro e w' ⟨rfl, rfl⟩) | (go_at_call 20; refine (awake_any _).mono ?_; rintro e w' ⟨rfl, hb⟩; replace hB := hB.trans (hb.mono hB.size); replace hX := boxB hX hb; replace hY := boxB hY hb; clear hb))
    go_ret
    exact ⟨rfl, hB⟩
  | true =>
    cases k2 : cutOk a0 a2_0 a2_1 a2_2 96 with
    | false =>
      go_enter Try.func8, Try.ntmps8
      go_wp2_with (first | (go_at_call 11; refine (do_any _ _ _ _ _).mono ?_; rintro e w' ⟨rfl, hb⟩; replace hB := hB.trans (hb.mono hB.size); replace hX := boxB hX hb; replace hY := boxB hY hb; clear hb) | (go_at_call 17; refine (num_any _ _).mono ?_; rintro e w' ⟨rfl, rfl⟩) | (go_at_call 20; refine (awake_any _).mono ?_; rintro e w' ⟨rfl, hb⟩; replace hB := hB.trans (hb.mono hB.size); replace hX := boxB hX hb; replace hY := boxB hY hb; clear hb))
      go_ret
      exact ⟨rfl, hB⟩
    | true =>
      obtain ⟨p1, p2⟩ := place_of k1
      obtain ⟨q1, q2⟩ := place_of k2
      have m1 := (cutOk_parts.1 k1).2.1
      have m2 := (cutOk_parts.1 k2).2.1
      by_cases hn : a1_1 < a2_1 + (if a2_0 then 96 else 4) ∧ a2_1 < a1_1 + (if a1_0 then 96 else 4)
      · obtain ⟨hn1, hn2⟩ := hn
        cases a1_0 <;> cases a2_0
        all_goals
          simp at hn1 hn2
          go_enter Try.func8, Try.ntmps8
          go_wp2_with (first | (go_at_call 11; refine (do_any _ _ _ _ _).mono ?_; rintro e w' ⟨rfl, hb⟩; replace hB := hB.trans (hb.mono hB.size); replace hX := boxB hX hb; replace hY := boxB hY hb; clear hb) | (go_at_call 17; refine (num_any _ _).mono ?_; rintro e w' ⟨rfl, rfl⟩) | (go_at_call 20; refine (awake_any _).mono ?_; rintro e w' ⟨rfl, hb⟩; replace hB := hB.trans (hb.mono hB.size); replace hX := boxB hX hb; replace hY := boxB hY hb; clear hb) | (go_at_call 13; refine (refMay_any _ _ _ _).mono ?_; rintro e w' ⟨rfl, hb⟩; replace hB := hB.trans (hb.mono hB.size); replace hX := boxB hX hb; replace hY := boxB hY hb; clear hb))
          go_ret
          exact ⟨rfl, hB⟩
      · obtain ⟨k3, k4, k5⟩ := apart k1 k2 hn
        cases a1_0 <;> cases a2_0
        all_goals
          simp at hn
          go_enter Try.func8, Try.ntmps8
          go_wp2_with (first | (go_at_call 11; refine (do_any _ _ _ _ _).mono ?_; rintro e w' ⟨rfl, hb⟩; replace hB := hB.trans (hb.mono hB.size); replace hX := boxB hX hb; replace hY := boxB hY hb; clear hb) | (go_at_call 17; refine (num_any _ _).mono ?_; rintro e w' ⟨rfl, rfl⟩) | (go_at_call 20; refine (awake_any _).mono ?_; rintro e w' ⟨rfl, hb⟩; replace hB := hB.trans (hb.mono hB.size); replace hX := boxB hX hb; replace hY := boxB hY hb; clear hb) | (go_at_call 13; refine (refMay_any _ _ _ _).mono ?_; rintro e w' ⟨rfl, hb⟩; replace hB := hB.trans (hb.mono hB.size); replace hX := boxB hX hb; replace hY := boxB hY hb; clear hb))
          all_goals go_ret
          all_goals exact ⟨rfl, hB⟩

set_option maxRecDepth 100000 in
theorem lifted (os : Os) (started : os.Started) (H : Type) (enc : TypeId × Value → H) :
    ReturnsInHanded {} Try.checked os 8 .any (Rows.opsApartSpec.pre6 enc Try.prog Try.f8 Rows.opsApartRow.domain false) (Rows.opsApartSpec.post enc Try.prog Try.f8 false true false false) := by
  refine returnsInHanded_of_change (C := Try.checked) own started (by kernel_rfl) Try.func8
    (ChangeSpec.witness6 (enc := enc) (C := Try.checked) false ⟨#[], #[.string ByteArray.empty, .agg #[.bool false, .int .i64 0, .string ByteArray.empty], .agg #[.bool false, .int .i64 0, .string ByteArray.empty]], []⟩ 8 (by kernel_rfl) (by kernel_rfl) (by kernel_rfl) (by kernel_rfl)) ?_
  intro W base args ds gs before hval0 hW hcnd _
  have hval : ∀ (j : Nat) t v, Try.f8.params[j]? = some t → args[j]? = some v → Value.okWide Try.prog W .any base t v := hval0
  have hW' := hW
  obtain ⟨p, q, hA0, hV, rfl, hfz, hnd⟩ := hW
  have hA : DataW.TrodAll enc Try.prog W 0 (fun _ => true) true Try.f8.params.toList args.toList ds p := hA0
  rw [Try.params8] at hA hval
  obtain ⟨v0, vs0, d0, ds0, p0, q0, hargs, rfl, rfl, h0, r0⟩ := trodAll_cons hA
  obtain ⟨v1, vs1, d1, ds1, p1, q1, rfl, rfl, rfl, h1, r1⟩ := trodAll_cons r0
  obtain ⟨v2, vs2, d2, ds2, p2, q2, rfl, rfl, rfl, h2, r2⟩ := trodAll_cons r1
  obtain ⟨rfl, rfl, rfl⟩ := trodAll_nil r2
  obtain rfl : args = #[v0, v1, v2] := by cases args; simp_all
  obtain ⟨rfl, rfl⟩ := trodVars_none hV
  obtain ⟨a0, rfl, rfl, rfl, w0⟩ := open_string Try.underlying9 (hval 0 9 v0 rfl rfl) h0
  have k1 := h1
  have lt1 : ∀ x ∈ p1, x.block < W.heap.size := by obtain ⟨m, hm⟩ := k1; exact DataW.trod_lt m _ _ _ hm
  obtain ⟨a1_0, a1_1, a1_2, rfl, w1_1, w1_2⟩ := open23 (hval 1 23 v1 rfl rfl) h1
  have k2 := h2
  have lt2 : ∀ x ∈ p2, x.block < W.heap.size := by obtain ⟨m, hm⟩ := k2; exact DataW.trod_lt m _ _ _ hm
  obtain ⟨a2_0, a2_1, a2_2, rfl, w2_1, w2_2⟩ := open23 (hval 2 23 v2 rfl rfl) h2
  clear hA0 hval0
  refine (walk a0 a1_0 a1_1 a1_2 a2_0 a2_1 a2_2 w0 w1_1 w1_2 w2_1 w2_2 W).mono fun e W' ⟨he, bel⟩ => ?_
  subst he
  exact ⟨_, rfl, _, _, _, [], _, [], hW', (trodAll_cons_mk (shut_bool Try.underlying4 _) trodAll_mk0), (trodAll_cons_mk (shut_string Try.underlying9 w0) (trodAll_cons_mk (Below.trod laidOut (by kernel_rfl) (of_decide_eq_true (by kernel_rfl)) k1 bel lt1) (trodAll_cons_mk (Below.trod laidOut (by kernel_rfl) (of_decide_eq_true (by kernel_rfl)) k2 bel lt2) trodAll_mk0))), rfl, bel.frame _, fun h => by cases h⟩

theorem over : Rows.opsApartRow.holds Try.pinned (OpenSpec.ofChange Rows.opsApartSpec) :=
  OpenClaim.holds_of_wide 8 Try.f8 rfl rfl rfl rfl rfl rfl rfl ⟨rfl, rfl, rfl, rfl, rfl⟩ rfl rfl rfl rfl rfl (by kernel_rfl) Try.func8 (by kernel_rfl)
    (of_decide_eq_true (by kernel_rfl)) (by unfold Func.isWrapper; first | (rw [if_pos (by decide +kernel)]; kernel_rfl) | (rw [if_neg (by decide +kernel)]; exact ⟨rfl, rfl⟩))
    (fun os started H enc _ => lifted os started H enc)

theorem proved : Rows.OpsApartSaid :=
  over
#print axioms proved
end Go.Proofs.Ytdjiifponkclnaa.opsApart
