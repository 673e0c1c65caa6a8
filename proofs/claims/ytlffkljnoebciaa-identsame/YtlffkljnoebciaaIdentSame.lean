/- Whatever the two numbers of whom a file is for: the law IdentSame returns true (who matches, and is matched, is the same, or one of them is any), and the arguments read as they did; no condition. -/
import Derived.Test.YtlffkljnoebciaaRows
import Derived.Test.YtlffkljnoebciaaNorMath
import Derived.Test.YtlffkljnoebciaaBytes
import Derived.Test.YtlffkljnoebciaaNorWalk
import Derived.Test.YtlffkljnoebciaaNorRef
import Derived.Test.YtlffkljnoebciaaOpsMath
import Derived.Test.YtlffkljnoebciaaOpsRow
import Derived.Test.YtlffkljnoebciaaCrcMath
import Derived.Test.YtlffkljnoebciaaEntMath
import Derived.Test.YtlffkljnoebciaaEntRow
import Derived.Test.YtlffkljnoebciaaSufMath
import Derived.Test.YtlffkljnoebciaaIdtMath
import Derived.Test.YtlffkljnoebciaaIdtWalk
import Derived.Test.YtlffkljnoebciaaIdtAwake
import Derived.Laws.StructEq
import Derived.Deep.Cut
import Derived.WalkKit
import Derived.ProofKit
import Derived.OpenShut
import Derived.ShutString
import Derived.ChangeOld
import Derived.Below
namespace Go.Proofs.Ytlffkljnoebciaa.identSame
open Go.ChangeShapes Go.WideShapes Go.ChangeAt Go.RowKit
open Go.ChangeMaps (open_string shut_string)
set_option linter.unusedVariables false

open Go.Proofs.Ytlffkljnoebciaa.Bytes
open Go.Proofs.Ytlffkljnoebciaa.Suf
open Go.Proofs.Ytlffkljnoebciaa.Idt
open Go.Proofs.Ytlffkljnoebciaa.IdtWalk
open Go.Proofs.Ytlffkljnoebciaa.IdtAwake
theorem own : ownKnob Try.prog.godebug = none := by kernel_rfl
theorem laidOut : laidOutB Try.prog = true := by kernel_rfl
theorem field_of {H : Type} {enc : TypeId × Value → H} {P : Program} {w : World} {base : Nat} {spare : Nat → Bool} {held : Bool} {t : TypeId} {fs : Array Field} {fuel : Nat} {cs : List Value} {x : DataW H × List MemPlace} (ht : P.underlying t = some (.struct fs)) (h : DataW.trod enc P w base spare held fuel t cs = some x) (i : Nat) (f : Field) (hf : fs[i]? = some f) :
    ∃ n y, DataW.trod enc P w base spare held n f.type ((cs.drop f.offset).take (P.cellsOf f.type)) = some y := by
  obtain ⟨xs, n, _, _, _, hlen, hq⟩ := DataW.trod_struct ht h
  have hi : i < xs.length := by
    rw [hlen]
    rcases Nat.lt_or_ge i fs.size with h1 | h1
    · exact h1
    · rw [Array.getElem?_eq_none h1] at hf; cases hf
  exact ⟨n, xs[i], by rw [hq i f hf, List.getElem?_eq_getElem hi]⟩
theorem list23 {l : List Value} (h : l.length = 3) : ∃ c0 c1 c2, l = [c0, c1, c2] := by
  match l, h with
  | [c0, c1, c2], _ => exact ⟨c0, c1, c2, rfl⟩
set_option maxRecDepth 100000 in
theorem open23 {H : Type} {enc : TypeId × Value → H} {w : World} {base : Nat} {spare : Nat → Bool} {held : Bool} {r : Reach} {b0 : Nat} {v : Value} {d : DataW H} {p : List MemPlace} (hv : Value.okWide Try.prog w r b0 23 v) (h : DataW.Trod enc Try.prog w base spare held 23 v d p) :
    ∃ (x0 : Int) (x1 : Int) (x2 : Int), v = .agg #[.int .i64 x0, .int .i64 x1, .int .i64 x2] ∧ (Lit.int .i64 x0).wf = true ∧ (Lit.int .i64 x1).wf = true ∧ (Lit.int .i64 x2).wf = true := by
  obtain ⟨cs, rfl, hsz⟩ := okWide_struct Try.underlying23 hv
  have hc : Try.prog.cellsOf 23 = 3 := by kernel_rfl
  rw [hc] at hsz
  obtain ⟨l⟩ := cs
  obtain ⟨c0, c1, c2, rfl⟩ := list23 (l := l) (by simpa using hsz)
  obtain ⟨fuel, hf⟩ := h
  have k0 : Try.prog.cellsOf 3 = 1 := by kernel_rfl
  obtain ⟨n0, y0, h0⟩ := field_of Try.underlying23 hf 0 _ rfl
  have g0 : DataW.trod enc Try.prog w base spare held n0 3 [c0] = some y0 := by simpa [Value.cells, k0] using h0
  obtain ⟨x0, e0, _, w0⟩ := DataW.trod_int Try.underlying3 g0
  obtain rfl := (List.cons.inj e0).1
  have k1 : Try.prog.cellsOf 3 = 1 := by kernel_rfl
  obtain ⟨n1, y1, h1⟩ := field_of Try.underlying23 hf 1 _ rfl
  have g1 : DataW.trod enc Try.prog w base spare held n1 3 [c1] = some y1 := by simpa [Value.cells, k1] using h1
  obtain ⟨x1, e1, _, w1⟩ := DataW.trod_int Try.underlying3 g1
  obtain rfl := (List.cons.inj e1).1
  have k2 : Try.prog.cellsOf 3 = 1 := by kernel_rfl
  obtain ⟨n2, y2, h2⟩ := field_of Try.underlying23 hf 2 _ rfl
  have g2 : DataW.trod enc Try.prog w base spare held n2 3 [c2] = some y2 := by simpa [Value.cells, k2] using h2
  obtain ⟨x2, e2, _, w2⟩ := DataW.trod_int Try.underlying3 g2
  obtain rfl := (List.cons.inj e2).1
  exact ⟨x0, x1, x2, rfl, w0, w1, w2⟩

open Go.Proofs.Ytlffkljnoebciaa.OpsRow (boxM boxB)
/-- Refused; or the first number that is any; or none is any, and they are the same, or which is the first that is another. -/
theorem ways (v p r v' p' r' : Int) : (mtOk v p r v' p' r' = false ∧ idsB v p r = false) ∨ (mtOk v p r v' p' r' = false ∧ idsB v p r = true ∧ idsB v' p' r' = false) ∨ (mtOk v p r v' p' r' = true ∧ (v = 65535 ∨ p = 65535 ∨ r = 65535 ∨ v' = 65535 ∨ p' = 65535 ∨ r' = 65535)) ∨ (mtOk v p r v' p' r' = true ∧ (v == 65535) = false ∧ (p == 65535) = false ∧ (r == 65535) = false ∧ (v' == 65535) = false ∧ (p' == 65535) = false ∧ (r' == 65535) = false ∧ ((v = v' ∧ p = p' ∧ r = r' ∧ mtB v p r v' p' r' = true ∧ mtB v' p' r' v p r = true) ∨ ((¬ v = v' ∨ (v = v' ∧ ¬ p = p') ∨ (v = v' ∧ p = p' ∧ ¬ r = r')) ∧ mtB v p r v' p' r' = false ∧ mtB v' p' r' v p r = false))) := by
  cases k : mtOk v p r v' p' r' with
  | false =>
    cases h1 : idsB v p r with
    | false => exact .inl ⟨rfl, rfl⟩
    | true =>
      refine .inr (.inl ⟨rfl, rfl, ?_⟩)
      unfold mtOk at k
      rw [h1] at k
      exact k
  | true =>
    have k2 : mtOk v' p' r' v p r = true := by rw [mtOk_comm]; exact k
    refine .inr (.inr ?_)
    by_cases g : v = 65535 ∨ p = 65535 ∨ r = 65535 ∨ v' = 65535 ∨ p' = 65535 ∨ r' = 65535
    · exact .inl ⟨rfl, g⟩
    · refine .inr ⟨rfl, beq_eq_false_iff_ne.2 (by omega), beq_eq_false_iff_ne.2 (by omega), beq_eq_false_iff_ne.2 (by omega), beq_eq_false_iff_ne.2 (by omega), beq_eq_false_iff_ne.2 (by omega), beq_eq_false_iff_ne.2 (by omega), ?_⟩
      by_cases h : v = v' ∧ p = p' ∧ r = r'
      · refine .inl ⟨h.1, h.2.1, h.2.2, ?_, ?_⟩
        · rw [mtB_ok k, fitsB_iff]; omega
        · rw [mtB_ok k2, fitsB_iff]; omega
      · refine .inr ⟨by omega, ?_, ?_⟩
        · rw [mtB_ok k, ← Bool.not_eq_true, fitsB_iff]; omega
        · rw [mtB_ok k2, ← Bool.not_eq_true, fitsB_iff]; omega
set_option maxRecDepth 100000 in
set_option maxHeartbeats 4000000 in
theorem walk (a0_0 : Int) (a0_1 : Int) (a0_2 : Int) (a1_0 : Int) (a1_1 : Int) (a1_2 : Int) (w0_0 : (Lit.int .i64 a0_0).wf = true) (w0_1 : (Lit.int .i64 a0_1).wf = true) (w0_2 : (Lit.int .i64 a0_2).wf = true) (w1_0 : (Lit.int .i64 a1_0).wf = true) (w1_1 : (Lit.int .i64 a1_1).wf = true) (w1_2 : (Lit.int .i64 a1_2).wf = true) (w : World) :
    Calls Try.prog 6 #[.agg #[.int .i64 a0_0, .int .i64 a0_1, .int .i64 a0_2], .agg #[.int .i64 a1_0, .int .i64 a1_1, .int .i64 a1_2]] w fun e w' => e = .returned (.bool true) ∧ Below w.heap.size w w' := by
  obtain ⟨hB, hX, hY⟩ := two_box w (.int .i64 a0_0) (.int .i64 a0_1) (.int .i64 a0_2) (.int .i64 a1_0) (.int .i64 a1_1) (.int .i64 a1_2) 23
  have e1 : errM true = 0 := rfl
  have e2 : errM false = 1200 := rfl
  have c1 := fun w => match_any a0_0 a0_1 a0_2 a1_0 a1_1 a1_2 w
  have c2 := fun w => match_any a1_0 a1_1 a1_2 a0_0 a0_1 a0_2 w
  have c3 := fun w => imay_any a0_0 a0_1 a0_2 w
  have c4 := fun w => imay_any a1_0 a1_1 a1_2 w
  rw [mtOk_comm] at c2
  rcases ways a0_0 a0_1 a0_2 a1_0 a1_1 a1_2 with ⟨k, h1⟩ | ⟨k, h1, h2⟩ | ⟨k, g⟩ | ⟨k, g1, g2, g3, g4, g5, g6, ⟨rfl, rfl, rfl, m1, m2⟩ | ⟨g, m1, m2⟩⟩
  all_goals
    rw [k] at c1 c2
  · rw [mtB_no k] at c1
    rw [mtB_no (by rw [mtOk_comm]; exact k)] at c2
    rw [h1] at c3
    have C1 := hide c1
    have C2 := hide c2
    have C3 := hide c3
    clear c1 c2 c3 c4 k h1
    go_enter Try.func6, Try.ntmps6
    go_upto_region 3 with (go_at_call 12; refine (awake_any _).mono ?_; rintro e w' ⟨rfl, hb⟩; replace hB := thenB hB hb; replace hX := boxB hX hb; replace hY := boxB hY hb; clear hb)
    go_upto_region 4 with (go_at_call 7; refine (C1.out _).mono ?_; rintro e w' ⟨rfl, hb⟩; replace hB := thenB hB hb; replace hX := boxB hX hb; replace hY := boxB hY hb; clear hb)
    go_upto_region 5 with (go_at_call 7; refine (C2.out _).mono ?_; rintro e w' ⟨rfl, hb⟩; replace hB := thenB hB hb; replace hX := boxB hX hb; replace hY := boxB hY hb; clear hb)
    go_wp2_with (first | (go_at_call 9; refine (num_any _ _).mono ?_; rintro e w' ⟨rfl, rfl⟩) | (go_at_call 10; refine (C3.out _).mono ?_; rintro e w' ⟨rfl, hb⟩; replace hB := thenB hB hb; replace hX := boxB hX hb; replace hY := boxB hY hb; clear hb))
    go_ret
    exact ⟨rfl, hB⟩
  · rw [mtB_no k] at c1
    rw [mtB_no (by rw [mtOk_comm]; exact k)] at c2
    have C1 := hide c1
    have C2 := hide c2
    clear c1 c2 c3 c4 k
    go_enter Try.func6, Try.ntmps6
    go_upto_region 3 with (go_at_call 12; refine (awake_any _).mono ?_; rintro e w' ⟨rfl, hb⟩; replace hB := thenB hB hb; replace hX := boxB hX hb; replace hY := boxB hY hb; clear hb)
    go_upto_region 4 with (go_at_call 7; refine (C1.out _).mono ?_; rintro e w' ⟨rfl, hb⟩; replace hB := thenB hB hb; replace hX := boxB hX hb; replace hY := boxB hY hb; clear hb)
    go_upto_region 5 with (go_at_call 7; refine (C2.out _).mono ?_; rintro e w' ⟨rfl, hb⟩; replace hB := thenB hB hb; replace hX := boxB hX hb; replace hY := boxB hY hb; clear hb)
    go_wp2_with (first | (go_at_call 9; refine (num_any _ _).mono ?_; rintro e w' ⟨rfl, rfl⟩) | (go_at_call 10; refine (imay_any _ _ _ _).mono ?_; rintro e w' ⟨rfl, hb⟩; replace hB := thenB hB hb; replace hX := boxB hX hb; replace hY := boxB hY hb; clear hb))
    go_ret
    exact ⟨rfl, hB⟩
  · generalize mtB a0_0 a0_1 a0_2 a1_0 a1_1 a1_2 = M at *
    generalize mtB a1_0 a1_1 a1_2 a0_0 a0_1 a0_2 = M' at *
    have C1 := hide c1
    have C2 := hide c2
    clear c1 c2 c3 c4 k
    have G := hide g
    clear g
    go_enter Try.func6, Try.ntmps6
    go_upto_region 3 with (go_at_call 12; refine (awake_any _).mono ?_; rintro e w' ⟨rfl, hb⟩; replace hB := thenB hB hb; replace hX := boxB hX hb; replace hY := boxB hY hb; clear hb)
    go_upto_region 4 with (go_at_call 7; refine (C1.out _).mono ?_; rintro e w' ⟨rfl, hb⟩; replace hB := thenB hB hb; replace hX := boxB hX hb; replace hY := boxB hY hb; clear hb)
    go_upto_region 5 with (go_at_call 7; refine (C2.out _).mono ?_; rintro e w' ⟨rfl, hb⟩; replace hB := thenB hB hb; replace hX := boxB hX hb; replace hY := boxB hY hb; clear hb)
    clear C1 C2
    cases q1 : (a0_0 == 65535)
    · cases q2 : (a0_1 == 65535)
      · cases q3 : (a0_2 == 65535)
        · cases q4 : (a1_0 == 65535)
          · cases q5 : (a1_1 == 65535)
            · have q6 : (a1_2 == 65535) = true := by
                rw [beq_iff_eq]
                rw [beq_eq_false_iff_ne] at q1 q2 q3 q4 q5
                rcases G.out with h | h | h | h | h | h
                · exact absurd h q1
                · exact absurd h q2
                · exact absurd h q3
                · exact absurd h q4
                · exact absurd h q5
                · exact h
              go_wp2_with (go_at_call 9; refine (num_any _ _).mono ?_; rintro e w' ⟨rfl, rfl⟩)
              go_ret
              exact ⟨rfl, hB⟩
            · go_wp2_with (go_at_call 9; refine (num_any _ _).mono ?_; rintro e w' ⟨rfl, rfl⟩)
              go_ret
              exact ⟨rfl, hB⟩
          · go_wp2_with (go_at_call 9; refine (num_any _ _).mono ?_; rintro e w' ⟨rfl, rfl⟩)
            go_ret
            exact ⟨rfl, hB⟩
        · go_wp2_with (go_at_call 9; refine (num_any _ _).mono ?_; rintro e w' ⟨rfl, rfl⟩)
          go_ret
          exact ⟨rfl, hB⟩
      · go_wp2_with (go_at_call 9; refine (num_any _ _).mono ?_; rintro e w' ⟨rfl, rfl⟩)
        go_ret
        exact ⟨rfl, hB⟩
    · go_wp2_with (go_at_call 9; refine (num_any _ _).mono ?_; rintro e w' ⟨rfl, rfl⟩)
      go_ret
      exact ⟨rfl, hB⟩
  · rw [m1] at c1
    rw [m2] at c2
    have C1 := hide c1
    have C2 := hide c2
    clear c1 c2 c3 c4 k m1 m2
    go_enter Try.func6, Try.ntmps6
    go_upto_region 3 with (go_at_call 12; refine (awake_any _).mono ?_; rintro e w' ⟨rfl, hb⟩; replace hB := thenB hB hb; replace hX := boxB hX hb; replace hY := boxB hY hb; clear hb)
    go_upto_region 4 with (go_at_call 7; refine (C1.out _).mono ?_; rintro e w' ⟨rfl, hb⟩; replace hB := thenB hB hb; replace hX := boxB hX hb; replace hY := boxB hY hb; clear hb)
    go_upto_region 5 with (go_at_call 7; refine (C2.out _).mono ?_; rintro e w' ⟨rfl, hb⟩; replace hB := thenB hB hb; replace hX := boxB hX hb; replace hY := boxB hY hb; clear hb)
    go_wp2_with (go_at_call 9; refine (num_any _ _).mono ?_; rintro e w' ⟨rfl, rfl⟩)
    go_ret
    exact ⟨rfl, hB⟩
  · rw [m1] at c1
    rw [m2] at c2
    have C1 := hide c1
    have C2 := hide c2
    clear c1 c2 c3 c4 k m1 m2
    rcases g with g | ⟨rfl, g⟩ | ⟨rfl, rfl, g⟩
    all_goals
      go_enter Try.func6, Try.ntmps6
      go_upto_region 3 with (go_at_call 12; refine (awake_any _).mono ?_; rintro e w' ⟨rfl, hb⟩; replace hB := thenB hB hb; replace hX := boxB hX hb; replace hY := boxB hY hb; clear hb)
      go_upto_region 4 with (go_at_call 7; refine (C1.out _).mono ?_; rintro e w' ⟨rfl, hb⟩; replace hB := thenB hB hb; replace hX := boxB hX hb; replace hY := boxB hY hb; clear hb)
      go_upto_region 5 with (go_at_call 7; refine (C2.out _).mono ?_; rintro e w' ⟨rfl, hb⟩; replace hB := thenB hB hb; replace hX := boxB hX hb; replace hY := boxB hY hb; clear hb)
      go_wp2_with (go_at_call 9; refine (num_any _ _).mono ?_; rintro e w' ⟨rfl, rfl⟩)
      go_ret
      exact ⟨rfl, hB⟩

set_option maxRecDepth 100000 in
theorem lifted (os : Os) (started : os.Started) (H : Type) (enc : TypeId × Value → H) :
    ReturnsInHanded {} Try.checked os 6 .any (Rows.identSameSpec.pre6 enc Try.prog Try.f6 Rows.identSameRow.domain false) (Rows.identSameSpec.post enc Try.prog Try.f6 false true false false) := by
  refine returnsInHanded_of_change (C := Try.checked) own started (by kernel_rfl) Try.func6
    (ChangeSpec.witness6 (enc := enc) (C := Try.checked) false ⟨#[], #[.agg #[.int .i64 0, .int .i64 0, .int .i64 0], .agg #[.int .i64 0, .int .i64 0, .int .i64 0]], []⟩ 8 (by kernel_rfl) (by kernel_rfl) (by kernel_rfl) (by kernel_rfl)) ?_
  intro W base args ds gs before hval0 hW hcnd _
  have hval : ∀ (j : Nat) t v, Try.f6.params[j]? = some t → args[j]? = some v → Value.okWide Try.prog W .any base t v := hval0
  have hW' := hW
  obtain ⟨p, q, hA0, hV, rfl, hfz, hnd⟩ := hW
  have hA : DataW.TrodAll enc Try.prog W 0 (fun _ => true) true Try.f6.params.toList args.toList ds p := hA0
  rw [Try.params6] at hA hval
  obtain ⟨v0, vs0, d0, ds0, p0, q0, hargs, rfl, rfl, h0, r0⟩ := trodAll_cons hA
  obtain ⟨v1, vs1, d1, ds1, p1, q1, rfl, rfl, rfl, h1, r1⟩ := trodAll_cons r0
  obtain ⟨rfl, rfl, rfl⟩ := trodAll_nil r1
  obtain rfl : args = #[v0, v1] := by cases args; simp_all
  obtain ⟨rfl, rfl⟩ := trodVars_none hV
  have k0 := h0
  have lt0 : ∀ x ∈ p0, x.block < W.heap.size := by obtain ⟨m, hm⟩ := k0; exact DataW.trod_lt m _ _ _ hm
  obtain ⟨a0_0, a0_1, a0_2, rfl, w0_0, w0_1, w0_2⟩ := open23 (hval 0 23 v0 rfl rfl) h0
  have k1 := h1
  have lt1 : ∀ x ∈ p1, x.block < W.heap.size := by obtain ⟨m, hm⟩ := k1; exact DataW.trod_lt m _ _ _ hm
  obtain ⟨a1_0, a1_1, a1_2, rfl, w1_0, w1_1, w1_2⟩ := open23 (hval 1 23 v1 rfl rfl) h1
  clear hA0 hval0
  refine (walk a0_0 a0_1 a0_2 a1_0 a1_1 a1_2 w0_0 w0_1 w0_2 w1_0 w1_1 w1_2 W).mono fun e W' ⟨he, bel⟩ => ?_
  subst he
  exact ⟨_, rfl, _, _, _, [], _, [], hW', (trodAll_cons_mk (shut_bool Try.underlying4 _) trodAll_mk0), (trodAll_cons_mk (Below.trod laidOut (by kernel_rfl) (of_decide_eq_true (by kernel_rfl)) k0 bel lt0) (trodAll_cons_mk (Below.trod laidOut (by kernel_rfl) (of_decide_eq_true (by kernel_rfl)) k1 bel lt1) trodAll_mk0)), rfl, bel.frame _, fun h => by cases h⟩

theorem over : Rows.identSameRow.holds Try.pinned (OpenSpec.ofChange Rows.identSameSpec) :=
  OpenClaim.holds_of_wide 6 Try.f6 rfl rfl rfl rfl rfl rfl rfl ⟨rfl, rfl, rfl, rfl, rfl⟩ rfl rfl rfl rfl rfl (by kernel_rfl) Try.func6 (by kernel_rfl)
    (of_decide_eq_true (by kernel_rfl)) (by unfold Func.isWrapper; first | (rw [if_pos (by decide +kernel)]; kernel_rfl) | (rw [if_neg (by decide +kernel)]; exact ⟨rfl, rfl⟩))
    (fun os started H enc _ => lifted os started H enc)

theorem proved : Rows.IdentSameSaid :=
  over
#print axioms proved
end Go.Proofs.Ytlffkljnoebciaa.identSame
