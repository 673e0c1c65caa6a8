/- Whatever the two answers and the text: the law Answers returns true (each call of package answer answers as the document's own; unlike answers have unlike bytes), and the arguments read as they did; no condition. -/
import Derived.Test.YtddelbjnnkhgbaaRows
import Derived.Test.YtddelbjnnkhgbaaNorMath
import Derived.Test.YtddelbjnnkhgbaaBytes
import Derived.Test.YtddelbjnnkhgbaaNorWalk
import Derived.Test.YtddelbjnnkhgbaaNorRef
import Derived.Test.YtddelbjnnkhgbaaOpsMath
import Derived.Test.YtddelbjnnkhgbaaOpsRow
import Derived.Test.YtddelbjnnkhgbaaCrcMath
import Derived.Test.YtddelbjnnkhgbaaEntMath
import Derived.Test.YtddelbjnnkhgbaaEntRow
import Derived.Test.YtddelbjnnkhgbaaEntLow
import Derived.Test.YtddelbjnnkhgbaaEntWalk
import Derived.Test.YtddelbjnnkhgbaaEntRef
import Derived.Test.YtddelbjnnkhgbaaSufMath
import Derived.Test.YtddelbjnnkhgbaaAnsMath
import Derived.Test.YtddelbjnnkhgbaaAnsWalk
import Derived.Test.YtddelbjnnkhgbaaAnsRef
import Derived.Test.YtddelbjnnkhgbaaAnsGet
import Derived.Test.YtddelbjnnkhgbaaAnsAwake
import Derived.Laws.StructEq
import Derived.Deep.RegionHeld3
import Derived.Deep.DrawnRows
import Derived.WalkKit
import Derived.ProofKit
import Derived.OpenShut
import Derived.ShutString
import Derived.ChangeOld
import Derived.Below
namespace Go.Proofs.Ytddelbjnnkhgbaa.answers
open Go.ChangeShapes Go.WideShapes Go.ChangeAt Go.RowKit
open Go.ChangeMaps (open_string shut_string)
set_option linter.unusedVariables false

open Go.Proofs.Ytddelbjnnkhgbaa.Bytes
open Go.Proofs.Ytddelbjnnkhgbaa.Ans
open Go.Proofs.Ytddelbjnnkhgbaa.AnsWalk
open Go.Proofs.Ytddelbjnnkhgbaa.AnsRef
open Go.Proofs.Ytddelbjnnkhgbaa.AnsGet
open Go.Proofs.Ytddelbjnnkhgbaa.AnsAwake
theorem own : ownKnob Try.prog.godebug = none := by kernel_rfl
theorem laidOut : laidOutB Try.prog = true := by kernel_rfl
theorem field_of {H : Type} {enc : TypeId × Value → H} {P : Program} {w : World} {base : Nat} {spare : Nat → Bool} {held : Bool} {t : TypeId} {fs : Array Field} {fuel : Nat} {cs : List Value} {x : DataW H × List MemPlace} (ht : P.underlying t = some (.struct fs)) (h : DataW.trod enc P w base spare held fuel t cs = some x) (i : Nat) (f : Field) (hf : fs[i]? = some f) :
    ∃ n y, DataW.trod enc P w base spare held n f.type ((cs.drop f.offset).take (P.cellsOf f.type)) = some y := by
  obtain ⟨xs, n, _, _, _, hlen, hq⟩ := DataW.trod_struct ht h
  have hi : i < xs.length := by
    rw [hlen]
    rcases Nat.lt_or_ge i fs.size with h1 | h1
    · exact h1
    · rw [Array.getElem?_eq_none h1] at hf; cases hf
  exact ⟨n, xs[i], by rw [hq i f hf, List.getElem?_eq_getElem hi]⟩
theorem list23 {l : List Value} (h : l.length = 3) : ∃ c0 c1 c2, l = [c0, c1, c2] := by
  match l, h with
  | [c0, c1, c2], _ => exact ⟨c0, c1, c2, rfl⟩
set_option maxRecDepth 100000 in
theorem open23 {H : Type} {enc : TypeId × Value → H} {w : World} {base : Nat} {spare : Nat → Bool} {held : Bool} {r : Reach} {b0 : Nat} {v : Value} {d : DataW H} {p : List MemPlace} (hv : Value.okWide Try.prog w r b0 23 v) (h : DataW.Trod enc Try.prog w base spare held 23 v d p) :
    ∃ (x0 : Int) (x1 : Int) (x2 : Int), v = .agg #[.int .i64 x0, .int .i64 x1, .int .i64 x2] ∧ (Lit.int .i64 x0).wf = true ∧ (Lit.int .i64 x1).wf = true ∧ (Lit.int .i64 x2).wf = true := by
  obtain ⟨cs, rfl, hsz⟩ := okWide_struct Try.underlying23 hv
  have hc : Try.prog.cellsOf 23 = 3 := by kernel_rfl
  rw [hc] at hsz
  obtain ⟨l⟩ := cs
  obtain ⟨c0, c1, c2, rfl⟩ := list23 (l := l) (by simpa using hsz)
  obtain ⟨fuel, hf⟩ := h
  have k0 : Try.prog.cellsOf 3 = 1 := by kernel_rfl
  obtain ⟨n0, y0, h0⟩ := field_of Try.underlying23 hf 0 _ rfl
  have g0 : DataW.trod enc Try.prog w base spare held n0 3 [c0] = some y0 := by simpa [Value.cells, k0] using h0
  obtain ⟨x0, e0, _, w0⟩ := DataW.trod_int Try.underlying3 g0
  obtain rfl := (List.cons.inj e0).1
  have k1 : Try.prog.cellsOf 3 = 1 := by kernel_rfl
  obtain ⟨n1, y1, h1⟩ := field_of Try.underlying23 hf 1 _ rfl
  have g1 : DataW.trod enc Try.prog w base spare held n1 3 [c1] = some y1 := by simpa [Value.cells, k1] using h1
  obtain ⟨x1, e1, _, w1⟩ := DataW.trod_int Try.underlying3 g1
  obtain rfl := (List.cons.inj e1).1
  have k2 : Try.prog.cellsOf 3 = 1 := by kernel_rfl
  obtain ⟨n2, y2, h2⟩ := field_of Try.underlying23 hf 2 _ rfl
  have g2 : DataW.trod enc Try.prog w base spare held n2 3 [c2] = some y2 := by simpa [Value.cells, k2] using h2
  obtain ⟨x2, e2, _, w2⟩ := DataW.trod_int Try.underlying3 g2
  obtain rfl := (List.cons.inj e2).1
  exact ⟨x0, x1, x2, rfl, w0, w1, w2⟩

open Go.Proofs.Ytddelbjnnkhgbaa.OpsRow (boxM boxB boxD thenD)
open Go.Proofs.Ytddelbjnnkhgbaa.EntRow (text_ne size_alloc1)
theorem hal (w : World) (o : Obj) : Below w.heap.size w (w.alloc o) := (Below.refl _ w).alloc (Nat.le_refl _) o
/-- The boxes of two structs that come in. -/
theorem two_box (w : World) (v p r v' p' r' : Value) (t : TypeId) : Below w.heap.size w ((w.alloc (.cells #[v, p, r] t)).alloc (.cells #[v', p', r'] t)) ∧ (w.heap.size < ((w.alloc (.cells #[v, p, r] t)).alloc (.cells #[v', p', r'] t)).heap.size ∧ ((w.alloc (.cells #[v, p, r] t)).alloc (.cells #[v', p', r'] t)).cell? ⟨w.heap.size, 0, none⟩ = some v ∧ ((w.alloc (.cells #[v, p, r] t)).alloc (.cells #[v', p', r'] t)).cell? ⟨w.heap.size, 1, none⟩ = some p ∧ ((w.alloc (.cells #[v, p, r] t)).alloc (.cells #[v', p', r'] t)).cell? ⟨w.heap.size, 2, none⟩ = some r) ∧ (w.heap.size + 1 < ((w.alloc (.cells #[v, p, r] t)).alloc (.cells #[v', p', r'] t)).heap.size ∧ ((w.alloc (.cells #[v, p, r] t)).alloc (.cells #[v', p', r'] t)).cell? ⟨w.heap.size + 1, 0, none⟩ = some v' ∧ ((w.alloc (.cells #[v, p, r] t)).alloc (.cells #[v', p', r'] t)).cell? ⟨w.heap.size + 1, 1, none⟩ = some p' ∧ ((w.alloc (.cells #[v, p, r] t)).alloc (.cells #[v', p', r'] t)).cell? ⟨w.heap.size + 1, 2, none⟩ = some r') := by
  have hY := boxM (w.alloc (.cells #[v, p, r] t)) v' p' r' t
  rw [show (w.alloc (.cells #[v, p, r] t)).heap.size = w.heap.size + 1 from by simp] at hY
  exact ⟨((Below.refl w.heap.size w).alloc (Nat.le_refl _) _).alloc (Nat.le_of_lt (size_alloc1 _ _)) _, boxB (boxM w v p r t) ((Below.refl _ _).alloc (Nat.le_refl _) _), hY⟩
/-- One refused, or the same answer twice, or another one: then its bytes are others. -/
theorem ways (a b c a' b' c' : Int) : (errW (ansB a b c) != 0) = true ∨ ((errW (ansB a b c) != 0) = false ∧ (errW (ansB a' b' c') != 0) = true) ∨ ((errW (ansB a b c) != 0) = false ∧ (errW (ansB a' b' c') != 0) = false ∧ (a = a' ∧ b = b' ∧ c = c')) ∨ ((errW (ansB a b c) != 0) = false ∧ (errW (ansB a' b' c') != 0) = false ∧ ((ansS a b c).toList == (ansS a' b' c').toList) = false ∧ (¬ a = a' ∨ (a = a' ∧ ¬ b = b') ∨ (a = a' ∧ b = b' ∧ ¬ c = c'))) := by
  cases k1 : ansB a b c with
  | false => exact .inl rfl
  | true =>
    cases k2 : ansB a' b' c' with
    | false => exact .inr (.inl ⟨rfl, rfl⟩)
    | true =>
      by_cases h : a = a' ∧ b = b' ∧ c = c'
      · exact .inr (.inr (.inl ⟨rfl, rfl, h⟩))
      · refine .inr (.inr (.inr ⟨rfl, rfl, text_ne (fun e => h (ans_inj k1 k2 e)), ?_⟩))
        omega
set_option maxRecDepth 100000 in
set_option maxHeartbeats 4000000 in
theorem walk (a0_0 : Int) (a0_1 : Int) (a0_2 : Int) (a1_0 : Int) (a1_1 : Int) (a1_2 : Int) (a2 : ByteArray) (w0_0 : (Lit.int .i64 a0_0).wf = true) (w0_1 : (Lit.int .i64 a0_1).wf = true) (w0_2 : (Lit.int .i64 a0_2).wf = true) (w1_0 : (Lit.int .i64 a1_0).wf = true) (w1_1 : (Lit.int .i64 a1_1).wf = true) (w1_2 : (Lit.int .i64 a1_2).wf = true) (w2 : a2.size ≤ maxLen) (w : World) :
    Calls Try.prog 3 #[.agg #[.int .i64 a0_0, .int .i64 a0_1, .int .i64 a0_2], .agg #[.int .i64 a1_0, .int .i64 a1_1, .int .i64 a1_2], .string a2] w fun e w' => e = .returned (.bool true) ∧ Below w.heap.size w w' := by
  obtain ⟨hB, hX, hY⟩ := two_box w (.int .i64 a0_0) (.int .i64 a0_1) (.int .i64 a0_2) (.int .i64 a1_0) (.int .i64 a1_1) (.int .i64 a1_2) 23
  have hw := ways a0_0 a0_1 a0_2 a1_0 a1_1 a1_2
  have c1 := fun w => aput_any a0_0 a0_1 a0_2 w
  have c2 := fun w => refPut_any a0_0 a0_1 a0_2 w
  have c3 := fun w => aget_any a2 w
  have c4 := fun w => refGet_any a2 w
  have c5 := fun w => aput_any a1_0 a1_1 a1_2 w
  have c6 := fun w => amay_any a0_0 a0_1 a0_2 w
  have c7 := fun w => refMay_any a0_0 a0_1 a0_2 w
  generalize aSt a2 = C at *
  generalize aTi a2 = V at *
  generalize aSa a2 = L at *
  generalize errW (isAns a2) = F at *
  generalize errW (ansB a0_0 a0_1 a0_2) = E at *
  generalize errW (ansB a1_0 a1_1 a1_2) = E' at *
  generalize ansB a0_0 a0_1 a0_2 = M at *
  have hw' : (E != 0) = true ∨ ((E != 0) = false ∧ (E' != 0) = true) ∨ (∃ q : (((ansS a0_0 a0_1 a0_2).toList == (ansS a1_0 a1_1 a1_2).toList) = true), (E != 0) = false ∧ (E' != 0) = false ∧ (a0_0 = a1_0 ∧ a0_1 = a1_1 ∧ a0_2 = a1_2)) ∨ ((E != 0) = false ∧ (E' != 0) = false ∧ ((ansS a0_0 a0_1 a0_2).toList == (ansS a1_0 a1_1 a1_2).toList) = false ∧ (¬ a0_0 = a1_0 ∨ (a0_0 = a1_0 ∧ ¬ a0_1 = a1_1) ∨ (a0_0 = a1_0 ∧ a0_1 = a1_1 ∧ ¬ a0_2 = a1_2))) := by
    rcases hw with h | h | ⟨h1, h2, rfl, rfl, rfl⟩ | h
    · exact .inl h
    · exact .inr (.inl h)
    · exact .inr (.inr (.inl ⟨beq_self_eq_true _, h1, h2, rfl, rfl, rfl⟩))
    · exact .inr (.inr (.inr h))
  clear hw
  generalize ansS a0_0 a0_1 a0_2 = S at *
  generalize ansS a1_0 a1_1 a1_2 = T at *
  have HW := hide hw'
  have C1 := hide c1
  have C2 := hide c2
  have C3 := hide c3
  have C4 := hide c4
  have C5 := hide c5
  have C6 := hide c6
  have C7 := hide c7
  clear c1 c2 c3 c4 c5 c6 c7 hw'
  go_enter Try.func3, Try.ntmps3
  go_wp2_with (first | (go_at_call 7; refine (C1.out _).mono ?_; rintro e w' ⟨rfl, hb⟩; replace hB := thenB hB hb; replace hX := boxB hX hb; replace hY := boxB hY hb; clear hb) | (go_at_call 8; refine (C2.out _).mono ?_; rintro e w' ⟨rfl, hb⟩; replace hB := thenB hB hb; replace hX := boxB hX hb; replace hY := boxB hY hb; clear hb))
  refine (C3.out _).mono ?_; rintro e w5 ⟨rfl, hb⟩; replace hB := thenB hB hb; replace hX := boxB hX hb; replace hY := boxB hY hb; clear hb
  have hZ := boxM w5 (.int .i64 C) (.int .i64 V) (.int .i64 L) 23
  replace hX := boxB hX (hal w5 (.cells #[.int .i64 C, .int .i64 V, .int .i64 L] 23))
  replace hY := boxB hY (hal w5 (.cells #[.int .i64 C, .int .i64 V, .int .i64 L] 23))
  replace hB := hB.alloc hB.size (.cells #[.int .i64 C, .int .i64 V, .int .i64 L] 23)
  go_wp2_with fail
  generalize w5.alloc (.cells #[.int .i64 C, .int .i64 V, .int .i64 L] 23) = W5 at *
  generalize w5.heap.size = G5 at *
  refine (C4.out _).mono ?_; rintro e w6 ⟨rfl, hb⟩; replace hB := thenB hB hb; replace hX := boxB hX hb; replace hY := boxB hY hb; replace hZ := boxB hZ hb; clear hb
  have hU := boxM w6 (.int .i64 C) (.int .i64 V) (.int .i64 L) 23
  replace hX := boxB hX (hal w6 (.cells #[.int .i64 C, .int .i64 V, .int .i64 L] 23))
  replace hY := boxB hY (hal w6 (.cells #[.int .i64 C, .int .i64 V, .int .i64 L] 23))
  replace hZ := boxB hZ (hal w6 (.cells #[.int .i64 C, .int .i64 V, .int .i64 L] 23))
  replace hB := hB.alloc hB.size (.cells #[.int .i64 C, .int .i64 V, .int .i64 L] 23)
  go_wp2_with fail
  generalize w6.alloc (.cells #[.int .i64 C, .int .i64 V, .int .i64 L] 23) = W6 at *
  generalize w6.heap.size = G6 at *
  refine (C5.out _).mono ?_; rintro e w7 ⟨rfl, hb⟩; replace hB := thenB hB hb; replace hX := boxB hX hb; replace hY := boxB hY hb; replace hZ := boxB hZ hb; replace hU := boxB hU hb; clear hb
  have f1 : (M == M) = true := beq_self_eq_true _
  have f2 : (E == E) = true := beq_self_eq_true _
  have f3 : (F == F) = true := beq_self_eq_true _
  go_wp2_with fail
  go_region_held3 (fun W => (W.cell? ⟨w.heap.size, 0, none⟩ = some (.int .i64 a0_0) ∧ W.cell? ⟨w.heap.size, 1, none⟩ = some (.int .i64 a0_1) ∧ W.cell? ⟨w.heap.size, 2, none⟩ = some (.int .i64 a0_2)) ∧ (W.cell? ⟨G5, 0, none⟩ = some (.int .i64 C) ∧ W.cell? ⟨G5, 1, none⟩ = some (.int .i64 V) ∧ W.cell? ⟨G5, 2, none⟩ = some (.int .i64 L)) ∧ W.cell? ⟨G6, 0, none⟩ = some (.int .i64 C) ∧ W.cell? ⟨G6, 1, none⟩ = some (.int .i64 V) ∧ W.cell? ⟨G6, 2, none⟩ = some (.int .i64 L)) (go_keep) (first | (go_at_call 11; refine (num_any _ _).mono ?_; rintro e w' ⟨rfl, rfl⟩) | (go_at_call 12; refine (C6.out _).mono ?_; rintro e w' ⟨rfl, hb⟩; replace hB := thenD hb hB rfl rfl rfl rfl; replace hX := boxD hb hX; replace hY := boxD hb hY; replace hZ := boxD hb hZ; replace hU := boxD hb hU; clear hb) | (go_at_call 13; refine (C7.out _).mono ?_; rintro e w' ⟨rfl, hb⟩; replace hB := thenD hb hB rfl rfl rfl rfl; replace hX := boxD hb hX; replace hY := boxD hb hY; replace hZ := boxD hb hZ; replace hU := boxD hb hU; clear hb))
  all_goals
    clear hZ hU
    rcases HW.out with k | ⟨k, k2⟩ | ⟨q, k, k2, rfl, rfl, rfl⟩ | ⟨k, k2, q, k3 | ⟨rfl, k3⟩ | ⟨rfl, rfl, k3⟩⟩
    all_goals
      clear HW C1 C2 C3 C4 C5 C6 C7
      go_wp2_with (first | (go_at_call 11; refine (num_any _ _).mono ?_; rintro e w' ⟨rfl, rfl⟩) | (go_at_call 14; refine (awake_any _).mono ?_; rintro e w' ⟨rfl, hb⟩; replace hB := thenB hB hb; clear hb))
      go_ret
      exact ⟨rfl, hB⟩

set_option maxRecDepth 100000 in
theorem lifted (os : Os) (started : os.Started) (H : Type) (enc : TypeId × Value → H) :
    ReturnsInHanded {} Try.checked os 3 .any (Rows.answersSpec.pre6 enc Try.prog Try.f3 Rows.answersRow.domain false) (Rows.answersSpec.post enc Try.prog Try.f3 false true false false) := by
  refine returnsInHanded_of_change (C := Try.checked) own started (by kernel_rfl) Try.func3
    (ChangeSpec.witness6 (enc := enc) (C := Try.checked) false ⟨#[], #[.agg #[.int .i64 0, .int .i64 0, .int .i64 0], .agg #[.int .i64 0, .int .i64 0, .int .i64 0], .string ByteArray.empty], []⟩ 8 (by kernel_rfl) (by kernel_rfl) (by kernel_rfl) (by kernel_rfl)) ?_
  intro W base args ds gs before hval0 hW hcnd _
  have hval : ∀ (j : Nat) t v, Try.f3.params[j]? = some t → args[j]? = some v → Value.okWide Try.prog W .any base t v := hval0
  have hW' := hW
  obtain ⟨p, q, hA0, hV, rfl, hfz, hnd⟩ := hW
  have hA : DataW.TrodAll enc Try.prog W 0 (fun _ => true) true Try.f3.params.toList args.toList ds p := hA0
  rw [Try.params3] at hA hval
  obtain ⟨v0, vs0, d0, ds0, p0, q0, hargs, rfl, rfl, h0, r0⟩ := trodAll_cons hA
  obtain ⟨v1, vs1, d1, ds1, p1, q1, rfl, rfl, rfl, h1, r1⟩ := trodAll_cons r0
  obtain ⟨v2, vs2, d2, ds2, p2, q2, rfl, rfl, rfl, h2, r2⟩ := trodAll_cons r1
  obtain ⟨rfl, rfl, rfl⟩ := trodAll_nil r2
  obtain rfl : args = #[v0, v1, v2] := by cases args; simp_all
  obtain ⟨rfl, rfl⟩ := trodVars_none hV
  have k0 := h0
  have lt0 : ∀ x ∈ p0, x.block < W.heap.size := by obtain ⟨m, hm⟩ := k0; exact DataW.trod_lt m _ _ _ hm
  obtain ⟨a0_0, a0_1, a0_2, rfl, w0_0, w0_1, w0_2⟩ := open23 (hval 0 23 v0 rfl rfl) h0
  have k1 := h1
  have lt1 : ∀ x ∈ p1, x.block < W.heap.size := by obtain ⟨m, hm⟩ := k1; exact DataW.trod_lt m _ _ _ hm
  obtain ⟨a1_0, a1_1, a1_2, rfl, w1_0, w1_1, w1_2⟩ := open23 (hval 1 23 v1 rfl rfl) h1
  obtain ⟨a2, rfl, rfl, rfl, w2⟩ := open_string Try.underlying9 (hval 2 9 v2 rfl rfl) h2
  clear hA0 hval0
  refine (walk a0_0 a0_1 a0_2 a1_0 a1_1 a1_2 a2 w0_0 w0_1 w0_2 w1_0 w1_1 w1_2 w2 W).mono fun e W' ⟨he, bel⟩ => ?_
  subst he
  exact ⟨_, rfl, _, _, _, [], _, [], hW', (trodAll_cons_mk (shut_bool Try.underlying4 _) trodAll_mk0), (trodAll_cons_mk (Below.trod laidOut (by kernel_rfl) (of_decide_eq_true (by kernel_rfl)) k0 bel lt0) (trodAll_cons_mk (Below.trod laidOut (by kernel_rfl) (of_decide_eq_true (by kernel_rfl)) k1 bel lt1) (trodAll_cons_mk (shut_string Try.underlying9 w2) trodAll_mk0))), rfl, bel.frame _, fun h => by cases h⟩

theorem over : Rows.answersRow.holds Try.pinned (OpenSpec.ofChange Rows.answersSpec) :=
  OpenClaim.holds_of_wide 3 Try.f3 rfl rfl rfl rfl rfl rfl rfl ⟨rfl, rfl, rfl, rfl, rfl⟩ rfl rfl rfl rfl rfl (by kernel_rfl) Try.func3 (by kernel_rfl)
    (of_decide_eq_true (by kernel_rfl)) (by unfold Func.isWrapper; first | (rw [if_pos (by decide +kernel)]; kernel_rfl) | (rw [if_neg (by decide +kernel)]; exact ⟨rfl, rfl⟩))
    (fun os started H enc _ => lifted os started H enc)

theorem proved : Rows.AnswersSaid :=
  over
#print axioms proved
end Go.Proofs.Ytddelbjnnkhgbaa.answers
