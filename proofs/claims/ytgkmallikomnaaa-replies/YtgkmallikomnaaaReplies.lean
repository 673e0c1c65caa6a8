/- Whatever the host and the reply: the law Replies returns true (each Take answers as the document's own), and the arguments read as they did; no condition. -/
import Derived.Test.YtgkmallikomnaaaRows
import Derived.Test.YtgkmallikomnaaaBagNor
import Derived.Test.YtgkmallikomnaaaBagOps
import Derived.Test.YtgkmallikomnaaaBagDev
import Derived.Test.YtgkmallikomnaaaBagSuf
import Derived.Test.YtgkmallikomnaaaBagHst
import Derived.Test.YtgkmallikomnaaaRepMath
import Derived.Test.YtgkmallikomnaaaRepRef
import Derived.Test.YtgkmallikomnaaaRepTake
import Derived.Test.YtgkmallikomnaaaRepWalk
import Derived.Test.YtgkmallikomnaaaRepAwake
import Derived.Laws.StructEq
import Derived.Deep.Cut
import Derived.WalkKit
import Derived.ProofKit
import Derived.OpenShut
import Derived.ShutString
import Derived.ChangeOld
import Derived.Below
import Derived.SizedLaws
namespace Go.Proofs.Ytgkmallikomnaaa.replies
open Go.ChangeShapes Go.WideShapes Go.ChangeAt Go.RowKit
open Go.ChangeMaps (open_string shut_string)
set_option linter.unusedVariables false

open Go.Proofs.Ytgkmallikomnaaa.Bytes
open Go.Proofs.Ytgkmallikomnaaa.Hst
open Go.Proofs.Ytgkmallikomnaaa.HstWalk
open Go.Proofs.Ytgkmallikomnaaa.HstAsk
open Go.Proofs.Ytgkmallikomnaaa.Rep
open Go.Proofs.Ytgkmallikomnaaa.RepTake
open Go.Proofs.Ytgkmallikomnaaa.RepWalk
open Go.Proofs.Ytgkmallikomnaaa.RepAwake
theorem own : ownKnob Try.prog.godebug = none := by kernel_rfl
theorem laidOut : laidOutB Try.prog = true := by kernel_rfl
theorem field_of {H : Type} {enc : TypeId × Value → H} {P : Program} {w : World} {base : Nat} {spare : Nat → Bool} {held : Bool} {t : TypeId} {fs : Array Field} {fuel : Nat} {cs : List Value} {x : DataW H × List MemPlace} (ht : P.underlying t = some (.struct fs)) (h : DataW.trod enc P w base spare held fuel t cs = some x) (i : Nat) (f : Field) (hf : fs[i]? = some f) :
    ∃ n y, DataW.trod enc P w base spare held n f.type ((cs.drop f.offset).take (P.cellsOf f.type)) = some y := by
  obtain ⟨xs, n, _, _, _, hlen, hq⟩ := DataW.trod_struct ht h
  have hi : i < xs.length := by
    rw [hlen]
    rcases Nat.lt_or_ge i fs.size with h1 | h1
    · exact h1
    · rw [Array.getElem?_eq_none h1] at hf; cases hf
  exact ⟨n, xs[i], by rw [hq i f hf, List.getElem?_eq_getElem hi]⟩
theorem list23 {l : List Value} (h : l.length = 7) : ∃ c0 c1 c2 c3 c4 c5 c6, l = [c0, c1, c2, c3, c4, c5, c6] := by
  match l, h with
  | [c0, c1, c2, c3, c4, c5, c6], _ => exact ⟨c0, c1, c2, c3, c4, c5, c6, rfl⟩
set_option maxRecDepth 100000 in
theorem open23 {H : Type} {enc : TypeId × Value → H} {w : World} {base : Nat} {spare : Nat → Bool} {held : Bool} {r : Reach} {b0 : Nat} {v : Value} {d : DataW H} {p : List MemPlace} (hv : Value.okWide Try.prog w r b0 23 v) (h : DataW.Trod enc Try.prog w base spare held 23 v d p) (hlt : ∀ x ∈ p, x.block < w.heap.size) (hsz : (d.weights Try.prog 23).all (· ≤ reachBytes) = true) :
    ∃ (x0 : Int) (x1 : ByteArray) (x2 : Int) (x3 : Bool) (x4 : Int) (x5 : ByteArray) (x6 : Int), v = .agg #[.int .i64 x0, .string x1, .int .i64 x2, .bool x3, .int .i64 x4, .string x5, .int .i64 x6] ∧ (Lit.int .i64 x0).wf = true ∧ x1.size ≤ maxLen ∧ x1.size ≤ 140737488351232 ∧ (Lit.int .i64 x2).wf = true ∧ (Lit.int .i64 x4).wf = true ∧ x5.size ≤ maxLen ∧ x5.size ≤ 140737488351232 ∧ (Lit.int .i64 x6).wf = true := by
  obtain ⟨cs, rfl, hsz0⟩ := okWide_struct Try.underlying23 hv
  have hc : Try.prog.cellsOf 23 = 7 := by kernel_rfl
  rw [hc] at hsz0
  obtain ⟨l⟩ := cs
  obtain ⟨c0, c1, c2, c3, c4, c5, c6, rfl⟩ := list23 (l := l) (by simpa using hsz0)
  obtain ⟨fuel, hf⟩ := h
  have k0 : Try.prog.cellsOf 3 = 1 := by kernel_rfl
  obtain ⟨n0, y0, h0, L0, Z0⟩ := Go.Proofs.Ytgkmallikomnaaa.DevRow.field_of2 Try.underlying23 hf hlt hsz 0 _ rfl
  have g0 : DataW.trod enc Try.prog w base spare held n0 3 [c0] = some y0 := by simpa [Value.cells, k0] using h0
  obtain ⟨x0, e0, _, w0⟩ := DataW.trod_int Try.underlying3 g0
  obtain rfl := (List.cons.inj e0).1
  have k1 : Try.prog.cellsOf 9 = 1 := by kernel_rfl
  obtain ⟨n1, y1, h1, L1, Z1⟩ := Go.Proofs.Ytgkmallikomnaaa.DevRow.field_of2 Try.underlying23 hf hlt hsz 1 _ rfl
  have g1 : DataW.trod enc Try.prog w base spare held n1 9 [c1] = some y1 := by simpa [Value.cells, k1] using h1
  obtain ⟨x1, e1, r1, w1⟩ := DataW.trod_string Try.underlying9 g1
  have z1 : x1.size ≤ 140737488351232 := by
    have := of_decide_eq_true (List.all_eq_true.1 Z1 x1.data.toList.length (by rw [r1]; simp [DataW.weights]))
    simpa [reachBytes] using this
  obtain rfl := (List.cons.inj e1).1
  have k2 : Try.prog.cellsOf 3 = 1 := by kernel_rfl
  obtain ⟨n2, y2, h2, L2, Z2⟩ := Go.Proofs.Ytgkmallikomnaaa.DevRow.field_of2 Try.underlying23 hf hlt hsz 2 _ rfl
  have g2 : DataW.trod enc Try.prog w base spare held n2 3 [c2] = some y2 := by simpa [Value.cells, k2] using h2
  obtain ⟨x2, e2, _, w2⟩ := DataW.trod_int Try.underlying3 g2
  obtain rfl := (List.cons.inj e2).1
  have k3 : Try.prog.cellsOf 4 = 1 := by kernel_rfl
  obtain ⟨n3, y3, h3, L3, Z3⟩ := Go.Proofs.Ytgkmallikomnaaa.DevRow.field_of2 Try.underlying23 hf hlt hsz 3 _ rfl
  have g3 : DataW.trod enc Try.prog w base spare held n3 4 [c3] = some y3 := by simpa [Value.cells, k3] using h3
  obtain ⟨x3, e3, _⟩ := DataW.trod_bool Try.underlying4 g3
  obtain rfl := (List.cons.inj e3).1
  have k4 : Try.prog.cellsOf 3 = 1 := by kernel_rfl
  obtain ⟨n4, y4, h4, L4, Z4⟩ := Go.Proofs.Ytgkmallikomnaaa.DevRow.field_of2 Try.underlying23 hf hlt hsz 4 _ rfl
  have g4 : DataW.trod enc Try.prog w base spare held n4 3 [c4] = some y4 := by simpa [Value.cells, k4] using h4
  obtain ⟨x4, e4, _, w4⟩ := DataW.trod_int Try.underlying3 g4
  obtain rfl := (List.cons.inj e4).1
  have k5 : Try.prog.cellsOf 9 = 1 := by kernel_rfl
  obtain ⟨n5, y5, h5, L5, Z5⟩ := Go.Proofs.Ytgkmallikomnaaa.DevRow.field_of2 Try.underlying23 hf hlt hsz 5 _ rfl
  have g5 : DataW.trod enc Try.prog w base spare held n5 9 [c5] = some y5 := by simpa [Value.cells, k5] using h5
  obtain ⟨x5, e5, r5, w5⟩ := DataW.trod_string Try.underlying9 g5
  have z5 : x5.size ≤ 140737488351232 := by
    have := of_decide_eq_true (List.all_eq_true.1 Z5 x5.data.toList.length (by rw [r5]; simp [DataW.weights]))
    simpa [reachBytes] using this
  obtain rfl := (List.cons.inj e5).1
  have k6 : Try.prog.cellsOf 3 = 1 := by kernel_rfl
  obtain ⟨n6, y6, h6, L6, Z6⟩ := Go.Proofs.Ytgkmallikomnaaa.DevRow.field_of2 Try.underlying23 hf hlt hsz 6 _ rfl
  have g6 : DataW.trod enc Try.prog w base spare held n6 3 [c6] = some y6 := by simpa [Value.cells, k6] using h6
  obtain ⟨x6, e6, _, w6⟩ := DataW.trod_int Try.underlying3 g6
  obtain rfl := (List.cons.inj e6).1
  exact ⟨x0, x1, x2, x3, x4, x5, x6, rfl, w0, w1, z1, w2, w4, w5, z5, w6⟩
theorem list25 {l : List Value} (h : l.length = 3) : ∃ c0 c1 c2, l = [c0, c1, c2] := by
  match l, h with
  | [c0, c1, c2], _ => exact ⟨c0, c1, c2, rfl⟩
set_option maxRecDepth 100000 in
theorem open25 {H : Type} {enc : TypeId × Value → H} {w : World} {base : Nat} {spare : Nat → Bool} {held : Bool} {r : Reach} {b0 : Nat} {v : Value} {d : DataW H} {p : List MemPlace} (hv : Value.okWide Try.prog w r b0 25 v) (h : DataW.Trod enc Try.prog w base spare held 25 v d p) (hlt : ∀ x ∈ p, x.block < w.heap.size) (hsz : (d.weights Try.prog 25).all (· ≤ reachBytes) = true) :
    ∃ (x0 : Bool) (x1 : Bool) (x2 : ByteArray), v = .agg #[.bool x0, .bool x1, .string x2] ∧ x2.size ≤ maxLen ∧ x2.size ≤ 140737488351232 := by
  obtain ⟨cs, rfl, hsz0⟩ := okWide_struct Try.underlying25 hv
  have hc : Try.prog.cellsOf 25 = 3 := by kernel_rfl
  rw [hc] at hsz0
  obtain ⟨l⟩ := cs
  obtain ⟨c0, c1, c2, rfl⟩ := list25 (l := l) (by simpa using hsz0)
  obtain ⟨fuel, hf⟩ := h
  have k0 : Try.prog.cellsOf 4 = 1 := by kernel_rfl
  obtain ⟨n0, y0, h0, L0, Z0⟩ := Go.Proofs.Ytgkmallikomnaaa.DevRow.field_of2 Try.underlying25 hf hlt hsz 0 _ rfl
  have g0 : DataW.trod enc Try.prog w base spare held n0 4 [c0] = some y0 := by simpa [Value.cells, k0] using h0
  obtain ⟨x0, e0, _⟩ := DataW.trod_bool Try.underlying4 g0
  obtain rfl := (List.cons.inj e0).1
  have k1 : Try.prog.cellsOf 4 = 1 := by kernel_rfl
  obtain ⟨n1, y1, h1, L1, Z1⟩ := Go.Proofs.Ytgkmallikomnaaa.DevRow.field_of2 Try.underlying25 hf hlt hsz 1 _ rfl
  have g1 : DataW.trod enc Try.prog w base spare held n1 4 [c1] = some y1 := by simpa [Value.cells, k1] using h1
  obtain ⟨x1, e1, _⟩ := DataW.trod_bool Try.underlying4 g1
  obtain rfl := (List.cons.inj e1).1
  have k2 : Try.prog.cellsOf 9 = 1 := by kernel_rfl
  obtain ⟨n2, y2, h2, L2, Z2⟩ := Go.Proofs.Ytgkmallikomnaaa.DevRow.field_of2 Try.underlying25 hf hlt hsz 2 _ rfl
  have g2 : DataW.trod enc Try.prog w base spare held n2 9 [c2] = some y2 := by simpa [Value.cells, k2] using h2
  obtain ⟨x2, e2, r2, w2⟩ := DataW.trod_string Try.underlying9 g2
  have z2 : x2.size ≤ 140737488351232 := by
    have := of_decide_eq_true (List.all_eq_true.1 Z2 x2.data.toList.length (by rw [r2]; simp [DataW.weights]))
    simpa [reachBytes] using this
  obtain rfl := (List.cons.inj e2).1
  exact ⟨x0, x1, x2, rfl, w2, z2⟩

open Go.Proofs.Ytgkmallikomnaaa.OpsRow (boxM boxB)
open Go.Proofs.Ytgkmallikomnaaa.IdtWalk (num_any)
/-- The boxes of what comes in: a host, a reply. -/
theorem in_boxes (w : World) (x0 x1 x2 x3 x4 x5 x6 v p r : Value) : ∃ W, (w.alloc (.cells #[x0, x1, x2, x3, x4, x5, x6] 23)).alloc (.cells #[v, p, r] 25) = W ∧ Sev W w.heap.size x0 x1 x2 x3 x4 x5 x6 ∧ (w.heap.size + 1 < W.heap.size ∧ W.cell? ⟨w.heap.size + 1, 0, none⟩ = some v ∧ W.cell? ⟨w.heap.size + 1, 1, none⟩ = some p ∧ W.cell? ⟨w.heap.size + 1, 2, none⟩ = some r) ∧ Below w.heap.size w W := by
  refine ⟨_, rfl, ?_⟩
  have h1 := sevM w x0 x1 x2 x3 x4 x5 x6 23
  have n1 := hal w (.cells #[x0, x1, x2, x3, x4, x5, x6] 23)
  have s1 : (w.alloc (.cells #[x0, x1, x2, x3, x4, x5, x6] 23)).heap.size = w.heap.size + 1 := by simp
  generalize w.alloc (.cells #[x0, x1, x2, x3, x4, x5, x6] 23) = W1 at *
  have h2 := boxM W1 v p r 25
  have n2 := hal W1 (.cells #[v, p, r] 25)
  rw [s1] at h2
  exact ⟨sevB h1 n2, h2, thenB n1 n2⟩
set_option maxRecDepth 100000 in
set_option maxHeartbeats 4000000 in
theorem walk (a0_0 : Int) (a0_1 : ByteArray) (a0_2 : Int) (a0_3 : Bool) (a0_4 : Int) (a0_5 : ByteArray) (a0_6 : Int) (a1_0 : Bool) (a1_1 : Bool) (a1_2 : ByteArray) (w : World) (w0_0 : (Lit.int .i64 a0_0).wf = true) (w0_1 : a0_1.size ≤ maxLen) (z0_1 : a0_1.size ≤ 140737488351232) (w0_2 : (Lit.int .i64 a0_2).wf = true) (w0_4 : (Lit.int .i64 a0_4).wf = true) (w0_5 : a0_5.size ≤ maxLen) (z0_5 : a0_5.size ≤ 140737488351232) (w0_6 : (Lit.int .i64 a0_6).wf = true) (w1_2 : a1_2.size ≤ maxLen) (z1_2 : a1_2.size ≤ 140737488351232) :
    Calls Try.prog 3 #[.agg #[.int .i64 a0_0, .string a0_1, .int .i64 a0_2, .bool a0_3, .int .i64 a0_4, .string a0_5, .int .i64 a0_6], .agg #[.bool a1_0, .bool a1_1, .string a1_2]] w fun e w' => e = .returned (.bool true) ∧ Below w.heap.size w w' := by
  obtain ⟨W, hW, hX, hY, hB⟩ := in_boxes w (.int .i64 a0_0) (.string a0_1) (.int .i64 a0_2) (.bool a0_3) (.int .i64 a0_4) (.string a0_5) (.int .i64 a0_6) (.bool a1_0) (.bool a1_1) (.string a1_2)
  have m1 : a1_2.size ≤ 140737488355328 := by omega
  have CA := hide (fun w => take_any ⟨a0_0, a0_1, a0_2, a0_3, a0_4, a0_5, a0_6⟩ a1_0 a1_1 a1_2 w m1)
  have CB := hide (fun w => refTake_any ⟨a0_0, a0_1, a0_2, a0_3, a0_4, a0_5, a0_6⟩ a1_0 a1_1 a1_2 w m1)
  have CW := hide (fun w => awake_any w)
  unfold Taken at CA CB
  clear m1
  generalize takeH ⟨a0_0, a0_1, a0_2, a0_3, a0_4, a0_5, a0_6⟩ a1_0 a1_1 a1_2 = X at *
  generalize errR (okH ⟨a0_0, a0_1, a0_2, a0_3, a0_4, a0_5, a0_6⟩) = E at *
  obtain ⟨y0, y1, y2, y3, y4, y5, y6⟩ := X
  dsimp only at *
  subst hW
  go_enter Try.func3, Try.ntmps3
  go_upto_region 1 with fail
  generalize (w.alloc _).alloc _ = W at *
  go_upto_region 2 with (go_at_call 9; refine (CA.out _).mono ?_; rintro e w1 ⟨rfl, hb⟩; replace hB := thenB hB hb; replace hX := sevB hX hb; replace hY := boxB hY hb; clear hb)
  have hU := sevM w1 (.int .i64 y0) (.string y1) (.int .i64 y2) (.bool y3) (.int .i64 y4) (.string y5) (.int .i64 y6) 23
  have hn := hal w1 (.cells #[.int .i64 y0, .string y1, .int .i64 y2, .bool y3, .int .i64 y4, .string y5, .int .i64 y6] 23)
  replace hB := thenB hB hn
  replace hX := sevB hX hn
  replace hY := boxB hY hn
  clear hn
  generalize w1.alloc _ = W1 at *
  generalize w1.heap.size = G1 at *
  go_upto_region 3 with (go_at_call 10; refine (CB.out _).mono ?_; rintro e w2 ⟨rfl, hb⟩; replace hB := thenB hB hb; replace hU := sevB hU hb; clear hb)
  have hV := sevM w2 (.int .i64 y0) (.string y1) (.int .i64 y2) (.bool y3) (.int .i64 y4) (.string y5) (.int .i64 y6) 23
  have hn := hal w2 (.cells #[.int .i64 y0, .string y1, .int .i64 y2, .bool y3, .int .i64 y4, .string y5, .int .i64 y6] 23)
  replace hB := thenB hB hn
  replace hU := sevB hU hn
  clear hn hX hY CA CB
  generalize w2.alloc _ = W2 at *
  generalize w2.heap.size = G2 at *
  go_wp2_with (first | (go_at_call 11; refine (num_any _ _).mono ?_; rintro e w' ⟨rfl, rfl⟩) | (go_at_call 12; refine (CW.out _).mono ?_; rintro e w3 ⟨rfl, hb⟩; replace hB := thenB hB hb; clear hb))
  go_ret
  exact ⟨rfl, hB⟩

set_option maxRecDepth 100000 in
theorem lifted (os : Os) (started : os.Started) (H : Type) (enc : TypeId × Value → H) :
    ReturnsInHanded {} Try.checked os 3 .any (Rows.repliesSpec.pre6 enc Try.prog Try.f3 Rows.repliesRow.domain false) (Rows.repliesSpec.post enc Try.prog Try.f3 false true false false) := by
  refine returnsInHanded_of_change_sized (C := Try.checked) own started (by kernel_rfl) Try.func3
    (ChangeSpec.witness6 (enc := enc) (C := Try.checked) false ⟨#[], #[.agg #[.int .i64 0, .string ByteArray.empty, .int .i64 0, .bool false, .int .i64 0, .string ByteArray.empty, .int .i64 0], .agg #[.bool false, .bool false, .string ByteArray.empty]], []⟩ 8 (by kernel_rfl) (by kernel_rfl) (by kernel_rfl) (by kernel_rfl)) ?_
  intro W base args ds gs before hval0 hW hcnd hsz0 _
  have hval : ∀ (j : Nat) t v, Try.f3.params[j]? = some t → args[j]? = some v → Value.okWide Try.prog W .any base t v := hval0
  have hW' := hW
  obtain ⟨p, q, hA0, hV, rfl, hfz, hnd⟩ := hW
  have hA : DataW.TrodAll enc Try.prog W 0 (fun _ => true) true Try.f3.params.toList args.toList ds p := hA0
  have hsz : (DataW.weightsEach Try.prog (Try.f3.params.toList ++ Rows.repliesSpec.plain.varTypes Try.prog) (ds ++ gs)).all (· ≤ reachBytes) = true := hsz0
  clear hsz0
  rw [Try.params3] at hA hval hsz
  obtain ⟨v0, vs0, d0, ds0, p0, q0, hargs, rfl, rfl, h0, r0⟩ := trodAll_cons hA
  obtain ⟨v1, vs1, d1, ds1, p1, q1, rfl, rfl, rfl, h1, r1⟩ := trodAll_cons r0
  obtain ⟨rfl, rfl, rfl⟩ := trodAll_nil r1
  obtain rfl : args = #[v0, v1] := by cases args; simp_all
  obtain ⟨rfl, rfl⟩ := trodVars_none hV
  have k0 := h0
  have lt0 : ∀ x ∈ p0, x.block < W.heap.size := by obtain ⟨m, hm⟩ := k0; exact DataW.trod_lt m _ _ _ hm
  obtain ⟨a0_0, a0_1, a0_2, a0_3, a0_4, a0_5, a0_6, rfl, w0_0, w0_1, z0_1, w0_2, w0_4, w0_5, z0_5, w0_6⟩ := open23 (hval 0 23 v0 rfl rfl) h0 lt0 (Go.Proofs.Ytgkmallikomnaaa.DevRow.sized_arg hsz (j := 0) rfl rfl)
  have k1 := h1
  have lt1 : ∀ x ∈ p1, x.block < W.heap.size := by obtain ⟨m, hm⟩ := k1; exact DataW.trod_lt m _ _ _ hm
  obtain ⟨a1_0, a1_1, a1_2, rfl, w1_2, z1_2⟩ := open25 (hval 1 25 v1 rfl rfl) h1 lt1 (Go.Proofs.Ytgkmallikomnaaa.DevRow.sized_arg hsz (j := 1) rfl rfl)
  clear hA0 hval0
  refine (walk a0_0 a0_1 a0_2 a0_3 a0_4 a0_5 a0_6 a1_0 a1_1 a1_2 W w0_0 w0_1 z0_1 w0_2 w0_4 w0_5 z0_5 w0_6 w1_2 z1_2).mono fun e W' ⟨he, bel⟩ => ?_
  subst he
  exact ⟨_, rfl, _, _, _, [], _, [], hW', (trodAll_cons_mk (shut_bool Try.underlying4 _) trodAll_mk0), (trodAll_cons_mk (Below.trod laidOut (by kernel_rfl) (of_decide_eq_true (by kernel_rfl)) k0 bel lt0) (trodAll_cons_mk (Below.trod laidOut (by kernel_rfl) (of_decide_eq_true (by kernel_rfl)) k1 bel lt1) trodAll_mk0)), rfl, bel.frame _, fun h => by cases h⟩

theorem over : Rows.repliesRow.holds Try.pinned (OpenSpec.ofChange Rows.repliesSpec) :=
  OpenClaim.holds_of_wide 3 Try.f3 rfl rfl rfl rfl rfl rfl rfl ⟨rfl, rfl, rfl, rfl, rfl⟩ rfl rfl rfl rfl rfl (by kernel_rfl) Try.func3 (by kernel_rfl)
    (of_decide_eq_true (by kernel_rfl)) (by unfold Func.isWrapper; first | (rw [if_pos (by decide +kernel)]; kernel_rfl) | (rw [if_neg (by decide +kernel)]; exact ⟨rfl, rfl⟩))
    (fun os started H enc _ => lifted os started H enc)

theorem proved : Rows.RepliesSaid :=
  over
#print axioms proved
end Go.Proofs.Ytgkmallikomnaaa.replies
