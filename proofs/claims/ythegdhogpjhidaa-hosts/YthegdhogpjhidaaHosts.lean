/- Whatever the host, the file and the numbers of whom it is to be for: the law Hosts returns true (each call of package host answers as the document's own), and the arguments read as they did; no condition. -/
import Derived.Test.YthegdhogpjhidaaRows
import Derived.Test.YthegdhogpjhidaaBagNor
import Derived.Test.YthegdhogpjhidaaBagOps
import Derived.Test.YthegdhogpjhidaaBagSuf
import Derived.Test.YthegdhogpjhidaaBagSet
import Derived.Test.YthegdhogpjhidaaHstMath
import Derived.Test.YthegdhogpjhidaaHstWalk
import Derived.Test.YthegdhogpjhidaaHstAsk
import Derived.Test.YthegdhogpjhidaaHstHost
import Derived.Test.YthegdhogpjhidaaHstRef
import Derived.Test.YthegdhogpjhidaaHstRefs
import Derived.Test.YthegdhogpjhidaaHstAwake
import Derived.Laws.StructEq
import Derived.Deep.Cut
import Derived.Deep.RegionHeld3
import Derived.WalkKit
import Derived.ProofKit
import Derived.OpenShut
import Derived.ShutString
import Derived.ChangeOld
import Derived.Below
namespace Go.Proofs.Ythegdhogpjhidaa.hosts
open Go.ChangeShapes Go.WideShapes Go.ChangeAt Go.RowKit
open Go.ChangeMaps (open_string shut_string)
set_option linter.unusedVariables false

open Go.Proofs.Ythegdhogpjhidaa.Bytes
open Go.Proofs.Ythegdhogpjhidaa.Suf
open Go.Proofs.Ythegdhogpjhidaa.Hst
open Go.Proofs.Ythegdhogpjhidaa.HstWalk
open Go.Proofs.Ythegdhogpjhidaa.HstAsk
open Go.Proofs.Ythegdhogpjhidaa.HstHost
open Go.Proofs.Ythegdhogpjhidaa.HstRef
open Go.Proofs.Ythegdhogpjhidaa.HstRefs
open Go.Proofs.Ythegdhogpjhidaa.HstAwake
theorem own : ownKnob Try.prog.godebug = none := by kernel_rfl
theorem laidOut : laidOutB Try.prog = true := by kernel_rfl
theorem field_of {H : Type} {enc : TypeId × Value → H} {P : Program} {w : World} {base : Nat} {spare : Nat → Bool} {held : Bool} {t : TypeId} {fs : Array Field} {fuel : Nat} {cs : List Value} {x : DataW H × List MemPlace} (ht : P.underlying t = some (.struct fs)) (h : DataW.trod enc P w base spare held fuel t cs = some x) (i : Nat) (f : Field) (hf : fs[i]? = some f) :
    ∃ n y, DataW.trod enc P w base spare held n f.type ((cs.drop f.offset).take (P.cellsOf f.type)) = some y := by
  obtain ⟨xs, n, _, _, _, hlen, hq⟩ := DataW.trod_struct ht h
  have hi : i < xs.length := by
    rw [hlen]
    rcases Nat.lt_or_ge i fs.size with h1 | h1
    · exact h1
    · rw [Array.getElem?_eq_none h1] at hf; cases hf
  exact ⟨n, xs[i], by rw [hq i f hf, List.getElem?_eq_getElem hi]⟩
theorem list23 {l : List Value} (h : l.length = 7) : ∃ c0 c1 c2 c3 c4 c5 c6, l = [c0, c1, c2, c3, c4, c5, c6] := by
  match l, h with
  | [c0, c1, c2, c3, c4, c5, c6], _ => exact ⟨c0, c1, c2, c3, c4, c5, c6, rfl⟩
set_option maxRecDepth 100000 in
theorem open23 {H : Type} {enc : TypeId × Value → H} {w : World} {base : Nat} {spare : Nat → Bool} {held : Bool} {r : Reach} {b0 : Nat} {v : Value} {d : DataW H} {p : List MemPlace} (hv : Value.okWide Try.prog w r b0 23 v) (h : DataW.Trod enc Try.prog w base spare held 23 v d p) :
    ∃ (x0 : Int) (x1 : ByteArray) (x2 : Int) (x3 : Bool) (x4 : Int) (x5 : ByteArray) (x6 : Int), v = .agg #[.int .i64 x0, .string x1, .int .i64 x2, .bool x3, .int .i64 x4, .string x5, .int .i64 x6] ∧ (Lit.int .i64 x0).wf = true ∧ x1.size ≤ maxLen ∧ (Lit.int .i64 x2).wf = true ∧ (Lit.int .i64 x4).wf = true ∧ x5.size ≤ maxLen ∧ (Lit.int .i64 x6).wf = true := by
  obtain ⟨cs, rfl, hsz0⟩ := okWide_struct Try.underlying23 hv
  have hc : Try.prog.cellsOf 23 = 7 := by kernel_rfl
  rw [hc] at hsz0
  obtain ⟨l⟩ := cs
  obtain ⟨c0, c1, c2, c3, c4, c5, c6, rfl⟩ := list23 (l := l) (by simpa using hsz0)
  obtain ⟨fuel, hf⟩ := h
  have k0 : Try.prog.cellsOf 3 = 1 := by kernel_rfl
  obtain ⟨n0, y0, h0⟩ := field_of Try.underlying23 hf 0 _ rfl
  have g0 : DataW.trod enc Try.prog w base spare held n0 3 [c0] = some y0 := by simpa [Value.cells, k0] using h0
  obtain ⟨x0, e0, _, w0⟩ := DataW.trod_int Try.underlying3 g0
  obtain rfl := (List.cons.inj e0).1
  have k1 : Try.prog.cellsOf 9 = 1 := by kernel_rfl
  obtain ⟨n1, y1, h1⟩ := field_of Try.underlying23 hf 1 _ rfl
  have g1 : DataW.trod enc Try.prog w base spare held n1 9 [c1] = some y1 := by simpa [Value.cells, k1] using h1
  obtain ⟨x1, e1, _, w1⟩ := DataW.trod_string Try.underlying9 g1
  obtain rfl := (List.cons.inj e1).1
  have k2 : Try.prog.cellsOf 3 = 1 := by kernel_rfl
  obtain ⟨n2, y2, h2⟩ := field_of Try.underlying23 hf 2 _ rfl
  have g2 : DataW.trod enc Try.prog w base spare held n2 3 [c2] = some y2 := by simpa [Value.cells, k2] using h2
  obtain ⟨x2, e2, _, w2⟩ := DataW.trod_int Try.underlying3 g2
  obtain rfl := (List.cons.inj e2).1
  have k3 : Try.prog.cellsOf 4 = 1 := by kernel_rfl
  obtain ⟨n3, y3, h3⟩ := field_of Try.underlying23 hf 3 _ rfl
  have g3 : DataW.trod enc Try.prog w base spare held n3 4 [c3] = some y3 := by simpa [Value.cells, k3] using h3
  obtain ⟨x3, e3, _⟩ := DataW.trod_bool Try.underlying4 g3
  obtain rfl := (List.cons.inj e3).1
  have k4 : Try.prog.cellsOf 3 = 1 := by kernel_rfl
  obtain ⟨n4, y4, h4⟩ := field_of Try.underlying23 hf 4 _ rfl
  have g4 : DataW.trod enc Try.prog w base spare held n4 3 [c4] = some y4 := by simpa [Value.cells, k4] using h4
  obtain ⟨x4, e4, _, w4⟩ := DataW.trod_int Try.underlying3 g4
  obtain rfl := (List.cons.inj e4).1
  have k5 : Try.prog.cellsOf 9 = 1 := by kernel_rfl
  obtain ⟨n5, y5, h5⟩ := field_of Try.underlying23 hf 5 _ rfl
  have g5 : DataW.trod enc Try.prog w base spare held n5 9 [c5] = some y5 := by simpa [Value.cells, k5] using h5
  obtain ⟨x5, e5, _, w5⟩ := DataW.trod_string Try.underlying9 g5
  obtain rfl := (List.cons.inj e5).1
  have k6 : Try.prog.cellsOf 3 = 1 := by kernel_rfl
  obtain ⟨n6, y6, h6⟩ := field_of Try.underlying23 hf 6 _ rfl
  have g6 : DataW.trod enc Try.prog w base spare held n6 3 [c6] = some y6 := by simpa [Value.cells, k6] using h6
  obtain ⟨x6, e6, _, w6⟩ := DataW.trod_int Try.underlying3 g6
  obtain rfl := (List.cons.inj e6).1
  exact ⟨x0, x1, x2, x3, x4, x5, x6, rfl, w0, w1, w2, w4, w5, w6⟩
theorem list25 {l : List Value} (h : l.length = 3) : ∃ c0 c1 c2, l = [c0, c1, c2] := by
  match l, h with
  | [c0, c1, c2], _ => exact ⟨c0, c1, c2, rfl⟩
set_option maxRecDepth 100000 in
theorem open25 {H : Type} {enc : TypeId × Value → H} {w : World} {base : Nat} {spare : Nat → Bool} {held : Bool} {r : Reach} {b0 : Nat} {v : Value} {d : DataW H} {p : List MemPlace} (hv : Value.okWide Try.prog w r b0 25 v) (h : DataW.Trod enc Try.prog w base spare held 25 v d p) :
    ∃ (x0 : Int) (x1 : Int) (x2 : Int), v = .agg #[.int .i64 x0, .int .i64 x1, .int .i64 x2] ∧ (Lit.int .i64 x0).wf = true ∧ (Lit.int .i64 x1).wf = true ∧ (Lit.int .i64 x2).wf = true := by
  obtain ⟨cs, rfl, hsz0⟩ := okWide_struct Try.underlying25 hv
  have hc : Try.prog.cellsOf 25 = 3 := by kernel_rfl
  rw [hc] at hsz0
  obtain ⟨l⟩ := cs
  obtain ⟨c0, c1, c2, rfl⟩ := list25 (l := l) (by simpa using hsz0)
  obtain ⟨fuel, hf⟩ := h
  have k0 : Try.prog.cellsOf 3 = 1 := by kernel_rfl
  obtain ⟨n0, y0, h0⟩ := field_of Try.underlying25 hf 0 _ rfl
  have g0 : DataW.trod enc Try.prog w base spare held n0 3 [c0] = some y0 := by simpa [Value.cells, k0] using h0
  obtain ⟨x0, e0, _, w0⟩ := DataW.trod_int Try.underlying3 g0
  obtain rfl := (List.cons.inj e0).1
  have k1 : Try.prog.cellsOf 3 = 1 := by kernel_rfl
  obtain ⟨n1, y1, h1⟩ := field_of Try.underlying25 hf 1 _ rfl
  have g1 : DataW.trod enc Try.prog w base spare held n1 3 [c1] = some y1 := by simpa [Value.cells, k1] using h1
  obtain ⟨x1, e1, _, w1⟩ := DataW.trod_int Try.underlying3 g1
  obtain rfl := (List.cons.inj e1).1
  have k2 : Try.prog.cellsOf 3 = 1 := by kernel_rfl
  obtain ⟨n2, y2, h2⟩ := field_of Try.underlying25 hf 2 _ rfl
  have g2 : DataW.trod enc Try.prog w base spare held n2 3 [c2] = some y2 := by simpa [Value.cells, k2] using h2
  obtain ⟨x2, e2, _, w2⟩ := DataW.trod_int Try.underlying3 g2
  obtain rfl := (List.cons.inj e2).1
  exact ⟨x0, x1, x2, rfl, w0, w1, w2⟩

open Go.Proofs.Ythegdhogpjhidaa.OpsRow (boxM boxB boxD thenD)
open Go.Proofs.Ythegdhogpjhidaa.IdtWalk (num_any)
/-- The boxes of what comes in: a host, ids. -/
theorem in_boxes (w : World) (x0 x1 x2 x3 x4 x5 x6 v p r : Value) : ∃ W, (w.alloc (.cells #[x0, x1, x2, x3, x4, x5, x6] 23)).alloc (.cells #[v, p, r] 25) = W ∧ Sev W w.heap.size x0 x1 x2 x3 x4 x5 x6 ∧ (w.heap.size + 1 < W.heap.size ∧ W.cell? ⟨w.heap.size + 1, 0, none⟩ = some v ∧ W.cell? ⟨w.heap.size + 1, 1, none⟩ = some p ∧ W.cell? ⟨w.heap.size + 1, 2, none⟩ = some r) ∧ Below w.heap.size w W := by
  refine ⟨_, rfl, ?_⟩
  have h1 := sevM w x0 x1 x2 x3 x4 x5 x6 23
  have n1 := hal w (.cells #[x0, x1, x2, x3, x4, x5, x6] 23)
  have s1 : (w.alloc (.cells #[x0, x1, x2, x3, x4, x5, x6] 23)).heap.size = w.heap.size + 1 := by simp
  generalize w.alloc (.cells #[x0, x1, x2, x3, x4, x5, x6] 23) = W1 at *
  have h2 := boxM W1 v p r 25
  have n2 := hal W1 (.cells #[v, p, r] 25)
  rw [s1] at h2
  exact ⟨sevB h1 n2, h2, thenB n1 n2⟩
set_option maxRecDepth 100000 in
set_option maxHeartbeats 4000000 in
theorem walk (a0_0 : Int) (a0_1 : ByteArray) (a0_2 : Int) (a0_3 : Bool) (a0_4 : Int) (a0_5 : ByteArray) (a0_6 : Int) (a1 : ByteArray) (a2_0 : Int) (a2_1 : Int) (a2_2 : Int) (w0_0 : (Lit.int .i64 a0_0).wf = true) (w0_1 : a0_1.size ≤ maxLen) (w0_2 : (Lit.int .i64 a0_2).wf = true) (w0_4 : (Lit.int .i64 a0_4).wf = true) (w0_5 : a0_5.size ≤ maxLen) (w0_6 : (Lit.int .i64 a0_6).wf = true) (w1 : a1.size ≤ maxLen) (w2_0 : (Lit.int .i64 a2_0).wf = true) (w2_1 : (Lit.int .i64 a2_1).wf = true) (w2_2 : (Lit.int .i64 a2_2).wf = true) (w : World) :
    Calls Try.prog 3 #[.agg #[.int .i64 a0_0, .string a0_1, .int .i64 a0_2, .bool a0_3, .int .i64 a0_4, .string a0_5, .int .i64 a0_6], .string a1, .agg #[.int .i64 a2_0, .int .i64 a2_1, .int .i64 a2_2]] w fun e w' => e = .returned (.bool true) ∧ Below w.heap.size w w' := by
  obtain ⟨W, hW, hX, hY, hB⟩ := in_boxes w (.int .i64 a0_0) (.string a0_1) (.int .i64 a0_2) (.bool a0_3) (.int .i64 a0_4) (.string a0_5) (.int .i64 a0_6) (.int .i64 a2_0) (.int .i64 a2_1) (.int .i64 a2_2)
  have m1 : a1.size < 9223372036854775808 := by have : maxLen = 9223372036854775807 := rfl; omega
  have CA := hide (fun w => start_any a1 a2_0 a2_1 a2_2 w m1)
  have CB := hide (fun w => refStart_any a1 a2_0 a2_1 a2_2 w m1)
  have CC := hide (fun w => asks_any a0_0 a0_1 a0_2 a0_3 a0_4 a0_5 a0_6 w)
  have CD := hide (fun w => refAsks_any a0_0 a0_1 a0_2 a0_3 a0_4 a0_5 a0_6 w)
  have CE := hide (fun w => hmay_any a0_0 a0_1 a0_2 a0_3 a0_4 a0_5 a0_6 w)
  have CF := hide (fun w => refHMay_any a0_0 a0_1 a0_2 a0_3 a0_4 a0_5 a0_6 w)
  unfold Begun at CA CB
  clear m1
  generalize stP a1 a2_0 a2_1 a2_2 = P at *
  generalize stI a1 a2_0 a2_1 a2_2 = I at *
  generalize stR a1 a2_0 a2_1 a2_2 = R at *
  generalize errH (idsB a2_0 a2_1 a2_2) = E1 at *
  generalize askS a0_0 a0_1 a0_2 a0_3 a0_4 a0_5 a0_6 = S at *
  generalize askD a0_0 a0_1 a0_2 a0_4 a0_5 a0_6 = D at *
  generalize errH (askB a0_0 a0_1 a0_2 a0_4 a0_5 a0_6) = E2 at *
  generalize hostB a0_0 a0_1 a0_2 a0_4 a0_5 a0_6 = M at *
  subst hW
  go_enter Try.func3, Try.ntmps3
  go_upto_region 1 with fail
  generalize (w.alloc _).alloc _ = W at *
  go_upto_region 2 with (go_at_call 8; refine (CA.out _).mono ?_; rintro e w1 ⟨rfl, hb⟩; replace hB := thenB hB hb; replace hX := sevB hX hb; replace hY := boxB hY hb; clear hb)
  have hU := sevM w1 (.int .i64 P) (.string I) (.int .i64 0) (.bool false) (.int .i64 0) (.string ⟨#[]⟩) (.int .i64 R) 23
  have hn := hal w1 (.cells #[.int .i64 P, .string I, .int .i64 0, .bool false, .int .i64 0, .string ⟨#[]⟩, .int .i64 R] 23)
  replace hB := thenB hB hn
  replace hX := sevB hX hn
  replace hY := boxB hY hn
  clear hn
  generalize w1.alloc _ = W1 at *
  generalize w1.heap.size = G1 at *
  go_upto_region 3 with (go_at_call 9; refine (CB.out _).mono ?_; rintro e w2 ⟨rfl, hb⟩; replace hB := thenB hB hb; replace hX := sevB hX hb; replace hU := sevB hU hb; clear hb)
  have hV := sevM w2 (.int .i64 P) (.string I) (.int .i64 0) (.bool false) (.int .i64 0) (.string ⟨#[]⟩) (.int .i64 R) 23
  have hn := hal w2 (.cells #[.int .i64 P, .string I, .int .i64 0, .bool false, .int .i64 0, .string ⟨#[]⟩, .int .i64 R] 23)
  replace hB := thenB hB hn
  replace hX := sevB hX hn
  replace hU := sevB hU hn
  clear hn hY
  generalize w2.alloc _ = W2 at *
  generalize w2.heap.size = G2 at *
  go_upto_region 5 with (first | (go_at_call 10; refine (CC.out _).mono ?_; rintro e w3 ⟨rfl, hb⟩; replace hB := thenB hB hb; replace hX := sevB hX hb; replace hU := sevB hU hb; replace hV := sevB hV hb; clear hb) | (go_at_call 11; refine (CD.out _).mono ?_; rintro e w4 ⟨rfl, hb⟩; replace hB := thenB hB hb; replace hX := sevB hX hb; replace hU := sevB hU hb; replace hV := sevB hV hb; clear hb))
  clear CA CB CC CD
  go_region_held3 (fun X => (X.cell? ⟨w.heap.size, 0, none⟩ = some (.int .i64 a0_0) ∧ X.cell? ⟨w.heap.size, 1, none⟩ = some (.string a0_1) ∧ X.cell? ⟨w.heap.size, 2, none⟩ = some (.int .i64 a0_2) ∧ X.cell? ⟨w.heap.size, 3, none⟩ = some (.bool a0_3) ∧ X.cell? ⟨w.heap.size, 4, none⟩ = some (.int .i64 a0_4) ∧ X.cell? ⟨w.heap.size, 5, none⟩ = some (.string a0_5) ∧ X.cell? ⟨w.heap.size, 6, none⟩ = some (.int .i64 a0_6)) ∧ (X.cell? ⟨G1, 0, none⟩ = some (.int .i64 P) ∧ X.cell? ⟨G1, 1, none⟩ = some (.string I) ∧ X.cell? ⟨G1, 2, none⟩ = some (.int .i64 0) ∧ X.cell? ⟨G1, 3, none⟩ = some (.bool false) ∧ X.cell? ⟨G1, 4, none⟩ = some (.int .i64 0) ∧ X.cell? ⟨G1, 5, none⟩ = some (.string ⟨#[]⟩) ∧ X.cell? ⟨G1, 6, none⟩ = some (.int .i64 R)) ∧ (X.cell? ⟨G2, 0, none⟩ = some (.int .i64 P) ∧ X.cell? ⟨G2, 1, none⟩ = some (.string I) ∧ X.cell? ⟨G2, 2, none⟩ = some (.int .i64 0) ∧ X.cell? ⟨G2, 3, none⟩ = some (.bool false) ∧ X.cell? ⟨G2, 4, none⟩ = some (.int .i64 0) ∧ X.cell? ⟨G2, 5, none⟩ = some (.string ⟨#[]⟩) ∧ X.cell? ⟨G2, 6, none⟩ = some (.int .i64 R))) (go_keep) (first | (go_at_call 12; refine (num_any _ _).mono ?_; rintro e w' ⟨rfl, rfl⟩) | (go_at_call 13; refine (CE.out _).mono ?_; rintro e w5 ⟨rfl, hb⟩; replace hB := thenD hb hB rfl rfl rfl rfl; replace hX := sevD hb hX; replace hU := sevD hb hU; replace hV := sevD hb hV; clear hb) | (go_at_call 14; refine (CF.out _).mono ?_; rintro e w6 ⟨rfl, hb⟩; replace hB := thenD hb hB rfl rfl rfl rfl; replace hX := sevD hb hX; replace hU := sevD hb hU; replace hV := sevD hb hV; clear hb) | (go_at_call 15; refine (awake_any _).mono ?_; rintro e w7 ⟨rfl, hb⟩; replace hB := thenD hb hB rfl rfl rfl rfl; replace hX := sevD hb hX; replace hU := sevD hb hU; replace hV := sevD hb hV; clear hb))
  go_wp2
  go_ret
  exact ⟨rfl, hB⟩

set_option maxRecDepth 100000 in
theorem lifted (os : Os) (started : os.Started) (H : Type) (enc : TypeId × Value → H) :
    ReturnsInHanded {} Try.checked os 3 .any (Rows.hostsSpec.pre6 enc Try.prog Try.f3 Rows.hostsRow.domain false) (Rows.hostsSpec.post enc Try.prog Try.f3 false true false false) := by
  refine returnsInHanded_of_change (C := Try.checked) own started (by kernel_rfl) Try.func3
    (ChangeSpec.witness6 (enc := enc) (C := Try.checked) false ⟨#[], #[.agg #[.int .i64 0, .string ByteArray.empty, .int .i64 0, .bool false, .int .i64 0, .string ByteArray.empty, .int .i64 0], .string ByteArray.empty, .agg #[.int .i64 0, .int .i64 0, .int .i64 0]], []⟩ 8 (by kernel_rfl) (by kernel_rfl) (by kernel_rfl) (by kernel_rfl)) ?_
  intro W base args ds gs before hval0 hW hcnd _
  have hval : ∀ (j : Nat) t v, Try.f3.params[j]? = some t → args[j]? = some v → Value.okWide Try.prog W .any base t v := hval0
  have hW' := hW
  obtain ⟨p, q, hA0, hV, rfl, hfz, hnd⟩ := hW
  have hA : DataW.TrodAll enc Try.prog W 0 (fun _ => true) true Try.f3.params.toList args.toList ds p := hA0
  rw [Try.params3] at hA hval
  obtain ⟨v0, vs0, d0, ds0, p0, q0, hargs, rfl, rfl, h0, r0⟩ := trodAll_cons hA
  obtain ⟨v1, vs1, d1, ds1, p1, q1, rfl, rfl, rfl, h1, r1⟩ := trodAll_cons r0
  obtain ⟨v2, vs2, d2, ds2, p2, q2, rfl, rfl, rfl, h2, r2⟩ := trodAll_cons r1
  obtain ⟨rfl, rfl, rfl⟩ := trodAll_nil r2
  obtain rfl : args = #[v0, v1, v2] := by cases args; simp_all
  obtain ⟨rfl, rfl⟩ := trodVars_none hV
  have k0 := h0
  have lt0 : ∀ x ∈ p0, x.block < W.heap.size := by obtain ⟨m, hm⟩ := k0; exact DataW.trod_lt m _ _ _ hm
  obtain ⟨a0_0, a0_1, a0_2, a0_3, a0_4, a0_5, a0_6, rfl, w0_0, w0_1, w0_2, w0_4, w0_5, w0_6⟩ := open23 (hval 0 23 v0 rfl rfl) h0
  obtain ⟨a1, rfl, rfl, rfl, w1⟩ := open_string Try.underlying9 (hval 1 9 v1 rfl rfl) h1
  have k2 := h2
  have lt2 : ∀ x ∈ p2, x.block < W.heap.size := by obtain ⟨m, hm⟩ := k2; exact DataW.trod_lt m _ _ _ hm
  obtain ⟨a2_0, a2_1, a2_2, rfl, w2_0, w2_1, w2_2⟩ := open25 (hval 2 25 v2 rfl rfl) h2
  clear hA0 hval0
  refine (walk a0_0 a0_1 a0_2 a0_3 a0_4 a0_5 a0_6 a1 a2_0 a2_1 a2_2 w0_0 w0_1 w0_2 w0_4 w0_5 w0_6 w1 w2_0 w2_1 w2_2 W).mono fun e W' ⟨he, bel⟩ => ?_
  subst he
  exact ⟨_, rfl, _, _, _, [], _, [], hW', (trodAll_cons_mk (shut_bool Try.underlying4 _) trodAll_mk0), (trodAll_cons_mk (Below.trod laidOut (by kernel_rfl) (of_decide_eq_true (by kernel_rfl)) k0 bel lt0) (trodAll_cons_mk (shut_string Try.underlying9 w1) (trodAll_cons_mk (Below.trod laidOut (by kernel_rfl) (of_decide_eq_true (by kernel_rfl)) k2 bel lt2) trodAll_mk0))), rfl, bel.frame _, fun h => by cases h⟩

theorem over : Rows.hostsRow.holds Try.pinned (OpenSpec.ofChange Rows.hostsSpec) :=
  OpenClaim.holds_of_wide 3 Try.f3 rfl rfl rfl rfl rfl rfl rfl ⟨rfl, rfl, rfl, rfl, rfl⟩ rfl rfl rfl rfl rfl (by kernel_rfl) Try.func3 (by kernel_rfl)
    (of_decide_eq_true (by kernel_rfl)) (by unfold Func.isWrapper; first | (rw [if_pos (by decide +kernel)]; kernel_rfl) | (rw [if_neg (by decide +kernel)]; exact ⟨rfl, rfl⟩))
    (fun os started H enc _ => lifted os started H enc)

theorem proved : Rows.HostsSaid :=
  over
#print axioms proved
end Go.Proofs.Ythegdhogpjhidaa.hosts
