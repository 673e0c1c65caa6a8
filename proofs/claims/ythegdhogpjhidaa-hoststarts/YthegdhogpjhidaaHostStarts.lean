/- Whatever the file and the numbers of whom it is to be for: the law HostStarts returns true (a host begins to carry just the image of a file that is whole, and for these), and the arguments read as they did; no condition. -/
import Derived.Test.YthegdhogpjhidaaRows
import Derived.Test.YthegdhogpjhidaaBagNor
import Derived.Test.YthegdhogpjhidaaBagOps
import Derived.Test.YthegdhogpjhidaaBagSuf
import Derived.Test.YthegdhogpjhidaaBagSet
import Derived.Test.YthegdhogpjhidaaHstMath
import Derived.Test.YthegdhogpjhidaaHstWalk
import Derived.Test.YthegdhogpjhidaaHstAsk
import Derived.Test.YthegdhogpjhidaaHstHost
import Derived.Test.YthegdhogpjhidaaHstRef
import Derived.Test.YthegdhogpjhidaaHstRefs
import Derived.Test.YthegdhogpjhidaaHstAwake
import Derived.Laws.StructEq
import Derived.Deep.Cut
import Derived.WalkKit
import Derived.ProofKit
import Derived.OpenShut
import Derived.ShutString
import Derived.ChangeOld
import Derived.Below
namespace Go.Proofs.Ythegdhogpjhidaa.hostStarts
open Go.ChangeShapes Go.WideShapes Go.ChangeAt Go.RowKit
open Go.ChangeMaps (open_string shut_string)
set_option linter.unusedVariables false

open Go.Proofs.Ythegdhogpjhidaa.Bytes
open Go.Proofs.Ythegdhogpjhidaa.Suf
open Go.Proofs.Ythegdhogpjhidaa.Idt
open Go.Proofs.Ythegdhogpjhidaa.Hst
open Go.Proofs.Ythegdhogpjhidaa.HstWalk
open Go.Proofs.Ythegdhogpjhidaa.HstAsk
open Go.Proofs.Ythegdhogpjhidaa.HstHost
open Go.Proofs.Ythegdhogpjhidaa.HstRef
open Go.Proofs.Ythegdhogpjhidaa.HstRefs
open Go.Proofs.Ythegdhogpjhidaa.HstAwake
theorem own : ownKnob Try.prog.godebug = none := by kernel_rfl
theorem laidOut : laidOutB Try.prog = true := by kernel_rfl
theorem field_of {H : Type} {enc : TypeId × Value → H} {P : Program} {w : World} {base : Nat} {spare : Nat → Bool} {held : Bool} {t : TypeId} {fs : Array Field} {fuel : Nat} {cs : List Value} {x : DataW H × List MemPlace} (ht : P.underlying t = some (.struct fs)) (h : DataW.trod enc P w base spare held fuel t cs = some x) (i : Nat) (f : Field) (hf : fs[i]? = some f) :
    ∃ n y, DataW.trod enc P w base spare held n f.type ((cs.drop f.offset).take (P.cellsOf f.type)) = some y := by
  obtain ⟨xs, n, _, _, _, hlen, hq⟩ := DataW.trod_struct ht h
  have hi : i < xs.length := by
    rw [hlen]
    rcases Nat.lt_or_ge i fs.size with h1 | h1
    · exact h1
    · rw [Array.getElem?_eq_none h1] at hf; cases hf
  exact ⟨n, xs[i], by rw [hq i f hf, List.getElem?_eq_getElem hi]⟩
theorem list25 {l : List Value} (h : l.length = 3) : ∃ c0 c1 c2, l = [c0, c1, c2] := by
  match l, h with
  | [c0, c1, c2], _ => exact ⟨c0, c1, c2, rfl⟩
set_option maxRecDepth 100000 in
theorem open25 {H : Type} {enc : TypeId × Value → H} {w : World} {base : Nat} {spare : Nat → Bool} {held : Bool} {r : Reach} {b0 : Nat} {v : Value} {d : DataW H} {p : List MemPlace} (hv : Value.okWide Try.prog w r b0 25 v) (h : DataW.Trod enc Try.prog w base spare held 25 v d p) :
    ∃ (x0 : Int) (x1 : Int) (x2 : Int), v = .agg #[.int .i64 x0, .int .i64 x1, .int .i64 x2] ∧ (Lit.int .i64 x0).wf = true ∧ (Lit.int .i64 x1).wf = true ∧ (Lit.int .i64 x2).wf = true := by
  obtain ⟨cs, rfl, hsz0⟩ := okWide_struct Try.underlying25 hv
  have hc : Try.prog.cellsOf 25 = 3 := by kernel_rfl
  rw [hc] at hsz0
  obtain ⟨l⟩ := cs
  obtain ⟨c0, c1, c2, rfl⟩ := list25 (l := l) (by simpa using hsz0)
  obtain ⟨fuel, hf⟩ := h
  have k0 : Try.prog.cellsOf 3 = 1 := by kernel_rfl
  obtain ⟨n0, y0, h0⟩ := field_of Try.underlying25 hf 0 _ rfl
  have g0 : DataW.trod enc Try.prog w base spare held n0 3 [c0] = some y0 := by simpa [Value.cells, k0] using h0
  obtain ⟨x0, e0, _, w0⟩ := DataW.trod_int Try.underlying3 g0
  obtain rfl := (List.cons.inj e0).1
  have k1 : Try.prog.cellsOf 3 = 1 := by kernel_rfl
  obtain ⟨n1, y1, h1⟩ := field_of Try.underlying25 hf 1 _ rfl
  have g1 : DataW.trod enc Try.prog w base spare held n1 3 [c1] = some y1 := by simpa [Value.cells, k1] using h1
  obtain ⟨x1, e1, _, w1⟩ := DataW.trod_int Try.underlying3 g1
  obtain rfl := (List.cons.inj e1).1
  have k2 : Try.prog.cellsOf 3 = 1 := by kernel_rfl
  obtain ⟨n2, y2, h2⟩ := field_of Try.underlying25 hf 2 _ rfl
  have g2 : DataW.trod enc Try.prog w base spare held n2 3 [c2] = some y2 := by simpa [Value.cells, k2] using h2
  obtain ⟨x2, e2, _, w2⟩ := DataW.trod_int Try.underlying3 g2
  obtain rfl := (List.cons.inj e2).1
  exact ⟨x0, x1, x2, rfl, w0, w1, w2⟩

open Go.Proofs.Ythegdhogpjhidaa.OpsRow (boxM boxB boxD thenD)
open Go.Proofs.Ythegdhogpjhidaa.IdtWalk (num_any ridsMay_any refMatch_any)
open Go.Proofs.Ythegdhogpjhidaa.SufRef (refParse_any)
/-- A host that has just begun may be. -/
theorem begun_may {f : ByteArray} (h : parB f = true) : hostB 1 (parI f) 0 0 ⟨#[]⟩ 0 = true := by
  have h1 := size_parI h
  have h2 := frm_size (par_parts.1 h).1
  rw [host_parts]
  exact ⟨by decide, by decide, by decide, by decide, by omega, .inl (by omega), by decide, by omega, by decide, by decide, by decide⟩
theorem rmay_begun {f : ByteArray} (h : parB f = true) (w : World) : Calls Try.prog 14 #[.agg #[.int .i64 1, .string (parI f), .int .i64 0, .bool false, .int .i64 0, .string ⟨#[]⟩, .int .i64 0]] w fun e w' => e = .returned (.bool true) ∧ Below w.heap.size w w' := by
  have g := refHMay_any 1 (parI f) 0 false 0 ⟨#[]⟩ 0 w
  rw [begun_may h] at g
  exact g
set_option maxRecDepth 100000 in
set_option maxHeartbeats 4000000 in
theorem walk (a0 : ByteArray) (a1_0 : Int) (a1_1 : Int) (a1_2 : Int) (w0 : a0.size ≤ maxLen) (w1_0 : (Lit.int .i64 a1_0).wf = true) (w1_1 : (Lit.int .i64 a1_1).wf = true) (w1_2 : (Lit.int .i64 a1_2).wf = true) (w : World) :
    Calls Try.prog 6 #[.string a0, .agg #[.int .i64 a1_0, .int .i64 a1_1, .int .i64 a1_2]] w fun e w' => e = .returned (.bool true) ∧ Below w.heap.size w w' := by
  have hX := boxM w (.int .i64 a1_0) (.int .i64 a1_1) (.int .i64 a1_2) 25
  have hB := hal w (.cells #[.int .i64 a1_0, .int .i64 a1_1, .int .i64 a1_2] 25)
  have m1 : a0.size < 9223372036854775808 := by have : maxLen = 9223372036854775807 := rfl; omega
  have b1 := build_h0
  have b2 := build_h7
  have b3 := build_h1
  have CA := hide (fun w => start_any a0 a1_0 a1_1 a1_2 w m1)
  have CI := hide (fun w => ridsMay_any a1_0 a1_1 a1_2 w)
  have CP := hide (fun w => refParse_any a0 w m1)
  have CM := hide (fun w => refMatch_any (parV a0) (parP a0) (parR a0) a1_0 a1_1 a1_2 w)
  have hw := st_ways a0 a1_0 a1_1 a1_2
  have hv := to_ways a0 a1_0 a1_1 a1_2
  have hc := @rmay_begun a0
  have hq := @errQ_iff a0
  have CW := hide (fun w => awake_any w)
  unfold Begun at CA
  clear m1
  generalize stP a0 a1_0 a1_1 a1_2 = P at *
  generalize stI a0 a1_0 a1_1 a1_2 = I at *
  generalize stR a0 a1_0 a1_1 a1_2 = R at *
  generalize errM (mtOk (parV a0) (parP a0) (parR a0) a1_0 a1_1 a1_2) = E2 at *
  generalize mtB (parV a0) (parP a0) (parR a0) a1_0 a1_1 a1_2 = M at *
  generalize parV a0 = V at *
  generalize parP a0 = Q at *
  generalize parR a0 = Z at *
  generalize errQ a0 = E at *
  generalize parI a0 = J at *
  generalize parB a0 = PB at *
  generalize toS a0 a1_0 a1_1 a1_2 = T at *
  generalize toB a0 a1_0 a1_1 a1_2 = O at *
  generalize errH (idsB a1_0 a1_1 a1_2) = E1 at *
  generalize idsB a1_0 a1_1 a1_2 = D at *
  rcases hw with ⟨rfl, rfl, rfl, rfl, rfl⟩ | ⟨rfl, rfl, rfl, rfl, rfl, rfl⟩ | ⟨rfl, rfl, rfl, rfl, rfl, rfl⟩
  · clear CP CM hv hc hq
    go_enter Try.func6, Try.ntmps6
    go_upto_region 1 with fail
    generalize w.alloc _ = W at *
    go_upto_region 4 with (first | (go_at_call 15; refine (CW.out _).mono ?_; rintro e w1 ⟨rfl, hb⟩; replace hB := thenB hB hb; replace hX := boxB hX hb; clear hb) | (go_at_call 8; refine (CA.out _).mono ?_; rintro e w2 ⟨rfl, hb⟩; replace hB := thenB hB hb; replace hX := boxB hX hb; clear hb))
    have hU := sevM w2 (.int .i64 0) (.string ⟨#[]⟩) (.int .i64 0) (.bool false) (.int .i64 0) (.string ⟨#[]⟩) (.int .i64 0) 23
    have hn := hal w2 (.cells #[.int .i64 0, .string ⟨#[]⟩, .int .i64 0, .bool false, .int .i64 0, .string ⟨#[]⟩, .int .i64 0] 23)
    replace hB := thenB hB hn
    replace hX := boxB hX hn
    clear hn
    generalize w2.alloc _ = W2 at *
    generalize w2.heap.size = G2 at *
    go_wp2_with (first | (go_at_call 12; refine (num_any _ _).mono ?_; rintro e w' ⟨rfl, rfl⟩) | (go_at_call 20; refine (CI.out _).mono ?_; rintro e w3 ⟨rfl, hb⟩; replace hB := thenB hB hb; clear hb))
    go_ret
    exact ⟨rfl, hB⟩
  · clear hc hq
    go_enter Try.func6, Try.ntmps6
    go_upto_region 1 with fail
    generalize w.alloc _ = W at *
    go_upto_region 4 with (first | (go_at_call 15; refine (CW.out _).mono ?_; rintro e w1 ⟨rfl, hb⟩; replace hB := thenB hB hb; replace hX := boxB hX hb; clear hb) | (go_at_call 8; refine (CA.out _).mono ?_; rintro e w2 ⟨rfl, hb⟩; replace hB := thenB hB hb; replace hX := boxB hX hb; clear hb))
    have hU := sevM w2 (.int .i64 7) (.string ⟨#[]⟩) (.int .i64 0) (.bool false) (.int .i64 0) (.string ⟨#[]⟩) (.int .i64 3) 23
    have hn := hal w2 (.cells #[.int .i64 7, .string ⟨#[]⟩, .int .i64 0, .bool false, .int .i64 0, .string ⟨#[]⟩, .int .i64 3] 23)
    replace hB := thenB hB hn
    replace hX := boxB hX hn
    clear hn
    generalize w2.alloc _ = W2 at *
    generalize w2.heap.size = G2 at *
    go_upto_region 7 with (first | (go_at_call 12; refine (num_any _ _).mono ?_; rintro e w' ⟨rfl, rfl⟩) | (go_at_call 21; refine (CP.out _).mono ?_; rintro e w3 ⟨rfl, hb⟩; replace hB := thenB hB hb; replace hX := boxB hX hb; replace hU := sevB hU hb; clear hb))
    have hY := boxM w3 (.int .i64 V) (.int .i64 Q) (.int .i64 Z) 25
    have hn := hal w3 (.cells #[.int .i64 V, .int .i64 Q, .int .i64 Z] 25)
    replace hB := thenB hB hn
    replace hX := boxB hX hn
    replace hU := sevB hU hn
    clear hn
    generalize w3.alloc _ = W3 at *
    generalize w3.heap.size = G3 at *
    go_upto_region 8 with (go_at_call 22; refine (CM.out _).mono ?_; rintro e w4 ⟨rfl, hb⟩; replace hB := thenB hB hb; replace hX := boxB hX hb; replace hU := sevB hU hb; clear hb)
    rcases hv with ⟨k1, -, -⟩ | ⟨rfl, rfl, -, -⟩ | ⟨-, -, -, -, k⟩
    · go_wp2_with fail
      go_ret
      exact ⟨rfl, hB⟩
    · by_cases k2 : E2 = 0
      · subst k2
        go_wp2_with fail
        go_ret
        exact ⟨rfl, hB⟩
      · go_wp2_with fail
        go_ret
        exact ⟨rfl, hB⟩
    · cases k
  · rcases hv with ⟨-, -, k⟩ | ⟨-, -, -, k⟩ | ⟨rfl, rfl, rfl, -, -⟩
    · cases k
    · cases k
    have CC := hide (hc (hq.1 rfl))
    clear hc hq
    go_enter Try.func6, Try.ntmps6
    go_upto_region 1 with fail
    generalize w.alloc _ = W at *
    go_upto_region 4 with (first | (go_at_call 15; refine (CW.out _).mono ?_; rintro e w1 ⟨rfl, hb⟩; replace hB := thenB hB hb; replace hX := boxB hX hb; clear hb) | (go_at_call 8; refine (CA.out _).mono ?_; rintro e w2 ⟨rfl, hb⟩; replace hB := thenB hB hb; replace hX := boxB hX hb; clear hb))
    have hU := sevM w2 (.int .i64 1) (.string I) (.int .i64 0) (.bool false) (.int .i64 0) (.string ⟨#[]⟩) (.int .i64 0) 23
    have hn := hal w2 (.cells #[.int .i64 1, .string I, .int .i64 0, .bool false, .int .i64 0, .string ⟨#[]⟩, .int .i64 0] 23)
    replace hB := thenB hB hn
    replace hX := boxB hX hn
    clear hn
    generalize w2.alloc _ = W2 at *
    generalize w2.heap.size = G2 at *
    go_upto_region 7 with (first | (go_at_call 12; refine (num_any _ _).mono ?_; rintro e w' ⟨rfl, rfl⟩) | (go_at_call 21; refine (CP.out _).mono ?_; rintro e w3 ⟨rfl, hb⟩; replace hB := thenB hB hb; replace hX := boxB hX hb; replace hU := sevB hU hb; clear hb))
    have hY := boxM w3 (.int .i64 V) (.int .i64 Q) (.int .i64 Z) 25
    have hn := hal w3 (.cells #[.int .i64 V, .int .i64 Q, .int .i64 Z] 25)
    replace hB := thenB hB hn
    replace hX := boxB hX hn
    replace hU := sevB hU hn
    clear hn
    generalize w3.alloc _ = W3 at *
    generalize w3.heap.size = G3 at *
    go_upto_region 8 with (go_at_call 22; refine (CM.out _).mono ?_; rintro e w4 ⟨rfl, hb⟩; replace hB := thenB hB hb; replace hX := boxB hX hb; replace hU := sevB hU hb; clear hb)
    go_wp2_with (go_at_call 14; refine (CC.out _).mono ?_; rintro e w5 ⟨rfl, hb⟩; replace hB := thenB hB hb; clear hb)
    go_ret
    exact ⟨rfl, hB⟩

set_option maxRecDepth 100000 in
theorem lifted (os : Os) (started : os.Started) (H : Type) (enc : TypeId × Value → H) :
    ReturnsInHanded {} Try.checked os 6 .any (Rows.hostStartsSpec.pre6 enc Try.prog Try.f6 Rows.hostStartsRow.domain false) (Rows.hostStartsSpec.post enc Try.prog Try.f6 false true false false) := by
  refine returnsInHanded_of_change (C := Try.checked) own started (by kernel_rfl) Try.func6
    (ChangeSpec.witness6 (enc := enc) (C := Try.checked) false ⟨#[], #[.string ByteArray.empty, .agg #[.int .i64 0, .int .i64 0, .int .i64 0]], []⟩ 8 (by kernel_rfl) (by kernel_rfl) (by kernel_rfl) (by kernel_rfl)) ?_
  intro W base args ds gs before hval0 hW hcnd _
  have hval : ∀ (j : Nat) t v, Try.f6.params[j]? = some t → args[j]? = some v → Value.okWide Try.prog W .any base t v := hval0
  have hW' := hW
  obtain ⟨p, q, hA0, hV, rfl, hfz, hnd⟩ := hW
  have hA : DataW.TrodAll enc Try.prog W 0 (fun _ => true) true Try.f6.params.toList args.toList ds p := hA0
  rw [Try.params6] at hA hval
  obtain ⟨v0, vs0, d0, ds0, p0, q0, hargs, rfl, rfl, h0, r0⟩ := trodAll_cons hA
  obtain ⟨v1, vs1, d1, ds1, p1, q1, rfl, rfl, rfl, h1, r1⟩ := trodAll_cons r0
  obtain ⟨rfl, rfl, rfl⟩ := trodAll_nil r1
  obtain rfl : args = #[v0, v1] := by cases args; simp_all
  obtain ⟨rfl, rfl⟩ := trodVars_none hV
  obtain ⟨a0, rfl, rfl, rfl, w0⟩ := open_string Try.underlying9 (hval 0 9 v0 rfl rfl) h0
  have k1 := h1
  have lt1 : ∀ x ∈ p1, x.block < W.heap.size := by obtain ⟨m, hm⟩ := k1; exact DataW.trod_lt m _ _ _ hm
  obtain ⟨a1_0, a1_1, a1_2, rfl, w1_0, w1_1, w1_2⟩ := open25 (hval 1 25 v1 rfl rfl) h1
  clear hA0 hval0
  refine (walk a0 a1_0 a1_1 a1_2 w0 w1_0 w1_1 w1_2 W).mono fun e W' ⟨he, bel⟩ => ?_
  subst he
  exact ⟨_, rfl, _, _, _, [], _, [], hW', (trodAll_cons_mk (shut_bool Try.underlying4 _) trodAll_mk0), (trodAll_cons_mk (shut_string Try.underlying9 w0) (trodAll_cons_mk (Below.trod laidOut (by kernel_rfl) (of_decide_eq_true (by kernel_rfl)) k1 bel lt1) trodAll_mk0)), rfl, bel.frame _, fun h => by cases h⟩

theorem over : Rows.hostStartsRow.holds Try.pinned (OpenSpec.ofChange Rows.hostStartsSpec) :=
  OpenClaim.holds_of_wide 6 Try.f6 rfl rfl rfl rfl rfl rfl rfl ⟨rfl, rfl, rfl, rfl, rfl⟩ rfl rfl rfl rfl rfl (by kernel_rfl) Try.func6 (by kernel_rfl)
    (of_decide_eq_true (by kernel_rfl)) (by unfold Func.isWrapper; first | (rw [if_pos (by decide +kernel)]; kernel_rfl) | (rw [if_neg (by decide +kernel)]; exact ⟨rfl, rfl⟩))
    (fun os started H enc _ => lifted os started H enc)

theorem proved : Rows.HostStartsSaid :=
  over
#print axioms proved
end Go.Proofs.Ythegdhogpjhidaa.hostStarts
