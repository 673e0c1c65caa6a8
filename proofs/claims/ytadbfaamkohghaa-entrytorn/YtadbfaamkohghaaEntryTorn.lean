/- Whatever the record and the two numbers: the law EntryTorn returns true (of a blank place on which a record's words are programmed, cut anywhere, nothing is got but, when it is all there, the record), and the arguments read as they did; no condition. -/
import Derived.Test.YtadbfaamkohghaaRows
import Derived.Test.YtadbfaamkohghaaNorMath
import Derived.Test.YtadbfaamkohghaaBytes
import Derived.Test.YtadbfaamkohghaaNorWalk
import Derived.Test.YtadbfaamkohghaaNorRef
import Derived.Test.YtadbfaamkohghaaEntMath
import Derived.Test.YtadbfaamkohghaaEntRow
import Derived.Test.YtadbfaamkohghaaEntLow
import Derived.Test.YtadbfaamkohghaaEntWalk
import Derived.Test.YtadbfaamkohghaaEntAwake
import Derived.WalkKit
import Derived.ProofKit
import Derived.OpenShut
import Derived.ShutString
import Derived.ChangeOld
import Derived.Below
namespace Go.Proofs.Ytadbfaamkohghaa.entryTorn
open Go.ChangeShapes Go.WideShapes Go.ChangeAt Go.RowKit
open Go.ChangeMaps (open_string shut_string)
set_option linter.unusedVariables false

open Go.Proofs.Ytadbfaamkohghaa.Bytes
open Go.Proofs.Ytadbfaamkohghaa.NorRef
open Go.Proofs.Ytadbfaamkohghaa.Ent
open Go.Proofs.Ytadbfaamkohghaa.EntRow
open Go.Proofs.Ytadbfaamkohghaa.EntWalk
open Go.Proofs.Ytadbfaamkohghaa.EntAwake
theorem own : ownKnob Try.prog.godebug = none := by kernel_rfl
theorem laidOut : laidOutB Try.prog = true := by kernel_rfl
theorem field_of {H : Type} {enc : TypeId × Value → H} {P : Program} {w : World} {base : Nat} {spare : Nat → Bool} {held : Bool} {t : TypeId} {fs : Array Field} {fuel : Nat} {cs : List Value} {x : DataW H × List MemPlace} (ht : P.underlying t = some (.struct fs)) (h : DataW.trod enc P w base spare held fuel t cs = some x) (i : Nat) (f : Field) (hf : fs[i]? = some f) :
    ∃ n y, DataW.trod enc P w base spare held n f.type ((cs.drop f.offset).take (P.cellsOf f.type)) = some y := by
  obtain ⟨xs, n, _, _, _, hlen, hq⟩ := DataW.trod_struct ht h
  have hi : i < xs.length := by
    rw [hlen]
    rcases Nat.lt_or_ge i fs.size with h1 | h1
    · exact h1
    · rw [Array.getElem?_eq_none h1] at hf; cases hf
  exact ⟨n, xs[i], by rw [hq i f hf, List.getElem?_eq_getElem hi]⟩
theorem list23 {l : List Value} (h : l.length = 4) : ∃ c0 c1 c2 c3, l = [c0, c1, c2, c3] := by
  match l, h with
  | [c0, c1, c2, c3], _ => exact ⟨c0, c1, c2, c3, rfl⟩
set_option maxRecDepth 100000 in
theorem open23 {H : Type} {enc : TypeId × Value → H} {w : World} {base : Nat} {spare : Nat → Bool} {held : Bool} {r : Reach} {b0 : Nat} {v : Value} {d : DataW H} {p : List MemPlace} (hv : Value.okWide Try.prog w r b0 23 v) (h : DataW.Trod enc Try.prog w base spare held 23 v d p) :
    ∃ (x0 : Int) (x1 : Int) (x2 : Int) (x3 : Int), v = .agg #[.int .i64 x0, .int .i64 x1, .int .i64 x2, .int .i64 x3] ∧ (Lit.int .i64 x0).wf = true ∧ (Lit.int .i64 x1).wf = true ∧ (Lit.int .i64 x2).wf = true ∧ (Lit.int .i64 x3).wf = true := by
  obtain ⟨cs, rfl, hsz⟩ := okWide_struct Try.underlying23 hv
  have hc : Try.prog.cellsOf 23 = 4 := by kernel_rfl
  rw [hc] at hsz
  obtain ⟨l⟩ := cs
  obtain ⟨c0, c1, c2, c3, rfl⟩ := list23 (l := l) (by simpa using hsz)
  obtain ⟨fuel, hf⟩ := h
  have k0 : Try.prog.cellsOf 3 = 1 := by kernel_rfl
  obtain ⟨n0, y0, h0⟩ := field_of Try.underlying23 hf 0 _ rfl
  have g0 : DataW.trod enc Try.prog w base spare held n0 3 [c0] = some y0 := by simpa [Value.cells, k0] using h0
  obtain ⟨x0, e0, _, w0⟩ := DataW.trod_int Try.underlying3 g0
  obtain rfl := (List.cons.inj e0).1
  have k1 : Try.prog.cellsOf 3 = 1 := by kernel_rfl
  obtain ⟨n1, y1, h1⟩ := field_of Try.underlying23 hf 1 _ rfl
  have g1 : DataW.trod enc Try.prog w base spare held n1 3 [c1] = some y1 := by simpa [Value.cells, k1] using h1
  obtain ⟨x1, e1, _, w1⟩ := DataW.trod_int Try.underlying3 g1
  obtain rfl := (List.cons.inj e1).1
  have k2 : Try.prog.cellsOf 3 = 1 := by kernel_rfl
  obtain ⟨n2, y2, h2⟩ := field_of Try.underlying23 hf 2 _ rfl
  have g2 : DataW.trod enc Try.prog w base spare held n2 3 [c2] = some y2 := by simpa [Value.cells, k2] using h2
  obtain ⟨x2, e2, _, w2⟩ := DataW.trod_int Try.underlying3 g2
  obtain rfl := (List.cons.inj e2).1
  have k3 : Try.prog.cellsOf 3 = 1 := by kernel_rfl
  obtain ⟨n3, y3, h3⟩ := field_of Try.underlying23 hf 3 _ rfl
  have g3 : DataW.trod enc Try.prog w base spare held n3 3 [c3] = some y3 := by simpa [Value.cells, k3] using h3
  obtain ⟨x3, e3, _, w3⟩ := DataW.trod_int Try.underlying3 g3
  obtain rfl := (List.cons.inj e3).1
  exact ⟨x0, x1, x2, x3, rfl, w0, w1, w2, w3⟩

/-- The flash has at least the bits of these 24 bytes. -/
def Over (S F : ByteArray) : Prop := F.size = 768 ∧ ∀ i, i < 24 → F.data.toList.getD i 0 &&& S.data.toList.getD i 0 = S.data.toList.getD i 0
theorem ff_and (b : UInt8) : 255 &&& b = b := by
  have h : ∀ n : Fin 256, 255 &&& UInt8.ofNat n.val = UInt8.ofNat n.val := by decide +kernel
  have := h ⟨b.toNat, b.toNat_lt⟩
  simpa only [UInt8.ofNat_toNat] using this
theorem keep_over (b : UInt8) (k : Nat) : Nor.keep b k &&& b = b := by
  have h := Nor.keep_keep b k 8
  rw [Nor.keep_8 b 8 (by omega), Nor.keep_8 b (max k 8) (by omega)] at h
  exact h
theorem over_blank (S : ByteArray) : Over S Nor.blankS := by
  refine ⟨Nor.size_blankS, fun i hi => ?_⟩
  have e : Nor.blankS.data.toList.getD i 0 = 255 := by
    show Nor.blankL.getD i 0 = 255
    rw [List.getD_eq_getElem?_getD, Nor.get_blankL i (by omega)]
    rfl
  rw [e, ff_and]
theorem over_torn {S F : ByteArray} (h : Over S F) (hS : S.size = 24) (p : Nat) (k : Nat) (hp : p + 4 ≤ 24) (hp4 : p % 4 = 0) (hk : k ≤ 32) : Nor.tornOk F (p : Int) (S.extract p (p + 4)) (k : Int) = true ∧ Over S (Nor.tornS F (p : Int) (S.extract p (p + 4)) (k : Int)) := by
  obtain ⟨hz, ho⟩ := h
  have hV : (S.extract p (p + 4)).size = 4 := by rw [ByteArray.size_extract]; omega
  have hok : Nor.tornOk F (p : Int) (S.extract p (p + 4)) (k : Int) = true := by
    unfold Nor.tornOk
    exact decide_eq_true ⟨hz, by omega, by omega, by omega, hV, by omega, by omega⟩
  refine ⟨hok, Nor.size_tornS hok, fun i hi => ?_⟩
  rw [Nor.list_tornS hok, List.getD_eq_getElem?_getD, Nor.get_tornL]
  have hi2 : i < F.data.toList.length := by rw [Nor.size_list]; omega
  have e := ho i hi
  rw [List.getD_eq_getElem?_getD] at e
  rw [List.getElem?_eq_getElem hi2] at e ⊢
  simp only [Option.map_some, Option.getD_some, Int.toNat_natCast] at e ⊢
  by_cases hh : p ≤ i ∧ i < p + 4
  · rw [if_pos hh]
    have e2 : (S.extract p (p + 4)).data.toList.getD (i - p) 0 = S.data.toList.getD i 0 := by
      rw [list_extract, List.getD_eq_getElem?_getD, List.getD_eq_getElem?_getD, List.getElem?_take_of_lt (by omega), List.getElem?_drop, show p + (i - p) = i from by omega]
    rw [e2, UInt8.and_assoc, keep_over, e]
  · rw [if_neg hh]
    exact e
theorem over_end {S F : ByteArray} (h : Over S F) (hS : getOk S = true) : F.extract 0 24 = S ∨ (((F.extract 0 24).toList == S.toList) = false ∧ getOk (F.extract 0 24) = false) := by
  by_cases e : F.extract 0 24 = S
  · exact .inl e
  · refine .inr ⟨text_ne e, ?_⟩
    cases hm : getOk (F.extract 0 24) with
    | false => rfl
    | true =>
      exfalso
      refine e (only_itself hS hm fun i h1 h2 => ?_)
      have hz := (getOk_parts.1 hS).1
      have hf := h.1
      have e3 := h.2 i (by omega)
      have e4 : F.data.toList.getD i 0 = (F.extract 0 24)[i] := by
        have := Nor.ba_get _ i h2
        rw [list_head, List.getElem?_take_of_lt (by omega)] at this
        rw [List.getD_eq_getElem?_getD, this]
        rfl
      have e5 : S.data.toList.getD i 0 = S[i] := by
        rw [List.getD_eq_getElem?_getD, Nor.ba_get _ i h1]
        rfl
      rw [e4, e5] at e3
      exact e3
set_option maxHeartbeats 2000000 in
theorem walk (a0_0 : Int) (a0_1 : Int) (a0_2 : Int) (a0_3 : Int) (a1 : Int) (a2 : Int) (w0_0 : (Lit.int .i64 a0_0).wf = true) (w0_1 : (Lit.int .i64 a0_1).wf = true) (w0_2 : (Lit.int .i64 a0_2).wf = true) (w0_3 : (Lit.int .i64 a0_3).wf = true) (w1 : (Lit.int .i64 a1).wf = true) (w2 : (Lit.int .i64 a2).wf = true) (w : World) :
    Calls Try.prog 4 #[.agg #[.int .i64 a0_0, .int .i64 a0_1, .int .i64 a0_2, .int .i64 a0_3], .int .i64 a1, .int .i64 a2] w fun e w' => e = .returned (.bool true) ∧ Below w.heap.size w w' := by
  have hB := (Below.refl w.heap.size w).alloc (Nat.le_refl _) (.cells #[.int .i64 a0_0, .int .i64 a0_1, .int .i64 a0_2, .int .i64 a0_3] 23)
  have hX := boxM w (.int .i64 a0_0) (.int .i64 a0_1) (.int .i64 a0_2) (.int .i64 a0_3) 23
  have e0 : errE true = 0 := rfl
  have e2 : errE false = 400 := rfl
  have q2 := build_none
  obtain ⟨k, hk, mk⟩ : ∃ k : Nat, k < 6 ∧ wrap64 ((IntKind.u64.wrap a1).tmod 6) = (k : Int) := mod_u64 a1 6 (by omega) (by omega)
  obtain ⟨b, hb33, mb⟩ : ∃ k : Nat, k < 33 ∧ wrap64 ((IntKind.u64.wrap a2).tmod 33) = (k : Int) := mod_u64 a2 33 (by omega) (by omega)
  cases k1 : recMay a0_0 a0_1 a0_2 a0_3 with
  | false =>
    have t1 := putS_no k1
    go_enter Try.func4, Try.ntmps4
    go_wp2_with (first | (go_at_call 9; refine (put_any _ _ _ _ _).mono ?_; rintro e w' ⟨rfl, hb⟩; replace hB := hB.trans (hb.mono hB.size); replace hX := boxB hX hb; clear hb) | (go_at_call 13; refine (num_any _ _).mono ?_; rintro e w' ⟨rfl, rfl⟩) | (go_at_call 14; refine (awake_any _).mono ?_; rintro e w' ⟨rfl, hb⟩; replace hB := hB.trans (hb.mono hB.size); replace hX := boxB hX hb; clear hb))
    go_ret
    exact ⟨rfl, hB⟩
  | true =>
    have z1 := size_putS k1
    have z3 : (putS a0_0 a0_1 a0_2 a0_3).size ≤ 24 := by omega
    have z4 : 24 ≤ (putS a0_0 a0_1 a0_2 a0_3).size := by omega
    obtain ⟨g0, g1, g2, g3, g4⟩ := get_put k1
    have cH := fun w => get_any (putS a0_0 a0_1 a0_2 a0_3) w
    rw [g0, g1, g2, g3, g4] at cH
    have CH := hide cH
    have cP := fun w => put_any a0_0 a0_1 a0_2 a0_3 w
    rw [k1] at cP
    have CP := hide cP
    have HT := hide (fun F h p k h1 h2 h3 => over_torn (F := F) h z1 p k h1 h2 h3)
    have HE := hide (fun F h => over_end (F := F) h g0)
    have HO := hide (over_blank (putS a0_0 a0_1 a0_2 a0_3))
    clear cH cP g0 g1 g2 g3 g4 z1 k1
    generalize putS a0_0 a0_1 a0_2 a0_3 = S at *
    go_enter Try.func4, Try.ntmps4
    go_wp2_with (first | (go_at_call 14; refine (awake_any _).mono ?_; rintro e w' ⟨rfl, hb⟩; replace hB := hB.trans (hb.mono hB.size); replace hX := boxB hX hb; clear hb))
    refine (CP.out _).mono ?_; rintro e w' ⟨rfl, hb⟩; replace hB := hB.trans (hb.mono hB.size); replace hX := boxB hX hb; clear hb
    go_wp2_with (first | (go_at_call 13; refine (num_any _ _).mono ?_; rintro e w' ⟨rfl, rfl⟩) | (go_at_call 15; refine (refBlank_any _).mono ?_; rintro e w' ⟨rfl, hb⟩; replace hB := hB.trans (hb.mono hB.size); replace hX := boxB hX hb; clear hb))
    rw [mk, mb]
    clear mk mb
    go_loopw [9, 12] (fun v y wr => ∃ (j : Nat) (F : ByteArray), j ≤ k ∧ y = .int .i64 j ∧ v = .string F ∧ Over S F ∧ Below w.heap.size w wr ∧ (w.heap.size < wr.heap.size ∧ wr.cell? ⟨w.heap.size, 0, none⟩ = some (.int .i64 a0_0) ∧ wr.cell? ⟨w.heap.size, 1, none⟩ = some (.int .i64 a0_1) ∧ wr.cell? ⟨w.heap.size, 2, none⟩ = some (.int .i64 a0_2) ∧ wr.cell? ⟨w.heap.size, 3, none⟩ = some (.int .i64 a0_3))) (fun _ y _ => k - (intOf y).toNat)
    case atStart => exact ⟨0, _, Nat.zero_le _, rfl, rfl, HO.out, hB, hX⟩
    case round =>
      clear hB hX
      obtain ⟨j, F, hj, rfl, rfl, hov, hB, hX⟩ := hrel
      obtain ⟨p, hp⟩ : ∃ p : Nat, p = 4 * j := ⟨_, rfl⟩
      have hp1 : (4 : Int) * (j : Int) = (p : Int) := by omega
      have hp2 : p + 4 ≤ 24 := by omega
      have hp3 : p % 4 = 0 := by omega
      have HQ := hide hp
      have HP3 := hide hp3
      clear hp hp3
      by_cases hlt : j < k
      · obtain ⟨o1, o2⟩ := HT.out F hov p 32 hp2 HP3.out (by omega)
        have HV := hide o2
        have cQ := fun w => refProgram_any F (p : Int) (S.extract p (p + 4)) w
        rw [show Nor.tornOk F (p : Int) (S.extract p (p + 4)) 32 = true from o1] at cQ
        have CQ := hide cQ
        clear cQ o1 o2
        go_wp2_with fail
        refine (CQ.out _).mono ?_; rintro e w' ⟨rfl, hb⟩; replace hB := hB.trans (hb.mono hB.size); replace hX := boxB hX hb; clear hb
        go_wp2
        exact ⟨⟨j + 1, _, by omega, by go_num, rfl, HV.out, hB, hX⟩, by simp [intOf]; omega⟩
      · obtain rfl : j = k := by omega
        obtain ⟨o1, o2⟩ := HT.out F hov p b hp2 HP3.out (by omega)
        have z5 := o2.1
        have z6 : 24 ≤ (Nor.tornS F (p : Int) (S.extract p (p + 4)) (b : Int)).size := by omega
        have HF := hide (HE.out _ o2)
        have cQ := fun w => refTorn_any F (p : Int) (S.extract p (p + 4)) (b : Int) w
        rw [o1] at cQ
        have CQ := hide cQ
        clear cQ o1 o2 z5
        generalize Nor.tornS F (p : Int) (S.extract p (p + 4)) (b : Int) = G at *
        go_wp2_with fail
        refine (CQ.out _).mono ?_; rintro e w' ⟨rfl, hb⟩; replace hB := hB.trans (hb.mono hB.size); replace hX := boxB hX hb; clear hb
        rcases HF.out with hg | ⟨hg1, hg2⟩
        · go_wp2_with fail
          refine (CH.out _).mono ?_; rintro e w' ⟨rfl, hb⟩; replace hB := hB.trans (hb.mono hB.size); replace hX := boxB hX hb; clear hb
          have hZ := boxM w' (.int .i64 a0_0) (.int .i64 a0_1) (.int .i64 a0_2) (.int .i64 a0_3) 23
          replace hX := boxB hX ((Below.refl _ _).alloc (Nat.le_refl _) (.cells #[.int .i64 a0_0, .int .i64 a0_1, .int .i64 a0_2, .int .i64 a0_3] 23))
          replace hB := hB.alloc hB.size (.cells #[.int .i64 a0_0, .int .i64 a0_1, .int .i64 a0_2, .int .i64 a0_3] 23)
          go_wp2_with (first | (go_at_call 13; refine (num_any _ _).mono ?_; rintro e w' ⟨rfl, rfl⟩))
          go_ret
          exact ⟨rfl, hB⟩
        · have cN := fun w => get_any (G.extract 0 24) w
          obtain ⟨n1, n2, n3, n4⟩ := Ent.get_no hg2
          rw [n1, n2, n3, n4, hg2] at cN
          have CN := hide cN
          clear cN n1 n2 n3 n4 hg2
          go_wp2_with fail
          refine (CN.out _).mono ?_; rintro e w' ⟨rfl, hb⟩; replace hB := hB.trans (hb.mono hB.size); replace hX := boxB hX hb; clear hb
          have hZ := boxM w' (.int .i64 0) (.int .i64 0) (.int .i64 0) (.int .i64 0) 23
          replace hB := hB.alloc hB.size (.cells #[.int .i64 0, .int .i64 0, .int .i64 0, .int .i64 0] 23)
          go_wp2_with (first | (go_at_call 13; refine (num_any _ _).mono ?_; rintro e w' ⟨rfl, rfl⟩))
          go_ret
          exact ⟨rfl, hB⟩

set_option maxRecDepth 100000 in
theorem lifted (os : Os) (started : os.Started) (H : Type) (enc : TypeId × Value → H) :
    ReturnsInHanded {} Try.checked os 4 .any (Rows.entryTornSpec.pre6 enc Try.prog Try.f4 Rows.entryTornRow.domain false) (Rows.entryTornSpec.post enc Try.prog Try.f4 false true false false) := by
  refine returnsInHanded_of_change (C := Try.checked) own started (by kernel_rfl) Try.func4
    (ChangeSpec.witness6 (enc := enc) (C := Try.checked) false ⟨#[], #[.agg #[.int .i64 0, .int .i64 0, .int .i64 0, .int .i64 0], .int .i64 0, .int .i64 0], []⟩ 8 (by kernel_rfl) (by kernel_rfl) (by kernel_rfl) (by kernel_rfl)) ?_
  intro W base args ds gs before hval0 hW hcnd _
  have hval : ∀ (j : Nat) t v, Try.f4.params[j]? = some t → args[j]? = some v → Value.okWide Try.prog W .any base t v := hval0
  have hW' := hW
  obtain ⟨p, q, hA0, hV, rfl, hfz, hnd⟩ := hW
  have hA : DataW.TrodAll enc Try.prog W 0 (fun _ => true) true Try.f4.params.toList args.toList ds p := hA0
  rw [Try.params4] at hA hval
  obtain ⟨v0, vs0, d0, ds0, p0, q0, hargs, rfl, rfl, h0, r0⟩ := trodAll_cons hA
  obtain ⟨v1, vs1, d1, ds1, p1, q1, rfl, rfl, rfl, h1, r1⟩ := trodAll_cons r0
  obtain ⟨v2, vs2, d2, ds2, p2, q2, rfl, rfl, rfl, h2, r2⟩ := trodAll_cons r1
  obtain ⟨rfl, rfl, rfl⟩ := trodAll_nil r2
  obtain rfl : args = #[v0, v1, v2] := by cases args; simp_all
  obtain ⟨rfl, rfl⟩ := trodVars_none hV
  have k0 := h0
  have lt0 : ∀ x ∈ p0, x.block < W.heap.size := by obtain ⟨m, hm⟩ := k0; exact DataW.trod_lt m _ _ _ hm
  obtain ⟨a0_0, a0_1, a0_2, a0_3, rfl, w0_0, w0_1, w0_2, w0_3⟩ := open23 (hval 0 23 v0 rfl rfl) h0
  obtain ⟨a1, rfl, rfl, rfl, w1⟩ := open_int Try.underlying3 (hval 1 3 v1 rfl rfl) h1
  obtain ⟨a2, rfl, rfl, rfl, w2⟩ := open_int Try.underlying3 (hval 2 3 v2 rfl rfl) h2
  clear hA0 hval0
  refine (walk a0_0 a0_1 a0_2 a0_3 a1 a2 w0_0 w0_1 w0_2 w0_3 w1 w2 W).mono fun e W' ⟨he, bel⟩ => ?_
  subst he
  exact ⟨_, rfl, _, _, _, [], _, [], hW', (trodAll_cons_mk (shut_bool Try.underlying4 _) trodAll_mk0), (trodAll_cons_mk (Below.trod laidOut (by kernel_rfl) (of_decide_eq_true (by kernel_rfl)) k0 bel lt0) (trodAll_cons_mk (shut_int Try.underlying3 w1) (trodAll_cons_mk (shut_int Try.underlying3 w2) trodAll_mk0))), rfl, bel.frame _, fun h => by cases h⟩

theorem over : Rows.entryTornRow.holds Try.pinned (OpenSpec.ofChange Rows.entryTornSpec) :=
  OpenClaim.holds_of_wide 4 Try.f4 rfl rfl rfl rfl rfl rfl rfl ⟨rfl, rfl, rfl, rfl, rfl⟩ rfl rfl rfl rfl rfl (by kernel_rfl) Try.func4 (by kernel_rfl)
    (of_decide_eq_true (by kernel_rfl)) (by unfold Func.isWrapper; first | (rw [if_pos (by decide +kernel)]; kernel_rfl) | (rw [if_neg (by decide +kernel)]; exact ⟨rfl, rfl⟩))
    (fun os started H enc _ => lifted os started H enc)

theorem proved : Rows.EntryTornSaid :=
  over
#print axioms proved
end Go.Proofs.Ytadbfaamkohghaa.entryTorn
