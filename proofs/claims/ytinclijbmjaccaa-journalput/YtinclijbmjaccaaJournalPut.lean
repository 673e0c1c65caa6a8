/- Whatever the record and the number: the law JournalPut returns true (a record's bytes in any place of an otherwise blank flash are told there, and nothing else), and the arguments read as they did; no condition. -/
import Derived.Test.YtinclijbmjaccaaRows
import Derived.Test.YtinclijbmjaccaaJouAwake
import Derived.Deep.QuietTactic
import Derived.BigQuiet
import Derived.RegionTactic
import Derived.WalkKit
import Derived.ProofKit
import Derived.OpenShut
import Derived.ShutString
import Derived.ChangeOld
import Derived.Below
namespace Go.Proofs.Ytinclijbmjaccaa.journalPut
open Go.ChangeShapes Go.WideShapes Go.ChangeAt Go.RowKit
open Go.ChangeMaps (open_string shut_string)
set_option linter.unusedVariables false

open Go.Proofs.Ytinclijbmjaccaa.Bytes
open Go.Proofs.Ytinclijbmjaccaa.NorWalk
open Go.Proofs.Ytinclijbmjaccaa.NorRef
open Go.Proofs.Ytinclijbmjaccaa.Ent
open Go.Proofs.Ytinclijbmjaccaa.EntRow
open Go.Proofs.Ytinclijbmjaccaa.EntRef
open Go.Proofs.Ytinclijbmjaccaa.Jou
open Go.Proofs.Ytinclijbmjaccaa.JouRow
open Go.Proofs.Ytinclijbmjaccaa.JouWalk
open Go.Proofs.Ytinclijbmjaccaa.JouRef
open Go.Proofs.Ytinclijbmjaccaa.JouAwake
theorem own : ownKnob Try.prog.godebug = none := by kernel_rfl
theorem laidOut : laidOutB Try.prog = true := by kernel_rfl
theorem field_of {H : Type} {enc : TypeId × Value → H} {P : Program} {w : World} {base : Nat} {spare : Nat → Bool} {held : Bool} {t : TypeId} {fs : Array Field} {fuel : Nat} {cs : List Value} {x : DataW H × List MemPlace} (ht : P.underlying t = some (.struct fs)) (h : DataW.trod enc P w base spare held fuel t cs = some x) (i : Nat) (f : Field) (hf : fs[i]? = some f) :
    ∃ n y, DataW.trod enc P w base spare held n f.type ((cs.drop f.offset).take (P.cellsOf f.type)) = some y := by
  obtain ⟨xs, n, _, _, _, hlen, hq⟩ := DataW.trod_struct ht h
  have hi : i < xs.length := by
    rw [hlen]
    rcases Nat.lt_or_ge i fs.size with h1 | h1
    · exact h1
    · rw [Array.getElem?_eq_none h1] at hf; cases hf
  exact ⟨n, xs[i], by rw [hq i f hf, List.getElem?_eq_getElem hi]⟩
theorem list38 {l : List Value} (h : l.length = 4) : ∃ c0 c1 c2 c3, l = [c0, c1, c2, c3] := by
  match l, h with
  | [c0, c1, c2, c3], _ => exact ⟨c0, c1, c2, c3, rfl⟩
set_option maxRecDepth 100000 in
theorem open38 {H : Type} {enc : TypeId × Value → H} {w : World} {base : Nat} {spare : Nat → Bool} {held : Bool} {r : Reach} {b0 : Nat} {v : Value} {d : DataW H} {p : List MemPlace} (hv : Value.okWide Try.prog w r b0 38 v) (h : DataW.Trod enc Try.prog w base spare held 38 v d p) :
    ∃ (x0 : Int) (x1 : Int) (x2 : Int) (x3 : Int), v = .agg #[.int .i64 x0, .int .i64 x1, .int .i64 x2, .int .i64 x3] ∧ (Lit.int .i64 x0).wf = true ∧ (Lit.int .i64 x1).wf = true ∧ (Lit.int .i64 x2).wf = true ∧ (Lit.int .i64 x3).wf = true := by
  obtain ⟨cs, rfl, hsz⟩ := okWide_struct Try.underlying38 hv
  have hc : Try.prog.cellsOf 38 = 4 := by kernel_rfl
  rw [hc] at hsz
  obtain ⟨l⟩ := cs
  obtain ⟨c0, c1, c2, c3, rfl⟩ := list38 (l := l) (by simpa using hsz)
  obtain ⟨fuel, hf⟩ := h
  have k0 : Try.prog.cellsOf 3 = 1 := by kernel_rfl
  obtain ⟨n0, y0, h0⟩ := field_of Try.underlying38 hf 0 _ rfl
  have g0 : DataW.trod enc Try.prog w base spare held n0 3 [c0] = some y0 := by simpa [Value.cells, k0] using h0
  obtain ⟨x0, e0, _, w0⟩ := DataW.trod_int Try.underlying3 g0
  obtain rfl := (List.cons.inj e0).1
  have k1 : Try.prog.cellsOf 3 = 1 := by kernel_rfl
  obtain ⟨n1, y1, h1⟩ := field_of Try.underlying38 hf 1 _ rfl
  have g1 : DataW.trod enc Try.prog w base spare held n1 3 [c1] = some y1 := by simpa [Value.cells, k1] using h1
  obtain ⟨x1, e1, _, w1⟩ := DataW.trod_int Try.underlying3 g1
  obtain rfl := (List.cons.inj e1).1
  have k2 : Try.prog.cellsOf 3 = 1 := by kernel_rfl
  obtain ⟨n2, y2, h2⟩ := field_of Try.underlying38 hf 2 _ rfl
  have g2 : DataW.trod enc Try.prog w base spare held n2 3 [c2] = some y2 := by simpa [Value.cells, k2] using h2
  obtain ⟨x2, e2, _, w2⟩ := DataW.trod_int Try.underlying3 g2
  obtain rfl := (List.cons.inj e2).1
  have k3 : Try.prog.cellsOf 3 = 1 := by kernel_rfl
  obtain ⟨n3, y3, h3⟩ := field_of Try.underlying38 hf 3 _ rfl
  have g3 : DataW.trod enc Try.prog w base spare held n3 3 [c3] = some y3 := by simpa [Value.cells, k3] using h3
  obtain ⟨x3, e3, _, w3⟩ := DataW.trod_int Try.underlying3 g3
  obtain rfl := (List.cons.inj e3).1
  exact ⟨x0, x1, x2, x3, rfl, w0, w1, w2, w3⟩

theorem splice_get (f s : List UInt8) (p i : Nat) (hp : p + s.length ≤ f.length) : (f.take p ++ s ++ f.drop (p + s.length))[i]? = if i < p then f[i]? else if i < p + s.length then s[i - p]? else f[i]? := by
  have h1 : (f.take p).length = p := by rw [List.length_take]; omega
  by_cases a : i < p
  · rw [if_pos a, List.append_assoc, List.getElem?_append_left (by omega), List.getElem?_take_of_lt a]
  · rw [if_neg a]
    by_cases b : i < p + s.length
    · rw [if_pos b, List.getElem?_append_left (by rw [List.length_append]; omega), List.getElem?_append_right (by omega), h1]
    · rw [if_neg b, List.getElem?_append_right (by rw [List.length_append]; omega), List.length_append, h1, List.getElem?_drop, show p + s.length + (i - (p + s.length)) = i from by omega]
def putF (S : ByteArray) (p q : Nat) : ByteArray := Nor.blankS.extract 0 p ++ S ++ Nor.blankS.extract q 768
theorem putF_get (S : ByteArray) (p i : Nat) (hS : S.size = 24) (hp : p + 24 ≤ 768) : (putF S p (p + 24)).data.toList[i]? = if i < p then Nor.blankL[i]? else if i < p + 24 then S.data.toList[i - p]? else Nor.blankL[i]? := by
  have hl : S.data.toList.length = 24 := by rw [Nor.size_list]; exact hS
  have h := splice_get Nor.blankL S.data.toList p i (by rw [hl, Nor.length_blankL]; omega)
  rw [hl] at h
  have e : (Nor.blankS.extract (p + 24) 768).data.toList = Nor.blankL.drop (p + 24) := by
    have := list_tail Nor.blankS (p + 24)
    rw [Nor.size_blankS, Held.list_blankS] at this
    exact this
  have e2 : (putF S p (p + 24)).data.toList = Nor.blankL.take p ++ S.data.toList ++ Nor.blankL.drop (p + 24) := by
    unfold putF
    rw [list_append, list_append, list_head, e, Held.list_blankS]
  rw [e2]
  exact h
theorem putF_size (S : ByteArray) (p : Nat) (hS : S.size = 24) (hp : p + 24 ≤ 768) : (putF S p (p + 24)).size = 768 := by
  unfold putF
  rw [ByteArray.size_append, ByteArray.size_append, ByteArray.size_extract, ByteArray.size_extract, Nor.size_blankS]
  omega
theorem put_scan {q t z m : Int} (h : recMay q t z m = true) (k : Nat) (hk : k < 8) : scanL (putF (putS q t z m) (24 * k) (24 * k + 24)) = [⟨24 * (k : Int), q, t, z, m⟩] := by
  have hS := size_putS h
  have hg := fun i => putF_get (putS q t z m) (24 * k) i hS (by omega)
  have h1 : slotS (putF (putS q t z m) (24 * k) (24 * k + 24)) k = putS q t z m := slotS_is hS fun i hi => by
    rw [hg, if_neg (by omega), if_pos (by omega), show 24 * k + i - 24 * k = i from by omega]
  rw [scan_ok (putF_size _ _ hS (by omega)), found_one (p := k) h h1 8 (fun j h2 h3 => slot_full fun i hi => ?_), if_pos hk]
  rw [hg]
  have hb := Nor.get_blankL (24 * j + i) (by omega)
  by_cases a : 24 * j + i < 24 * k
  · rw [if_pos a, hb]
  · rw [if_neg a, if_neg (by omega), hb]
theorem scan_put {q t z m : Int} (h : recMay q t z m = true) (k p : Nat) (hk : k < 8) (hp : p = 24 * k) (w : World) : Calls Try.prog 8 #[.string (putF (putS q t z m) p (p + 24))] w fun e w' => ∃ g cap, e = .returned (.tuple #[.slice (some ⟨g, 0, none⟩) 1 cap, .int .i64 0]) ∧ 1 ≤ cap ∧ cap ≤ maxLen ∧ g < w'.heap.size ∧ PlIn w' g [⟨(p : Int), q, t, z, m⟩] ∧ Below w.heap.size w w' := by
  subst hp
  refine (scan_any _ w).mono ?_
  rintro e w' ⟨v, rfl, hown, hb⟩
  rw [put_scan h k hk] at hown
  rw [mayF_t (putF_size _ _ (size_putS h) (by omega))]
  obtain ⟨g, cap, rfl, h1, h2, _, h3, h4⟩ := ownsP_form hown Nat.one_pos
  exact ⟨g, cap, rfl, h1, h2, h3, by rw [show ((24 * k : Nat) : Int) = 24 * (k : Int) from by omega]; exact h4, hb⟩
theorem one_made (w : World) (a q t z m : Int) (T : TypeId) : IsPl (w.alloc (.cells #[.int .i64 a, .int .i64 q, .int .i64 t, .int .i64 z, .int .i64 m] T)) (.slice (some ⟨w.heap.size, 0, none⟩) 1 1) [⟨a, q, t, z, m⟩] := by
  refine ⟨_, 1, rfl, .inr ⟨_, rfl, size_alloc1 _ _, ?_, ?_, ?_, ?_, ?_⟩⟩
  all_goals
    intro i hi
    obtain rfl : i = 0 := by simp at hi; omega
    rw [World.cell?_alloc_at _ _ _ _ rfl]
    rfl
set_option maxHeartbeats 2000000 in
theorem walk (a0_0 : Int) (a0_1 : Int) (a0_2 : Int) (a0_3 : Int) (a1 : Int) (w0_0 : (Lit.int .i64 a0_0).wf = true) (w0_1 : (Lit.int .i64 a0_1).wf = true) (w0_2 : (Lit.int .i64 a0_2).wf = true) (w0_3 : (Lit.int .i64 a0_3).wf = true) (w1 : (Lit.int .i64 a1).wf = true) (w : World) :
    Calls Try.prog 4 #[.agg #[.int .i64 a0_0, .int .i64 a0_1, .int .i64 a0_2, .int .i64 a0_3], .int .i64 a1] w fun e w' => e = .returned (.bool true) ∧ Below w.heap.size w w' := by
  have hB := (Below.refl w.heap.size w).alloc (Nat.le_refl _) (.cells #[.int .i64 a0_0, .int .i64 a0_1, .int .i64 a0_2, .int .i64 a0_3] 38)
  have hX := boxM w (.int .i64 a0_0) (.int .i64 a0_1) (.int .i64 a0_2) (.int .i64 a0_3) 38
  have e0 : errE true = 0 := rfl
  have e2 : errE false = 400 := rfl
  have CP := hide (fun w => refPut_any a0_0 a0_1 a0_2 a0_3 w)
  cases k1 : recMay a0_0 a0_1 a0_2 a0_3 with
  | false =>
    rw [k1] at CP
    go_enter Try.func4, Try.ntmps4
    go_wp2_with (first | (go_at_call 15; refine (awake_any _).mono ?_; rintro e w' ⟨rfl, hb⟩; replace hB := hB.trans (hb.mono hB.size); replace hX := boxB hX hb; clear hb) | (go_at_call 16; refine (CP.out _).mono ?_; rintro e w' ⟨rfl, hb⟩; replace hB := hB.trans (hb.mono hB.size); replace hX := boxB hX hb; clear hb))
    go_ret
    exact ⟨rfl, hB⟩
  | true =>
    rw [k1] at CP
    obtain ⟨k, hk, hk1⟩ := mod_u64 a1 8 (by omega) (by omega)
    obtain ⟨p, hp⟩ : ∃ p : Nat, p = 24 * k := ⟨_, rfl⟩
    have hk2 : wrap64 ((IntKind.u64.wrap a1).tmod 8) = (k : Int) := hk1
    clear hk1
    have hp1 : 24 * (k : Int) = (p : Int) := by omega
    have hp2 : p ≤ 168 := by omega
    have C1 := hide (fun w => refBlank_any w)
    have C2 := hide (fun w => scan_put k1 k p hk hp w)
    have hS := size_putS k1
    have hS1 : (putS a0_0 a0_1 a0_2 a0_3).size ≤ 24 := by omega
    have HF : Hid (putF (putS a0_0 a0_1 a0_2 a0_3) p (p + 24) = Nor.blankS.extract 0 p ++ putS a0_0 a0_1 a0_2 a0_3 ++ Nor.blankS.extract (p + 24) Nor.blankS.size) := by show _ = _; rw [Nor.size_blankS]; rfl
    have z1 : Nor.blankS.size ≤ 768 := by rw [Nor.size_blankS]; omega
    have z2 : 768 ≤ Nor.blankS.size := by rw [Nor.size_blankS]; omega
    clear hS hp k1 hk
    generalize putF (putS a0_0 a0_1 a0_2 a0_3) p (p + 24) = F at *
    generalize putS a0_0 a0_1 a0_2 a0_3 = S at *
    generalize Nor.blankS = B0 at *
    go_enter Try.func4, Try.ntmps4
    go_wp2_with (first | (go_at_call 15; refine (awake_any _).mono ?_; rintro e w' ⟨rfl, hb⟩; replace hB := hB.trans (hb.mono hB.size); replace hX := boxB hX hb; clear hb) | (go_at_call 16; refine (CP.out _).mono ?_; rintro e w' ⟨rfl, hb⟩; replace hB := hB.trans (hb.mono hB.size); replace hX := boxB hX hb; clear hb) | (go_at_call 17; refine (C1.out _).mono ?_; rintro e w' ⟨rfl, hb⟩; replace hB := hB.trans (hb.mono hB.size); replace hX := boxB hX hb; clear hb))
    go_quiet (fail)
    go_wp2_with fail
    rw [← HF.out]
    refine (C2.out _).mono ?_
    rintro e w2 ⟨g, cap, rfl, hc1, hc2, hg, hin, hb⟩
    replace hB := thenB (bel_drewN hB _) hb
    replace hX := boxB (boxB hX (bel_drewN (Below.refl _ _) _)) hb
    clear hb
    go_wp2_with (go_at_call 13; refine (numJ_any _ _).mono ?_; rintro e w' ⟨rfl, rfl⟩)
    have hin2 := hin.below (w' := w'.alloc (.cells #[.int .i64 (p : Int), .int .i64 a0_0, .int .i64 a0_1, .int .i64 a0_2, .int .i64 a0_3] 44)) ((Below.refl w'.heap.size w').alloc (Nat.le_refl _) _) hg
    refine (samePl_yes _ _ [⟨(p : Int), a0_0, a0_1, a0_2, a0_3⟩] _ (by simp) ⟨_, cap, rfl, .inr ⟨g, rfl, Nat.lt_trans hg (size_alloc1 _ _), hin2⟩⟩ (one_made w' (p : Int) a0_0 a0_1 a0_2 a0_3 44)).mono ?_
    rintro e w3 ⟨rfl, hb⟩
    replace hB := thenB (hB.alloc hB.size _) hb
    clear hb hin2 hin
    go_wp2_with fail
    go_ret
    exact ⟨rfl, hB⟩

set_option maxRecDepth 100000 in
theorem lifted (os : Os) (started : os.Started) (H : Type) (enc : TypeId × Value → H) :
    ReturnsInHanded {} Try.checked os 4 .any (Rows.journalPutSpec.pre6 enc Try.prog Try.f4 Rows.journalPutRow.domain false) (Rows.journalPutSpec.post enc Try.prog Try.f4 false true false false) := by
  refine returnsInHanded_of_change (C := Try.checked) own started (by kernel_rfl) Try.func4
    (ChangeSpec.witness6 (enc := enc) (C := Try.checked) false ⟨#[], #[.agg #[.int .i64 0, .int .i64 0, .int .i64 0, .int .i64 0], .int .i64 0], []⟩ 8 (by kernel_rfl) (by kernel_rfl) (by kernel_rfl) (by kernel_rfl)) ?_
  intro W base args ds gs before hval0 hW hcnd _
  have hval : ∀ (j : Nat) t v, Try.f4.params[j]? = some t → args[j]? = some v → Value.okWide Try.prog W .any base t v := hval0
  have hW' := hW
  obtain ⟨p, q, hA0, hV, rfl, hfz, hnd⟩ := hW
  have hA : DataW.TrodAll enc Try.prog W 0 (fun _ => true) true Try.f4.params.toList args.toList ds p := hA0
  rw [Try.params4] at hA hval
  obtain ⟨v0, vs0, d0, ds0, p0, q0, hargs, rfl, rfl, h0, r0⟩ := trodAll_cons hA
  obtain ⟨v1, vs1, d1, ds1, p1, q1, rfl, rfl, rfl, h1, r1⟩ := trodAll_cons r0
  obtain ⟨rfl, rfl, rfl⟩ := trodAll_nil r1
  obtain rfl : args = #[v0, v1] := by cases args; simp_all
  obtain ⟨rfl, rfl⟩ := trodVars_none hV
  have k0 := h0
  have lt0 : ∀ x ∈ p0, x.block < W.heap.size := by obtain ⟨m, hm⟩ := k0; exact DataW.trod_lt m _ _ _ hm
  obtain ⟨a0_0, a0_1, a0_2, a0_3, rfl, w0_0, w0_1, w0_2, w0_3⟩ := open38 (hval 0 38 v0 rfl rfl) h0
  obtain ⟨a1, rfl, rfl, rfl, w1⟩ := open_int Try.underlying3 (hval 1 3 v1 rfl rfl) h1
  clear hA0 hval0
  refine (walk a0_0 a0_1 a0_2 a0_3 a1 w0_0 w0_1 w0_2 w0_3 w1 W).mono fun e W' ⟨he, bel⟩ => ?_
  subst he
  exact ⟨_, rfl, _, _, _, [], _, [], hW', (trodAll_cons_mk (shut_bool Try.underlying4 _) trodAll_mk0), (trodAll_cons_mk (Below.trod laidOut (by kernel_rfl) (of_decide_eq_true (by kernel_rfl)) k0 bel lt0) (trodAll_cons_mk (shut_int Try.underlying3 w1) trodAll_mk0)), rfl, bel.frame _, fun h => by cases h⟩

theorem over : Rows.journalPutRow.holds Try.pinned (OpenSpec.ofChange Rows.journalPutSpec) :=
  OpenClaim.holds_of_wide 4 Try.f4 rfl rfl rfl rfl rfl rfl rfl ⟨rfl, rfl, rfl, rfl, rfl⟩ rfl rfl rfl rfl rfl (by kernel_rfl) Try.func4 (by kernel_rfl)
    (of_decide_eq_true (by kernel_rfl)) (by unfold Func.isWrapper; first | (rw [if_pos (by decide +kernel)]; kernel_rfl) | (rw [if_neg (by decide +kernel)]; exact ⟨rfl, rfl⟩))
    (fun os started H enc _ => lifted os started H enc)

theorem proved : Rows.JournalPutSaid :=
  over
#print axioms proved
end Go.Proofs.Ytinclijbmjaccaa.journalPut
