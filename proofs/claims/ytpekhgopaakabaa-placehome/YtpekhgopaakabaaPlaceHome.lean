/- Whatever the text and the record: the law PlaceHome returns true (the steps that lay a record down never turn the active record, nor its image, nor a slot; they write the record), and the arguments read as they did; no condition. -/
import Derived.Test.YtpekhgopaakabaaRows
import Derived.Test.YtpekhgopaakabaaPlaAwake
import Derived.Test.YtpekhgopaakabaaOpsRef
import Derived.Test.YtpekhgopaakabaaEntRef
import Derived.Deep.Cut
import Derived.BigQuiet
import Derived.WalkKit
import Derived.ProofKit
import Derived.OpenShut
import Derived.ShutString
import Derived.ChangeOld
import Derived.Below
namespace Go.Proofs.Ytpekhgopaakabaa.placeHome
open Go.ChangeShapes Go.WideShapes Go.ChangeAt Go.RowKit
open Go.ChangeMaps (open_string shut_string)
set_option linter.unusedVariables false

open Go.Proofs.Ytpekhgopaakabaa.Bytes
open Go.Proofs.Ytpekhgopaakabaa.Ent
open Go.Proofs.Ytpekhgopaakabaa.EntRow
open Go.Proofs.Ytpekhgopaakabaa.EntRef
open Go.Proofs.Ytpekhgopaakabaa.Jou
open Go.Proofs.Ytpekhgopaakabaa.JouRow
open Go.Proofs.Ytpekhgopaakabaa.JouRef
open Go.Proofs.Ytpekhgopaakabaa.Ops
open Go.Proofs.Ytpekhgopaakabaa.Act
open Go.Proofs.Ytpekhgopaakabaa.ActNext
open Go.Proofs.Ytpekhgopaakabaa.ActApp
open Go.Proofs.Ytpekhgopaakabaa.Held
open Go.Proofs.Ytpekhgopaakabaa.Cho
open Go.Proofs.Ytpekhgopaakabaa.Pla
open Go.Proofs.Ytpekhgopaakabaa.PlaWalk
open Go.Proofs.Ytpekhgopaakabaa.PlaAwake
theorem own : ownKnob Try.prog.godebug = none := by kernel_rfl
theorem laidOut : laidOutB Try.prog = true := by kernel_rfl
theorem field_of {H : Type} {enc : TypeId × Value → H} {P : Program} {w : World} {base : Nat} {spare : Nat → Bool} {held : Bool} {t : TypeId} {fs : Array Field} {fuel : Nat} {cs : List Value} {x : DataW H × List MemPlace} (ht : P.underlying t = some (.struct fs)) (h : DataW.trod enc P w base spare held fuel t cs = some x) (i : Nat) (f : Field) (hf : fs[i]? = some f) :
    ∃ n y, DataW.trod enc P w base spare held n f.type ((cs.drop f.offset).take (P.cellsOf f.type)) = some y := by
  obtain ⟨xs, n, _, _, _, hlen, hq⟩ := DataW.trod_struct ht h
  have hi : i < xs.length := by
    rw [hlen]
    rcases Nat.lt_or_ge i fs.size with h1 | h1
    · exact h1
    · rw [Array.getElem?_eq_none h1] at hf; cases hf
  exact ⟨n, xs[i], by rw [hq i f hf, List.getElem?_eq_getElem hi]⟩
theorem list23 {l : List Value} (h : l.length = 4) : ∃ c0 c1 c2 c3, l = [c0, c1, c2, c3] := by
  match l, h with
  | [c0, c1, c2, c3], _ => exact ⟨c0, c1, c2, c3, rfl⟩
set_option maxRecDepth 100000 in
theorem open23 {H : Type} {enc : TypeId × Value → H} {w : World} {base : Nat} {spare : Nat → Bool} {held : Bool} {r : Reach} {b0 : Nat} {v : Value} {d : DataW H} {p : List MemPlace} (hv : Value.okWide Try.prog w r b0 23 v) (h : DataW.Trod enc Try.prog w base spare held 23 v d p) :
    ∃ (x0 : Int) (x1 : Int) (x2 : Int) (x3 : Int), v = .agg #[.int .i64 x0, .int .i64 x1, .int .i64 x2, .int .i64 x3] ∧ (Lit.int .i64 x0).wf = true ∧ (Lit.int .i64 x1).wf = true ∧ (Lit.int .i64 x2).wf = true ∧ (Lit.int .i64 x3).wf = true := by
  obtain ⟨cs, rfl, hsz⟩ := okWide_struct Try.underlying23 hv
  have hc : Try.prog.cellsOf 23 = 4 := by kernel_rfl
  rw [hc] at hsz
  obtain ⟨l⟩ := cs
  obtain ⟨c0, c1, c2, c3, rfl⟩ := list23 (l := l) (by simpa using hsz)
  obtain ⟨fuel, hf⟩ := h
  have k0 : Try.prog.cellsOf 3 = 1 := by kernel_rfl
  obtain ⟨n0, y0, h0⟩ := field_of Try.underlying23 hf 0 _ rfl
  have g0 : DataW.trod enc Try.prog w base spare held n0 3 [c0] = some y0 := by simpa [Value.cells, k0] using h0
  obtain ⟨x0, e0, _, w0⟩ := DataW.trod_int Try.underlying3 g0
  obtain rfl := (List.cons.inj e0).1
  have k1 : Try.prog.cellsOf 3 = 1 := by kernel_rfl
  obtain ⟨n1, y1, h1⟩ := field_of Try.underlying23 hf 1 _ rfl
  have g1 : DataW.trod enc Try.prog w base spare held n1 3 [c1] = some y1 := by simpa [Value.cells, k1] using h1
  obtain ⟨x1, e1, _, w1⟩ := DataW.trod_int Try.underlying3 g1
  obtain rfl := (List.cons.inj e1).1
  have k2 : Try.prog.cellsOf 3 = 1 := by kernel_rfl
  obtain ⟨n2, y2, h2⟩ := field_of Try.underlying23 hf 2 _ rfl
  have g2 : DataW.trod enc Try.prog w base spare held n2 3 [c2] = some y2 := by simpa [Value.cells, k2] using h2
  obtain ⟨x2, e2, _, w2⟩ := DataW.trod_int Try.underlying3 g2
  obtain rfl := (List.cons.inj e2).1
  have k3 : Try.prog.cellsOf 3 = 1 := by kernel_rfl
  obtain ⟨n3, y3, h3⟩ := field_of Try.underlying23 hf 3 _ rfl
  have g3 : DataW.trod enc Try.prog w base spare held n3 3 [c3] = some y3 := by simpa [Value.cells, k3] using h3
  obtain ⟨x3, e3, _, w3⟩ := DataW.trod_int Try.underlying3 g3
  obtain rfl := (List.cons.inj e3).1
  exact ⟨x0, x1, x2, x3, rfl, w0, w1, w2, w3⟩

/-- What the steps are, one by one, and what stands behind all of them. -/
theorem home_all {f : ByteArray} {q t z m : Int} (ho : appOk f q t z m = true) :
    6 ≤ (appL f q t z m).length ∧ (appL f q t z m).length ≤ 7 ∧ f.size = 768 ∧
    (∀ n (hn : n < (appL f q t z m).length), cutOk (doL f ((appL f q t z m).take n)) (appL f q t z m)[n].er (appL f q t z m)[n].pl (appL f q t z m)[n].tx 96 = true ∧
      ((appL f q t z m)[n].er = false ∧ ¬ ((appL f q t z m).length = 7 ∧ n = 0) ∨ (appL f q t z m)[n].er = true ∧ n = 0 ∧ (appL f q t z m).length = 7 ∧ ((appL f q t z m)[n].pl = 0 ∨ (appL f q t z m)[n].pl = 96) ∧ (errA f = 0 → ¬ (appL f q t z m)[n].pl / 96 = (actV f).pa / 96))) ∧
    ∃ j : Nat, j < 8 ∧ (∀ n (hn : n < (appL f q t z m).length), n + 6 = (appL f q t z m).length → (appL f q t z m)[n].pl = ((24 * j : Nat) : Int)) ∧
      ∀ x : ByteArray, x = doL f (appL f q t z m) → x.size = 768 ∧ x.extract 192 x.size = f.extract 192 f.size ∧ x.extract (24 * j) (24 * j + 24) = putS q t z m ∧
        (errA f = 0 → ∃ a : Nat, a ≤ 168 ∧ (actV f).pa = (a : Int) ∧ x.extract a (a + 24) = f.extract a (a + 24)) := by
  obtain ⟨E, g, j, hw⟩ := way ho
  have hl := way_len hw
  have hE : E.length ≤ 1 := by
    rcases hw.er with ⟨e, _⟩ | ⟨H, _, e, _⟩
    · rw [e]; simp
    · rw [e]; simp
  have hact : errA f = 0 → actO f = some (actV f) := fun h => by
    rcases three f with ⟨_, _, _, h1, _⟩ | ⟨_, _, _, h1, _⟩ | ⟨_, h1, _⟩
    · omega
    · omega
    · exact h1
  refine ⟨by omega, by omega, hw.sf, fun n hn => ?_, j, hw.hj, fun n hn hn6 => ?_, fun x hx => ?_⟩
  · obtain ⟨h1, h2⟩ := way_step hw n hn 96 (by omega) (by omega)
    refine ⟨h1, ?_⟩
    rcases h2 with ⟨rfl, H, hH, e1, e2, hne, he, _⟩ | ⟨k, hk, rfl, e1, _⟩
    · refine .inr ⟨e1, rfl, by omega, by rw [e2]; omega, fun ha => ?_⟩
      rw [e2]
      have : homeI f = (actV f).pa / 96 := rfl
      omega
    · exact .inl ⟨e1, by omega⟩
  · obtain rfl : n = E.length + 0 := by omega
    rw [way_get hw 0 hn]
    show ((24 * j : Nat) : Int) + 4 * ((0 : Nat) : Int) = _
    omega
  · obtain ⟨hp, hs, _⟩ := way_end hw
    rw [← hx] at hp hs
    have hsf := hw.sf
    have hsx := hp.sy
    have hj := hw.hj
    refine ⟨hsx, ?_, hs, fun ha => ?_⟩
    · have h : x.extract 192 (192 + 576) = f.extract 192 (192 + 576) := ext_eq fun i h1 h2 => by
        rw [hp.out i (by omega)]
        exact hw.out i h1
      rw [hsx, hsf]
      exact h
    · have h1 := hact ha
      obtain ⟨i, hi, hk, e⟩ := (scan_iff hsf).1 (act_mem h1)
      obtain ⟨h2, h3⟩ := hw.old _ i h1 hk e
      refine ⟨24 * i, by omega, by rw [e]; show 24 * (i : Int) = _; omega, ?_⟩
      have h4 : slotS x i = slotS f i := by rw [part_other hp i h3]; exact h2
      exact h4
set_option maxRecDepth 100000 in
set_option maxHeartbeats 8000000 in
theorem walk (a0 : ByteArray) (a1_0 : Int) (a1_1 : Int) (a1_2 : Int) (a1_3 : Int) (w0 : a0.size ≤ maxLen) (w1_0 : (Lit.int .i64 a1_0).wf = true) (w1_1 : (Lit.int .i64 a1_1).wf = true) (w1_2 : (Lit.int .i64 a1_2).wf = true) (w1_3 : (Lit.int .i64 a1_3).wf = true) (w : World) :
    Calls Try.prog 6 #[.string a0, .agg #[.int .i64 a1_0, .int .i64 a1_1, .int .i64 a1_2, .int .i64 a1_3]] w fun e w' => e = .returned (.bool true) ∧ Below w.heap.size w w' := by
  have hB := (Below.refl w.heap.size w).alloc (Nat.le_refl _) (.cells #[.int .i64 a1_0, .int .i64 a1_1, .int .i64 a1_2, .int .i64 a1_3] 23)
  have hR := boxM w (.int .i64 a1_0) (.int .i64 a1_1) (.int .i64 a1_2) (.int .i64 a1_3) 23
  have C1 := hide (fun w => refActive_any a0 w)
  cases ho : appOk a0 a1_0 a1_1 a1_2 a1_3 with
  | false =>
    have C2 := hide (fun w => append_no a0 a1_0 a1_1 a1_2 a1_3 w ho)
    generalize actV a0 = P at *
    generalize errA a0 = EA at *
    clear ho
    go_enter Try.func6, Try.ntmps6
    go_wp2_with (go_at_call 15; refine (awake_any _).mono ?_; rintro e w1 ⟨rfl, hb⟩; replace hB := thenB hB hb; replace hR := boxB hR hb; clear hb)
    refine (C1.out _).mono ?_; rintro e w2 ⟨rfl, hb⟩; replace hB := thenB hB hb; replace hR := boxB hR hb; clear hb
    have hal := (Below.refl w2.heap.size w2).alloc (Nat.le_refl _) (.cells #[.int .i64 P.pa, .int .i64 P.pq, .int .i64 P.pt, .int .i64 P.pz, .int .i64 P.pm] 40)
    replace hB := thenB hB hal; replace hR := boxB hR hal; clear hal
    go_wp2_with fail
    generalize w2.alloc (.cells #[.int .i64 P.pa, .int .i64 P.pq, .int .i64 P.pt, .int .i64 P.pz, .int .i64 P.pm] 40) = W2 at *
    generalize w2.heap.size = B2 at *
    refine (C2.out _).mono ?_; rintro e w3 ⟨rfl, hb⟩; replace hB := thenB hB hb; clear hb hR
    go_wp2_with (go_at_call 12; refine (numJ_any _ _).mono ?_; rintro e w' ⟨rfl, rfl⟩)
    go_ret
    exact ⟨rfl, hB⟩
  | true =>
    obtain ⟨n6, n7, hsf, hD, j, hj, hA, hZ⟩ := home_all ho
    have HD := hide hD
    have HA := hide hA
    have HZ := hide hZ
    have HF := hide hsf
    have C2 := hide (fun w => append_any a0 a1_0 a1_1 a1_2 a1_3 w)
    rw [ho] at C2
    have C3 := hide (fun w => refPut_any a1_0 a1_1 a1_2 a1_3 w)
    rw [(imgOk_parts.1 ho).2] at C3
    have e0 : errP true = 0 := rfl
    have e1 : errO true = 0 := rfl
    have e2 : errE true = 0 := rfl
    obtain ⟨hp0, hp1⟩ := act_pa a0
    clear hD hA hZ hsf ho
    generalize putS a1_0 a1_1 a1_2 a1_3 = S at *
    generalize appL a0 a1_0 a1_1 a1_2 a1_3 = L at *
    generalize actV a0 = P at *
    generalize errA a0 = EA at *
    obtain ⟨N, hN⟩ : ∃ N : Nat, N = L.length := ⟨_, rfl⟩
    rw [← hN] at n6 n7 C2
    have HN := hide hN
    have z2 : decide ((N : Int) < 6) = false := decide_eq_false (by omega)
    have z3 : decide ((7 : Int) < (N : Int)) = false := decide_eq_false (by omega)
    have h0 : 0 < L.length := by omega
    clear hN
    by_cases hEA : EA = 0
    · subst hEA
      go_enter Try.func6, Try.ntmps6
      go_wp2_with (go_at_call 15; refine (awake_any _).mono ?_; rintro e w1 ⟨rfl, hb⟩; replace hB := thenB hB hb; replace hR := boxB hR hb; clear hb)
      refine (C1.out _).mono ?_; rintro e w2 ⟨rfl, hb⟩; replace hB := thenB hB hb; replace hR := boxB hR hb; clear hb
      have hal := (Below.refl w2.heap.size w2).alloc (Nat.le_refl _) (.cells #[.int .i64 P.pa, .int .i64 P.pq, .int .i64 P.pt, .int .i64 P.pz, .int .i64 P.pm] 40)
      have hX := box5M w2 (.int .i64 P.pa) (.int .i64 P.pq) (.int .i64 P.pt) (.int .i64 P.pz) (.int .i64 P.pm) 40
      replace hB := thenB hB hal; replace hR := boxB hR hal; clear hal
      go_wp2_with fail
      generalize w2.alloc (.cells #[.int .i64 P.pa, .int .i64 P.pq, .int .i64 P.pt, .int .i64 P.pz, .int .i64 P.pm] 40) = W2 at *
      generalize w2.heap.size = B2 at *
      refine (C2.out _).mono ?_; rintro e w3 ⟨v, rfl, hown, hb⟩; replace hB := thenB hB hb; replace hR := boxB hR hb; replace hX := box5B hX hb; clear hb
      obtain ⟨g, cap, rfl, u1, u2⟩ := hown.form (by omega)
      obtain ⟨u3, hg, hin⟩ := OpsRow.owns_in hown
      clear hown u1 u2 u3 C1 C2
      have HI := hide hin
      have HB := hide hB
      have HX := hide hX
      have HR := hide hR
      have c0 := hin.er 0 h0
      clear hin hB hX hR
      have hw0 : L[0].er = decide (N = 7) := by
        rcases (HD.out 0 h0).2 with ⟨h1, h2⟩ | ⟨h1, _, h2, _⟩
        · rw [h1]; exact (decide_eq_false (fun h => h2 ⟨by rw [← HN.out]; exact h, rfl⟩)).symm
        · rw [h1]; exact (decide_eq_true (by rw [HN.out]; exact h2)).symm
      rw [hw0] at c0
      clear hw0
      obtain rfl | rfl : N = 6 ∨ N = 7 := by omega
      · go_wp2_with (go_at_call 12; refine (numJ_any _ _).mono ?_; rintro e w' ⟨rfl, rfl⟩)
        clear c0
        go_loopw [9, 10] (fun x y wr => ∃ (n : Nat) (F : ByteArray), n ≤ 6 ∧ x = .string F ∧ y = .int .i64 n ∧ Hid (F = doL a0 (L.take n)) ∧ Below w'.heap.size w' wr) (fun _ y _ => 6 - (intOf y).toNat)
        case atStart => exact ⟨0, _, Nat.zero_le _, rfl, rfl, rfl, Below.refl _ _⟩
        case round =>
          obtain ⟨n, F, hn, rfl, rfl, HF2, hbel⟩ := hrel
          by_cases hlt : n < 6
          · have hlt2 : n < L.length := by rw [← HN.out]; omega
            obtain ⟨k1, k2⟩ := HD.out n hlt2
            rw [← HF2.out] at k1
            have HX2 : Hid (cutS F L[n].er L[n].pl L[n].tx 96 = doL a0 (L.take (n + 1))) := by show _ = _; rw [doL_take _ _ n hlt2, ← HF2.out]
            have CD := hide (fun w => OpsRef.refDo_any F L[n].er L[n].pl L[n].tx w)
            rw [k1] at CD
            clear k1 HF2
            generalize cutS F L[n].er L[n].pl L[n].tx 96 = F2 at *
            have hin1 := HI.out.below hbel hg
            have c0 := hin1.er n hlt2
            have c1 := hin1.pl n hlt2
            have hX' := box5B HX.out hbel
            unfold Box5 at hX'
            clear hin1
            rcases k2 with ⟨k2, k3⟩ | ⟨k2, k3, k4, k5, k6⟩
            · rw [k2] at c0
              clear k2 k3
              go_wp2
              go_quiet (fail)
              have hbel2 := bel_drewN hbel nq
              generalize wr.drewN nq = W at *
              have hin2 := HI.out.below hbel2 hg
              have d0 := hin2.er n hlt2
              have d1 := hin2.pl n hlt2
              have d2 := hin2.tx n hlt2
              clear hin2 c0 c1 hbel
              go_wp2_with (go_at_call 19; refine (CD.out _).mono ?_; rintro e w6 ⟨rfl, hb⟩)
              exact ⟨⟨n + 1, F2, by omega, rfl, by go_num, HX2, thenB hbel2 hb⟩, by simp [intOf]; omega⟩
            · exfalso; have := HN.out; omega
          · obtain rfl : n = 6 := by omega
            have hF : F = doL a0 L := by rw [HF2.out, List.take_of_length_le (by rw [← HN.out]; omega)]
            obtain ⟨f1, f2, f3, f4⟩ := HZ.out F hF
            have fs := HF.out
            have hlt2 : 0 < L.length := by rw [← HN.out]; omega
            have hin1 := HI.out.below hbel hg
            have c1 := hin1.pl 0 hlt2
            rw [HA.out 0 hlt2 (by rw [← HN.out])] at c1
            have HB2 := hide (thenB HB.out hbel)
            have HX2 := hide (box5B HX.out hbel)
            have hR := boxB HR.out hbel
            obtain ⟨p, hp⟩ : ∃ p : Nat, p = 24 * j := ⟨_, rfl⟩
            obtain ⟨r, hr⟩ : ∃ r : Nat, r = p + 24 := ⟨_, rfl⟩
            rw [← hp] at c1 f3
            rw [← hr] at f3
            have hw : IntKind.i64.wrap ((p : Int) + 24) = (r : Int) := by rw [IntKind.wrap_i64]; omega
            have hp9 : p ≤ 168 := by omega
            have s1 : 192 ≤ F.size := by omega
            have s2 : 192 ≤ a0.size := by omega
            have s3 : r ≤ F.size := by omega
            have s5 : p ≤ r := by omega
            have s4 : ((F.size : Int) != (a0.size : Int)) = false := by rw [bne_eq_false_iff_eq]; omega
            have t1 : F.size ≤ 768 := by omega
            have t5 : decide ((168 : Int) < (p : Int)) = false := decide_eq_false (by omega)
            have t6 : decide ((p : Int) < 0) = false := decide_eq_false (by omega)
            have t3 : (192 : Int) ≤ (F.size : Int) := by omega
            have t4 : (192 : Int) ≤ (a0.size : Int) := by omega
            have t2 : a0.size ≤ 768 := by omega
            obtain ⟨a, ha1, ha2, ha3⟩ := f4 (by trivial)
            obtain ⟨b, hb9⟩ : ∃ b : Nat, b = a + 24 := ⟨_, rfl⟩
            rw [← hb9] at ha3
            rw [ha2] at HX2
            have hw2 : IntKind.i64.wrap ((a : Int) + 24) = (b : Int) := by rw [IntKind.wrap_i64]; omega
            have s6 : b ≤ F.size := by omega
            have s7 : b ≤ a0.size := by omega
            have s8 : a ≤ b := by omega
            clear ha2 hb9 f4 hp0 hp1
            clear hF f1 fs hr hp HF2 hin1 hbel hlt hn HD HZ HA HI HN HF hlt2 hg
            go_wp2_with fail
            refine (C3.out _).mono ?_; rintro e w8 ⟨rfl, hb⟩
            replace HB2 := hide (thenB HB2.out hb)
            have hX' := box5B HX2.out hb
            unfold Box5 at hX'
            clear hb hR HX2 c1
            go_wp2_with fail
            go_quiet (fail)
            go_wp2
            go_quiet (fail)
            go_wp2
            go_ret
            exact ⟨rfl, bel_drewN (bel_drewN HB2.out _) _⟩
      · go_wp2_with (go_at_call 12; refine (numJ_any _ _).mono ?_; rintro e w' ⟨rfl, rfl⟩)
        clear c0
        go_loopw [9, 10] (fun x y wr => ∃ (n : Nat) (F : ByteArray), n ≤ 7 ∧ x = .string F ∧ y = .int .i64 n ∧ Hid (F = doL a0 (L.take n)) ∧ Below w'.heap.size w' wr) (fun _ y _ => 7 - (intOf y).toNat)
        case atStart => exact ⟨0, _, Nat.zero_le _, rfl, rfl, rfl, Below.refl _ _⟩
        case round =>
          obtain ⟨n, F, hn, rfl, rfl, HF2, hbel⟩ := hrel
          by_cases hlt : n < 7
          · have hlt2 : n < L.length := by rw [← HN.out]; omega
            obtain ⟨k1, k2⟩ := HD.out n hlt2
            rw [← HF2.out] at k1
            have HX2 : Hid (cutS F L[n].er L[n].pl L[n].tx 96 = doL a0 (L.take (n + 1))) := by show _ = _; rw [doL_take _ _ n hlt2, ← HF2.out]
            have CD := hide (fun w => OpsRef.refDo_any F L[n].er L[n].pl L[n].tx w)
            rw [k1] at CD
            clear k1 HF2
            generalize cutS F L[n].er L[n].pl L[n].tx 96 = F2 at *
            have hin1 := HI.out.below hbel hg
            have c0 := hin1.er n hlt2
            have c1 := hin1.pl n hlt2
            have hX' := box5B HX.out hbel
            unfold Box5 at hX'
            clear hin1
            rcases k2 with ⟨k2, k3⟩ | ⟨k2, k3, k4, k5, k6⟩
            · rw [k2] at c0
              clear k2 k3
              go_wp2
              go_quiet (fail)
              have hbel2 := bel_drewN hbel nq
              generalize wr.drewN nq = W at *
              have hin2 := HI.out.below hbel2 hg
              have d0 := hin2.er n hlt2
              have d1 := hin2.pl n hlt2
              have d2 := hin2.tx n hlt2
              clear hin2 c0 c1 hbel
              go_wp2_with (go_at_call 19; refine (CD.out _).mono ?_; rintro e w6 ⟨rfl, hb⟩)
              exact ⟨⟨n + 1, F2, by omega, rfl, by go_num, HX2, thenB hbel2 hb⟩, by simp [intOf]; omega⟩
            · subst k3
              rw [k2] at c0
              have hq := k6 (by trivial)
              rcases k5 with k5 | k5
              · rw [k5] at c1 hq
                have hq2 : ¬ (0 : Int) = P.pa / 96 := by omega
                clear hq k5 k6 k4 k2
                go_wp2
                go_quiet (fail)
                have hbel2 := bel_drewN hbel nq
                generalize wr.drewN nq = W at *
                have hin2 := HI.out.below hbel2 hg
                have d0 := hin2.er 0 hlt2
                have d1 := hin2.pl 0 hlt2
                have d2 := hin2.tx 0 hlt2
                clear hin2 c0 c1 hbel
                go_wp2_with (go_at_call 19; refine (CD.out _).mono ?_; rintro e w6 ⟨rfl, hb⟩)
                exact ⟨⟨0 + 1, F2, by omega, rfl, by go_num, HX2, thenB hbel2 hb⟩, by simp [intOf]⟩
              · rw [k5] at c1 hq
                have hq2 : ¬ (1 : Int) = P.pa / 96 := by omega
                clear hq k5 k6 k4 k2
                go_wp2
                go_quiet (fail)
                have hbel2 := bel_drewN hbel nq
                generalize wr.drewN nq = W at *
                have hin2 := HI.out.below hbel2 hg
                have d0 := hin2.er 0 hlt2
                have d1 := hin2.pl 0 hlt2
                have d2 := hin2.tx 0 hlt2
                clear hin2 c0 c1 hbel
                go_wp2_with (go_at_call 19; refine (CD.out _).mono ?_; rintro e w6 ⟨rfl, hb⟩)
                exact ⟨⟨0 + 1, F2, by omega, rfl, by go_num, HX2, thenB hbel2 hb⟩, by simp [intOf]⟩
          · obtain rfl : n = 7 := by omega
            have hF : F = doL a0 L := by rw [HF2.out, List.take_of_length_le (by rw [← HN.out]; omega)]
            obtain ⟨f1, f2, f3, f4⟩ := HZ.out F hF
            have fs := HF.out
            have hlt2 : 1 < L.length := by rw [← HN.out]; omega
            have hin1 := HI.out.below hbel hg
            have c1 := hin1.pl 1 hlt2
            rw [HA.out 1 hlt2 (by rw [← HN.out])] at c1
            have HB2 := hide (thenB HB.out hbel)
            have HX2 := hide (box5B HX.out hbel)
            have hR := boxB HR.out hbel
            obtain ⟨p, hp⟩ : ∃ p : Nat, p = 24 * j := ⟨_, rfl⟩
            obtain ⟨r, hr⟩ : ∃ r : Nat, r = p + 24 := ⟨_, rfl⟩
            rw [← hp] at c1 f3
            rw [← hr] at f3
            have hw : IntKind.i64.wrap ((p : Int) + 24) = (r : Int) := by rw [IntKind.wrap_i64]; omega
            have hp9 : p ≤ 168 := by omega
            have s1 : 192 ≤ F.size := by omega
            have s2 : 192 ≤ a0.size := by omega
            have s3 : r ≤ F.size := by omega
            have s5 : p ≤ r := by omega
            have s4 : ((F.size : Int) != (a0.size : Int)) = false := by rw [bne_eq_false_iff_eq]; omega
            have t1 : F.size ≤ 768 := by omega
            have t5 : decide ((168 : Int) < (p : Int)) = false := decide_eq_false (by omega)
            have t6 : decide ((p : Int) < 0) = false := decide_eq_false (by omega)
            have t3 : (192 : Int) ≤ (F.size : Int) := by omega
            have t4 : (192 : Int) ≤ (a0.size : Int) := by omega
            have t2 : a0.size ≤ 768 := by omega
            obtain ⟨a, ha1, ha2, ha3⟩ := f4 (by trivial)
            obtain ⟨b, hb9⟩ : ∃ b : Nat, b = a + 24 := ⟨_, rfl⟩
            rw [← hb9] at ha3
            rw [ha2] at HX2
            have hw2 : IntKind.i64.wrap ((a : Int) + 24) = (b : Int) := by rw [IntKind.wrap_i64]; omega
            have s6 : b ≤ F.size := by omega
            have s7 : b ≤ a0.size := by omega
            have s8 : a ≤ b := by omega
            clear ha2 hb9 f4 hp0 hp1
            clear hF f1 fs hr hp HF2 hin1 hbel hlt hn HD HZ HA HI HN HF hlt2 hg
            go_wp2_with fail
            refine (C3.out _).mono ?_; rintro e w8 ⟨rfl, hb⟩
            replace HB2 := hide (thenB HB2.out hb)
            have hX' := box5B HX2.out hb
            unfold Box5 at hX'
            clear hb hR HX2 c1
            go_wp2_with fail
            go_quiet (fail)
            go_wp2
            go_quiet (fail)
            go_wp2
            go_ret
            exact ⟨rfl, bel_drewN (bel_drewN HB2.out _) _⟩
    · have g1 : (EA == 0) = false := by rw [beq_eq_false_iff_ne]; exact hEA
      have g2 : (EA != 0) = true := by rw [bne_iff_ne]; exact hEA
      have g3 : decide (EA = 0) = false := decide_eq_false hEA
      clear hEA
      go_enter Try.func6, Try.ntmps6
      go_wp2_with (go_at_call 15; refine (awake_any _).mono ?_; rintro e w1 ⟨rfl, hb⟩; replace hB := thenB hB hb; replace hR := boxB hR hb; clear hb)
      refine (C1.out _).mono ?_; rintro e w2 ⟨rfl, hb⟩; replace hB := thenB hB hb; replace hR := boxB hR hb; clear hb
      have hal := (Below.refl w2.heap.size w2).alloc (Nat.le_refl _) (.cells #[.int .i64 P.pa, .int .i64 P.pq, .int .i64 P.pt, .int .i64 P.pz, .int .i64 P.pm] 40)
      have hX := box5M w2 (.int .i64 P.pa) (.int .i64 P.pq) (.int .i64 P.pt) (.int .i64 P.pz) (.int .i64 P.pm) 40
      replace hB := thenB hB hal; replace hR := boxB hR hal; clear hal
      go_wp2_with fail
      generalize w2.alloc (.cells #[.int .i64 P.pa, .int .i64 P.pq, .int .i64 P.pt, .int .i64 P.pz, .int .i64 P.pm] 40) = W2 at *
      generalize w2.heap.size = B2 at *
      refine (C2.out _).mono ?_; rintro e w3 ⟨v, rfl, hown, hb⟩; replace hB := thenB hB hb; replace hR := boxB hR hb; replace hX := box5B hX hb; clear hb
      obtain ⟨g, cap, rfl, u1, u2⟩ := hown.form (by omega)
      obtain ⟨u3, hg, hin⟩ := OpsRow.owns_in hown
      clear hown u1 u2 u3 C1 C2
      have HI := hide hin
      have HB := hide hB
      have HX := hide hX
      have HR := hide hR
      have c0 := hin.er 0 h0
      clear hin hB hX hR
      have hw0 : L[0].er = decide (N = 7) := by
        rcases (HD.out 0 h0).2 with ⟨h1, h2⟩ | ⟨h1, _, h2, _⟩
        · rw [h1]; exact (decide_eq_false (fun h => h2 ⟨by rw [← HN.out]; exact h, rfl⟩)).symm
        · rw [h1]; exact (decide_eq_true (by rw [HN.out]; exact h2)).symm
      rw [hw0] at c0
      clear hw0
      obtain rfl | rfl : N = 6 ∨ N = 7 := by omega
      · go_wp2_with (go_at_call 12; refine (numJ_any _ _).mono ?_; rintro e w' ⟨rfl, rfl⟩)
        clear c0
        go_loopw [9, 10] (fun x y wr => ∃ (n : Nat) (F : ByteArray), n ≤ 6 ∧ x = .string F ∧ y = .int .i64 n ∧ Hid (F = doL a0 (L.take n)) ∧ Below w'.heap.size w' wr) (fun _ y _ => 6 - (intOf y).toNat)
        case atStart => exact ⟨0, _, Nat.zero_le _, rfl, rfl, rfl, Below.refl _ _⟩
        case round =>
          obtain ⟨n, F, hn, rfl, rfl, HF2, hbel⟩ := hrel
          by_cases hlt : n < 6
          · have hlt2 : n < L.length := by rw [← HN.out]; omega
            obtain ⟨k1, k2⟩ := HD.out n hlt2
            rw [← HF2.out] at k1
            have HX2 : Hid (cutS F L[n].er L[n].pl L[n].tx 96 = doL a0 (L.take (n + 1))) := by show _ = _; rw [doL_take _ _ n hlt2, ← HF2.out]
            have CD := hide (fun w => OpsRef.refDo_any F L[n].er L[n].pl L[n].tx w)
            rw [k1] at CD
            clear k1 HF2
            generalize cutS F L[n].er L[n].pl L[n].tx 96 = F2 at *
            have hin1 := HI.out.below hbel hg
            have c0 := hin1.er n hlt2
            have c1 := hin1.pl n hlt2
            have hX' := box5B HX.out hbel
            unfold Box5 at hX'
            clear hin1
            rcases k2 with ⟨k2, k3⟩ | ⟨k2, k3, k4, k5, k6⟩
            · rw [k2] at c0
              clear k2 k3
              go_wp2
              go_quiet (fail)
              have hbel2 := bel_drewN hbel nq
              generalize wr.drewN nq = W at *
              have hin2 := HI.out.below hbel2 hg
              have d0 := hin2.er n hlt2
              have d1 := hin2.pl n hlt2
              have d2 := hin2.tx n hlt2
              clear hin2 c0 c1 hbel
              go_wp2_with (go_at_call 19; refine (CD.out _).mono ?_; rintro e w6 ⟨rfl, hb⟩)
              exact ⟨⟨n + 1, F2, by omega, rfl, by go_num, HX2, thenB hbel2 hb⟩, by simp [intOf]; omega⟩
            · exfalso; have := HN.out; omega
          · obtain rfl : n = 6 := by omega
            have hF : F = doL a0 L := by rw [HF2.out, List.take_of_length_le (by rw [← HN.out]; omega)]
            obtain ⟨f1, f2, f3, f4⟩ := HZ.out F hF
            have fs := HF.out
            have hlt2 : 0 < L.length := by rw [← HN.out]; omega
            have hin1 := HI.out.below hbel hg
            have c1 := hin1.pl 0 hlt2
            rw [HA.out 0 hlt2 (by rw [← HN.out])] at c1
            have HB2 := hide (thenB HB.out hbel)
            have HX2 := hide (box5B HX.out hbel)
            have hR := boxB HR.out hbel
            obtain ⟨p, hp⟩ : ∃ p : Nat, p = 24 * j := ⟨_, rfl⟩
            obtain ⟨r, hr⟩ : ∃ r : Nat, r = p + 24 := ⟨_, rfl⟩
            rw [← hp] at c1 f3
            rw [← hr] at f3
            have hw : IntKind.i64.wrap ((p : Int) + 24) = (r : Int) := by rw [IntKind.wrap_i64]; omega
            have hp9 : p ≤ 168 := by omega
            have s1 : 192 ≤ F.size := by omega
            have s2 : 192 ≤ a0.size := by omega
            have s3 : r ≤ F.size := by omega
            have s5 : p ≤ r := by omega
            have s4 : ((F.size : Int) != (a0.size : Int)) = false := by rw [bne_eq_false_iff_eq]; omega
            have t1 : F.size ≤ 768 := by omega
            have t5 : decide ((168 : Int) < (p : Int)) = false := decide_eq_false (by omega)
            have t6 : decide ((p : Int) < 0) = false := decide_eq_false (by omega)
            have t3 : (192 : Int) ≤ (F.size : Int) := by omega
            have t4 : (192 : Int) ≤ (a0.size : Int) := by omega
            have t2 : a0.size ≤ 768 := by omega
            clear f4
            clear hF f1 fs hr hp HF2 hin1 hbel hlt hn HD HZ HA HI HN HF hlt2 hg
            go_wp2_with fail
            refine (C3.out _).mono ?_; rintro e w8 ⟨rfl, hb⟩
            replace HB2 := hide (thenB HB2.out hb)
            have hX' := box5B HX2.out hb
            unfold Box5 at hX'
            clear hb hR HX2 c1
            go_wp2_with fail
            go_quiet (fail)
            go_wp2
            go_quiet (fail)
            go_wp2
            go_ret
            exact ⟨rfl, bel_drewN (bel_drewN HB2.out _) _⟩
      · go_wp2_with (go_at_call 12; refine (numJ_any _ _).mono ?_; rintro e w' ⟨rfl, rfl⟩)
        clear c0
        go_loopw [9, 10] (fun x y wr => ∃ (n : Nat) (F : ByteArray), n ≤ 7 ∧ x = .string F ∧ y = .int .i64 n ∧ Hid (F = doL a0 (L.take n)) ∧ Below w'.heap.size w' wr) (fun _ y _ => 7 - (intOf y).toNat)
        case atStart => exact ⟨0, _, Nat.zero_le _, rfl, rfl, rfl, Below.refl _ _⟩
        case round =>
          obtain ⟨n, F, hn, rfl, rfl, HF2, hbel⟩ := hrel
          by_cases hlt : n < 7
          · have hlt2 : n < L.length := by rw [← HN.out]; omega
            obtain ⟨k1, k2⟩ := HD.out n hlt2
            rw [← HF2.out] at k1
            have HX2 : Hid (cutS F L[n].er L[n].pl L[n].tx 96 = doL a0 (L.take (n + 1))) := by show _ = _; rw [doL_take _ _ n hlt2, ← HF2.out]
            have CD := hide (fun w => OpsRef.refDo_any F L[n].er L[n].pl L[n].tx w)
            rw [k1] at CD
            clear k1 HF2
            generalize cutS F L[n].er L[n].pl L[n].tx 96 = F2 at *
            have hin1 := HI.out.below hbel hg
            have c0 := hin1.er n hlt2
            have c1 := hin1.pl n hlt2
            have hX' := box5B HX.out hbel
            unfold Box5 at hX'
            clear hin1
            rcases k2 with ⟨k2, k3⟩ | ⟨k2, k3, k4, k5, k6⟩
            · rw [k2] at c0
              clear k2 k3
              go_wp2
              go_quiet (fail)
              have hbel2 := bel_drewN hbel nq
              generalize wr.drewN nq = W at *
              have hin2 := HI.out.below hbel2 hg
              have d0 := hin2.er n hlt2
              have d1 := hin2.pl n hlt2
              have d2 := hin2.tx n hlt2
              clear hin2 c0 c1 hbel
              go_wp2_with (go_at_call 19; refine (CD.out _).mono ?_; rintro e w6 ⟨rfl, hb⟩)
              exact ⟨⟨n + 1, F2, by omega, rfl, by go_num, HX2, thenB hbel2 hb⟩, by simp [intOf]; omega⟩
            · subst k3
              rw [k2] at c0
              rcases k5 with k5 | k5
              · rw [k5] at c1
                clear k5 k6 k4 k2
                go_wp2
                go_quiet (fail)
                have hbel2 := bel_drewN hbel nq
                generalize wr.drewN nq = W at *
                have hin2 := HI.out.below hbel2 hg
                have d0 := hin2.er 0 hlt2
                have d1 := hin2.pl 0 hlt2
                have d2 := hin2.tx 0 hlt2
                clear hin2 c0 c1 hbel
                go_wp2_with (go_at_call 19; refine (CD.out _).mono ?_; rintro e w6 ⟨rfl, hb⟩)
                exact ⟨⟨0 + 1, F2, by omega, rfl, by go_num, HX2, thenB hbel2 hb⟩, by simp [intOf]⟩
              · rw [k5] at c1
                clear k5 k6 k4 k2
                go_wp2
                go_quiet (fail)
                have hbel2 := bel_drewN hbel nq
                generalize wr.drewN nq = W at *
                have hin2 := HI.out.below hbel2 hg
                have d0 := hin2.er 0 hlt2
                have d1 := hin2.pl 0 hlt2
                have d2 := hin2.tx 0 hlt2
                clear hin2 c0 c1 hbel
                go_wp2_with (go_at_call 19; refine (CD.out _).mono ?_; rintro e w6 ⟨rfl, hb⟩)
                exact ⟨⟨0 + 1, F2, by omega, rfl, by go_num, HX2, thenB hbel2 hb⟩, by simp [intOf]⟩
          · obtain rfl : n = 7 := by omega
            have hF : F = doL a0 L := by rw [HF2.out, List.take_of_length_le (by rw [← HN.out]; omega)]
            obtain ⟨f1, f2, f3, f4⟩ := HZ.out F hF
            have fs := HF.out
            have hlt2 : 1 < L.length := by rw [← HN.out]; omega
            have hin1 := HI.out.below hbel hg
            have c1 := hin1.pl 1 hlt2
            rw [HA.out 1 hlt2 (by rw [← HN.out])] at c1
            have HB2 := hide (thenB HB.out hbel)
            have HX2 := hide (box5B HX.out hbel)
            have hR := boxB HR.out hbel
            obtain ⟨p, hp⟩ : ∃ p : Nat, p = 24 * j := ⟨_, rfl⟩
            obtain ⟨r, hr⟩ : ∃ r : Nat, r = p + 24 := ⟨_, rfl⟩
            rw [← hp] at c1 f3
            rw [← hr] at f3
            have hw : IntKind.i64.wrap ((p : Int) + 24) = (r : Int) := by rw [IntKind.wrap_i64]; omega
            have hp9 : p ≤ 168 := by omega
            have s1 : 192 ≤ F.size := by omega
            have s2 : 192 ≤ a0.size := by omega
            have s3 : r ≤ F.size := by omega
            have s5 : p ≤ r := by omega
            have s4 : ((F.size : Int) != (a0.size : Int)) = false := by rw [bne_eq_false_iff_eq]; omega
            have t1 : F.size ≤ 768 := by omega
            have t5 : decide ((168 : Int) < (p : Int)) = false := decide_eq_false (by omega)
            have t6 : decide ((p : Int) < 0) = false := decide_eq_false (by omega)
            have t3 : (192 : Int) ≤ (F.size : Int) := by omega
            have t4 : (192 : Int) ≤ (a0.size : Int) := by omega
            have t2 : a0.size ≤ 768 := by omega
            clear f4
            clear hF f1 fs hr hp HF2 hin1 hbel hlt hn HD HZ HA HI HN HF hlt2 hg
            go_wp2_with fail
            refine (C3.out _).mono ?_; rintro e w8 ⟨rfl, hb⟩
            replace HB2 := hide (thenB HB2.out hb)
            have hX' := box5B HX2.out hb
            unfold Box5 at hX'
            clear hb hR HX2 c1
            go_wp2_with fail
            go_quiet (fail)
            go_wp2
            go_quiet (fail)
            go_wp2
            go_ret
            exact ⟨rfl, bel_drewN (bel_drewN HB2.out _) _⟩

set_option maxRecDepth 100000 in
theorem lifted (os : Os) (started : os.Started) (H : Type) (enc : TypeId × Value → H) :
    ReturnsInHanded {} Try.checked os 6 .any (Rows.placeHomeSpec.pre6 enc Try.prog Try.f6 Rows.placeHomeRow.domain false) (Rows.placeHomeSpec.post enc Try.prog Try.f6 false true false false) := by
  refine returnsInHanded_of_change (C := Try.checked) own started (by kernel_rfl) Try.func6
    (ChangeSpec.witness6 (enc := enc) (C := Try.checked) false ⟨#[], #[.string ByteArray.empty, .agg #[.int .i64 0, .int .i64 0, .int .i64 0, .int .i64 0]], []⟩ 8 (by kernel_rfl) (by kernel_rfl) (by kernel_rfl) (by kernel_rfl)) ?_
  intro W base args ds gs before hval0 hW hcnd _
  have hval : ∀ (j : Nat) t v, Try.f6.params[j]? = some t → args[j]? = some v → Value.okWide Try.prog W .any base t v := hval0
  have hW' := hW
  obtain ⟨p, q, hA0, hV, rfl, hfz, hnd⟩ := hW
  have hA : DataW.TrodAll enc Try.prog W 0 (fun _ => true) true Try.f6.params.toList args.toList ds p := hA0
  rw [Try.params6] at hA hval
  obtain ⟨v0, vs0, d0, ds0, p0, q0, hargs, rfl, rfl, h0, r0⟩ := trodAll_cons hA
  obtain ⟨v1, vs1, d1, ds1, p1, q1, rfl, rfl, rfl, h1, r1⟩ := trodAll_cons r0
  obtain ⟨rfl, rfl, rfl⟩ := trodAll_nil r1
  obtain rfl : args = #[v0, v1] := by cases args; simp_all
  obtain ⟨rfl, rfl⟩ := trodVars_none hV
  obtain ⟨a0, rfl, rfl, rfl, w0⟩ := open_string Try.underlying9 (hval 0 9 v0 rfl rfl) h0
  have k1 := h1
  have lt1 : ∀ x ∈ p1, x.block < W.heap.size := by obtain ⟨m, hm⟩ := k1; exact DataW.trod_lt m _ _ _ hm
  obtain ⟨a1_0, a1_1, a1_2, a1_3, rfl, w1_0, w1_1, w1_2, w1_3⟩ := open23 (hval 1 23 v1 rfl rfl) h1
  clear hA0 hval0
  refine (walk a0 a1_0 a1_1 a1_2 a1_3 w0 w1_0 w1_1 w1_2 w1_3 W).mono fun e W' ⟨he, bel⟩ => ?_
  subst he
  exact ⟨_, rfl, _, _, _, [], _, [], hW', (trodAll_cons_mk (shut_bool Try.underlying4 _) trodAll_mk0), (trodAll_cons_mk (shut_string Try.underlying9 w0) (trodAll_cons_mk (Below.trod laidOut (by kernel_rfl) (of_decide_eq_true (by kernel_rfl)) k1 bel lt1) trodAll_mk0)), rfl, bel.frame _, fun h => by cases h⟩

theorem over : Rows.placeHomeRow.holds Try.pinned (OpenSpec.ofChange Rows.placeHomeSpec) :=
  OpenClaim.holds_of_wide 6 Try.f6 rfl rfl rfl rfl rfl rfl rfl ⟨rfl, rfl, rfl, rfl, rfl⟩ rfl rfl rfl rfl rfl (by kernel_rfl) Try.func6 (by kernel_rfl)
    (of_decide_eq_true (by kernel_rfl)) (by unfold Func.isWrapper; first | (rw [if_pos (by decide +kernel)]; kernel_rfl) | (rw [if_neg (by decide +kernel)]; exact ⟨rfl, rfl⟩))
    (fun os started H enc _ => lifted os started H enc)

theorem proved : Rows.PlaceHomeSaid :=
  over
#print axioms proved
end Go.Proofs.Ytpekhgopaakabaa.placeHome
