/- Whatever the number: the law ReplyRun returns true (a carrying without a fault, reply by reply, to its end), and the argument reads as it did; no condition. -/
import Derived.Test.YtgkmallikomnaaaRows
import Derived.Test.YtgkmallikomnaaaBagNor
import Derived.Test.YtgkmallikomnaaaBagOps
import Derived.Test.YtgkmallikomnaaaIntRow
import Derived.Test.YtgkmallikomnaaaBagTxt
import Derived.Test.YtgkmallikomnaaaBagSuf
import Derived.Test.YtgkmallikomnaaaBagHst
import Derived.Test.YtgkmallikomnaaaBagHsr
import Derived.Test.YtgkmallikomnaaaRepMath
import Derived.Test.YtgkmallikomnaaaRepFacts
import Derived.Test.YtgkmallikomnaaaRepTake
import Derived.Test.YtgkmallikomnaaaRepWalk
import Derived.Test.YtgkmallikomnaaaRepAwake
import Derived.Test.YtgkmallikomnaaaRepSet
import Derived.Test.YtgkmallikomnaaaRepRun
import Derived.Test.YtgkmallikomnaaaRepSteps
import Derived.Laws.StructEq
import Derived.Deep.Cut
import Derived.Deep.RegionHeld3
import Derived.ChangeOld
import Derived.Below
import Derived.WalkKit
import Derived.ProofKit
import Derived.OpenShut
import Derived.ShutString
namespace Go.Proofs.Ytgkmallikomnaaa.replyRun
open Go.ChangeShapes Go.WideShapes Go.ChangeAt Go.RowKit
open Go.ChangeMaps (open_string shut_string)
set_option linter.unusedVariables false

open Go.Proofs.Ytgkmallikomnaaa.Bytes
open Go.Proofs.Ytgkmallikomnaaa.Hst
open Go.Proofs.Ytgkmallikomnaaa.HstWalk
open Go.Proofs.Ytgkmallikomnaaa.HstAsk
open Go.Proofs.Ytgkmallikomnaaa.HstCarry
open Go.Proofs.Ytgkmallikomnaaa.Rep
open Go.Proofs.Ytgkmallikomnaaa.RepTake
open Go.Proofs.Ytgkmallikomnaaa.RepWalk
open Go.Proofs.Ytgkmallikomnaaa.RepAwake
open Go.Proofs.Ytgkmallikomnaaa.RepRun
open Go.Proofs.Ytgkmallikomnaaa.IntRow
open Go.Proofs.Ytgkmallikomnaaa.TxtRow
open Go.Proofs.Ytgkmallikomnaaa.Take
theorem own : ownKnob Try.prog.godebug = none := by kernel_rfl

open Go.Proofs.Ytgkmallikomnaaa.IdtWalk (num_any)
open Go.Proofs.Ytgkmallikomnaaa.BloWalk (run_min2)
open Go.Proofs.Ytgkmallikomnaaa.Ans (ansS ansB isAns aSa)
open Go.Proofs.Ytgkmallikomnaaa.Blo (nP)
open List (setIfInBounds_toArray set_cons_zero set_cons_succ)
theorem build_as (s : Int) (w : World) : (Instr.build 43 #[(2, .int .i64 s)]).run Try.prog w = .ok (.agg #[.int .i64 0, .int .i64 0, .int .i64 s]) w := run_build w 43 _ _ (by kernel_rfl)
theorem build_ast (s t : Int) (w : World) : (Instr.build 43 #[(2, .int .i64 s), (1, .int .i64 t)]).run Try.prog w = .ok (.agg #[.int .i64 0, .int .i64 t, .int .i64 s]) w := run_build w 43 _ _ (by kernel_rfl)
theorem down_ans : (isAns (ansS 0 0 3) = true ∧ aSa (ansS 0 0 3) = 3) ∧ (ansS 0 0 3).size ≤ 288 := by decide +kernel
theorem busy_ans : (isAns (ansS 0 9 2) = true ∧ aSa (ansS 0 9 2) = 2) ∧ (ansS 0 9 2).size ≤ 288 := by decide +kernel
theorem idle2_ans : (isAns (ansS 0 0 0) = true ∧ aSa (ansS 0 0 0) = 0) ∧ (ansS 0 0 0).size ≤ 288 := by decide +kernel
theorem text_small {I Z D im : ByteArray} (hI : I.size ≤ 288) (hZ : Z.size ≤ 288) (hD : D.size ≤ 288) (hm : im.size ≤ 288) (i : Nat) : (textAt I Z D im i).size ≤ 140737488355328 := by
  have h0 : (⟨#[]⟩ : ByteArray).size = 0 := rfl
  have hb : (backS im (i - (3 + 3 * nP im))).size ≤ im.size := by unfold backS; rw [ByteArray.size_extract]; omega
  unfold textAt
  repeat' split
  all_goals omega
theorem txO7 {w : World} {b o : Nat} {l : List ByteArray} (h : TxIn w b o l) {A : Nat} (hA : A ≠ b) (y0 y1 y2 y3 y4 y5 y6 : Value) : TxIn (((((((w.setCell ⟨A, 0, none⟩ y0).setCell ⟨A, 1, none⟩ y1).setCell ⟨A, 2, none⟩ y2).setCell ⟨A, 3, none⟩ y3).setCell ⟨A, 4, none⟩ y4).setCell ⟨A, 5, none⟩ y5).setCell ⟨A, 6, none⟩ y6) b o l := by
  intro i hi
  have e : ∀ (w : World) (j : Nat) (y : Value), (w.setCell ⟨A, j, none⟩ y).cell? ⟨b, o + i, none⟩ = w.cell? ⟨b, o + i, none⟩ := fun w j y => World.cell?_setCell_other w _ _ _ (fun e => by injection e; exact hA (by assumption))
  rw [e, e, e, e, e, e, e]
  exact h i hi
theorem row_form {w : World} {base n : Nat} {e : TypeId} {v : Value} {xs : List Value} (h : w.ownsRow base e 1 v n xs) (hn : 0 < n) : ∃ g cap, v = .slice (some ⟨g, 0, none⟩) n cap := by
  rcases h.2 with ⟨_, h0⟩ | ⟨g, cap, cur, h0, _⟩
  · omega
  · exact ⟨g, cap, h0⟩
set_option maxRecDepth 100000 in
set_option maxHeartbeats 8000000 in
theorem walk (a0 : Int) (w0 : (Lit.int .i64 a0).wf = true) (w : World) :
    Calls Try.prog 8 #[.int .i64 a0] w fun e w' => e = .returned (.bool true) ∧ Below w.heap.size w w' := by
  have hB := Below.refl w.heap.size w
  obtain ⟨m, hm8, hm⟩ : ∃ k : Nat, k < 288 ∧ wrap64 ((IntKind.u64.wrap a0).tmod 288) = (k : Int) := mod_u64 a0 288 (by omega) (by omega)
  obtain ⟨k, hk⟩ : ∃ k : Nat, k = m + 1 := ⟨_, rfl⟩
  have hmk : (1 : Int) + (m : Int) = (k : Int) := by omega
  have hk1 : 1 ≤ k := by omega
  have hk2 : k ≤ 288 := by omega
  clear hk hm8
  have CW := hide (fun w => awake_any w)
  have CC := hide (fun w => carrying23_any k w hk1 hk2)
  have CI := hide (fun w => ans_is (c := 0) (v := 0) (n := 0) (by decide) w)
  have CD := hide (fun w => ans_is (c := 0) (v := 0) (n := 3) (by decide) w)
  have CZ := hide (fun w => ans_is (c := 0) (v := 9) (n := 2) (by decide) w)
  have b5 := build_a0
  have b6 := build_as
  have b7 := build_ast
  obtain ⟨ii, hi, hz0, hz1, hz2⟩ := info_parts TxtHelp.info_str
  have hA : (iotaS k).size = k := size_iotaS k
  obtain ⟨hI, hIs⟩ := idle2_ans
  obtain ⟨hZ, hZs⟩ := busy_ans
  obtain ⟨hD, hDs⟩ := down_ans
  generalize iotaS k = A at *
  generalize ansS 0 0 0 = I at *
  generalize ansS 0 9 2 = Z at *
  generalize ansS 0 0 3 = D at *
  have HS := hide (fun i h (hs : Step A i h) => step_next (by omega) hI hZ hD hs)
  have hN : nP A = (k + 31) / 32 := by unfold nP; rw [hA]
  have hM : manyT A = 4 + 3 * nP A + k / 32 := by unfold manyT; rw [hA]
  have F0 := hide (show textAt I Z D A 0 = I from text_0)
  have F1 := hide (fun j (h : j < nP A) => text_1 (I := I) (Z := Z) (D := D) h)
  have F2 := hide (fun j (h : j < nP A) => text_2 (I := I) (Z := Z) (D := D) h)
  have F3 := hide (fun j (h : j < nP A) => text_3 (I := I) (Z := Z) (D := D) h)
  have F4 := hide (text_4 (I := I) (Z := Z) (D := D) (im := A))
  have F5 := hide (text_5 (I := I) (Z := Z) (D := D) (im := A))
  have F6 := hide (fun q => text_6 (I := I) (Z := Z) (D := D) (im := A) q)
  have F7 := hide (fun i => text_small (I := I) (Z := Z) (D := D) (im := A) hIs hZs hDs (by omega) i)
  have HE := hide (show endH A = ⟨7, A, 0, false, 0, ⟨#[]⟩, 1⟩ from rfl)
  have HST := hide (show Step A 0 ⟨1, A, 0, false, 0, ⟨#[]⟩, 0⟩ from .inl ⟨rfl, rfl⟩)
  have HY : hostB 7 A 0 0 ⟨#[]⟩ 1 = true := may_mk (p := 7) (b := 0) (tr := 0) (rp := 1) (im := A) (rd := ⟨#[]⟩) false (by decide) (by decide) (by omega) (by omega) (by decide) (by decide)
  have CY := hide (fun w => HstRef.refHMay_any 7 A 0 false 0 ⟨#[]⟩ 1 w)
  rw [HY] at CY
  have Hn := hide hN
  have HM := hide hM
  clear HY hI hZ hD hIs hZs hDs hN hM
  generalize nP A = N at *
  generalize textAt I Z D A = F at *
  have hN := Hn.out
  have hN9 : N ≤ 9 := by omega
  have hdiv : ((k : Int) + 31).tdiv 32 = (N : Int) := by rw [Int.tdiv_eq_ediv_of_nonneg (by omega)]; omega
  clear hN
  go_enter Try.func8, Try.ntmps8
  go_upto_region 5 with (first | (go_at_call 12; refine (CW.out _).mono ?_; rintro e1 w1 ⟨rfl, hb⟩; replace hB := thenB hB hb; clear hb) | (go_at_call 13; refine (CC.out _).mono ?_; rintro e1 w2 ⟨rfl, hb⟩; replace hB := thenB hB hb; clear hb))
  have hX := sevRM w2 (.int .i64 1) (.string A) (.int .i64 0) (.bool false) (.int .i64 0) (.string ⟨#[]⟩) (.int .i64 0) 23
  have hn := hal w2 (.cells #[.int .i64 1, .string A, .int .i64 0, .bool false, .int .i64 0, .string ⟨#[]⟩, .int .i64 0] 23)
  have hl := hB.size
  replace hB := thenB hB hn
  clear hn CW CC
  generalize w2.alloc _ = W3 at *
  generalize w2.heap.size = Q at *
  go_upto_region 6 with (go_at_call 15; refine (CI.out _).mono ?_; rintro e1 w3 ⟨rfl, hb⟩; replace hB := thenB hB hb; replace hX := sevRB hX hb; clear hb)
  go_upto_region 7 with (go_at_call 15; refine (CD.out _).mono ?_; rintro e1 w4 ⟨rfl, hb⟩; replace hB := thenB hB hb; replace hX := sevRB hX hb; clear hb)
  go_upto_region 8 with (go_at_call 15; refine (CZ.out _).mono ?_; rintro e1 w5 ⟨rfl, hb⟩; replace hB := thenB hB hb; replace hX := sevRB hX hb; clear hb)
  clear CI CD CZ b5 b6 b7
  go_upto_region 9 with fail
  have hown := World.ownsRow_lit (base := Q + 1) (e := 9) (size := 1) w5 #[.string I] 1 hX.1 (by decide) rfl
  have hn := hal w5 (.cells #[.string I] 9)
  replace hB := thenB hB hn
  replace hX := sevRB hX hn
  generalize w5.alloc _ = W5 at *
  generalize w5.heap.size = G5 at *
  clear hn
  have hrow : (#[Value.string I] : Array Value).toList = txC (rowOf F 1) := by rw [show (1 : Nat) = 0 + 1 from rfl, rowOf_1 F0.out]; rfl
  rw [hrow] at hown
  clear hrow
  go_upto_region 11 with fail
  have hGl := hX.1
  have HX5 := hide hX
  have HB5 := hide hB
  clear hX hB
  go_loopw [11, 13] (fun v x wr => ∃ j : Nat, j ≤ N ∧ x = .int .i64 (j : Int) ∧ wr.ownsRow (Q + 1) 9 1 v (1 + 3 * j) (txC (rowOf F (1 + 3 * j))) ∧ Below (Q + 1) W5 wr) (fun _ x _ => N - (intOf x).toNat)
  case atStart => exact ⟨0, Nat.zero_le _, rfl, hown, Below.refl _ _⟩
  case round =>
    clear hown
    obtain ⟨j, hj, rfl, hown, hbel⟩ := hrel
    by_cases hlt : j < N
    · have hg : decide ((j : Int) < (N : Int)) = true := decide_eq_true (by omega)
      have s1 := hbel.size
      have b1 : (1 + 3 * j) + 3 ≤ maxLen := by unfold maxLen; omega
      have b2 : ((1 + 3 * j) + 3) * 16 ≤ 140737488355328 := by omega
      have HR := hide (rowOf_3 (F1.out j hlt) (show F (1 + 3 * j + 1) = Z by rw [show 1 + 3 * j + 1 = 2 + 3 * j by omega]; exact F2.out j hlt) (show F (1 + 3 * j + 2) = D by rw [show 1 + 3 * j + 2 = 3 + 3 * j by omega]; exact F3.out j hlt))
      go_wp2_with (at_builtin; refine wpList_append_lies _ rfl _ _ _ rfl (Q + 1) 9 ii _ 1 16 Try.underlying44 hi hz0 hz1 hz2 rfl (by omega) _ (1 + 3 * j) _ rfl (hown.alloc _) ⟨_, 0, none⟩ 3 3 _ rfl rfl (World.news_of_block (heap_alloc_new _ _)) (txC_oneCell [_, _, _]) (by omega) b1 b2 (by simp; omega) _ rfl ?_; intro g cap w8 hown1 hgrow hat hlt1)
      refine ⟨⟨j + 1, by omega, by go_num, ?_, ?_⟩, by simp [intOf]; omega⟩
      · rw [show 1 + 3 * (j + 1) = 1 + 3 * j + 3 by omega, HR.out]
        exact hown1
      · exact (hbel.alloc (by omega) _).grown hgrow (by simp; omega) (fun k hk => (hown.lt k hk).1)
    · obtain rfl : j = N := by omega
      have hg : decide ((j : Int) < (j : Int)) = false := decide_eq_false (by omega)
      clear hlt hj
      have hX := sevRU HX5.out hbel (Nat.lt_succ_self _)
      have hB := HB5.out.trans (hbel.mono (by omega))
      clear hbel HX5 HB5 hGl
      have b1 : (1 + 3 * j) + 2 ≤ maxLen := by unfold maxLen; omega
      have b2 : ((1 + 3 * j) + 2) * 16 ≤ 140737488355328 := by omega
      have HR := hide (rowOf_2 F4.out (show F (1 + 3 * j + 1) = I by rw [show 1 + 3 * j + 1 = 2 + 3 * j by omega]; exact F5.out))
      go_upto_region 15 with (at_builtin; refine wpList_append_lies _ rfl _ _ _ rfl (Q + 1) 9 ii _ 1 16 Try.underlying44 hi hz0 hz1 hz2 rfl (by omega) _ (1 + 3 * j) _ rfl (hown.alloc _) ⟨_, 0, none⟩ 2 2 _ rfl rfl (World.news_of_block (heap_alloc_new _ _)) (txC_oneCell [_, _]) (by omega) b1 b2 (by simp; omega) _ rfl ?_; intro g cap w8 hown1 hgrow hat hlt1)
      have hb2 : Below (Q + 1) _ w8 := ((Below.refl (Q + 1) _).alloc (by have := hX.1; omega) _).grown hgrow (by have := hX.1; simp; omega) (fun k hk => (hown.lt k hk).1)
      replace hown1 : w8.ownsRow (Q + 1) 9 1 (.slice (some ⟨g, 0, none⟩) (1 + 3 * j + 2) cap) (1 + 3 * j + 2) (txC (rowOf F (1 + 3 * j + 2))) := by rw [HR.out]; exact hown1
      replace hX := sevRU hX hb2 (Nat.lt_succ_self _)
      replace hB := hB.trans (hb2.mono (by omega))
      clear hb2 hgrow hat hlt1 HR b1 b2 hown
      have hj3 : 1 + 3 * j + 2 = 3 + 3 * j := by omega
      rw [hj3] at hown1 ⊢
      clear hj3
      go_upto_region 16 with fail
      have hGl := hX.1
      have HX5 := hide hX
      have HB5 := hide hB
      clear hX hB F1 F2 F3 F4 F5
      go_loopw [11, 14] (fun v x wr => ∃ q : Nat, q ≤ k / 32 + 1 ∧ x = .int .i64 (q : Int) ∧ wr.ownsRow (Q + 1) 9 1 v (3 + 3 * j + q) (txC (rowOf F (3 + 3 * j + q))) ∧ Below (Q + 1) w8 wr) (fun _ x _ => k / 32 + 1 - (intOf x).toNat)
      case atStart => exact ⟨0, Nat.zero_le _, rfl, hown1, Below.refl _ _⟩
      case round =>
        clear hown1
        obtain ⟨q, hq, rfl, hown, hbel⟩ := hrel
        by_cases hlt : 32 * q ≤ k
        · have hg : decide ((q : Int) * 32 ≤ (k : Int)) = true := decide_eq_true (by omega)
          have s1 := hbel.size
          have hX := sevRU HX5.out hbel (Nat.lt_succ_self _)
          obtain ⟨p1, hp1⟩ : ∃ p1 : Nat, p1 = min k (32 * q) := ⟨_, rfl⟩
          obtain ⟨p2, hp2⟩ : ∃ p2 : Nat, p2 = min k (32 * q + 32) := ⟨_, rfl⟩
          have hm1 := fun ts t w => run_min2 (P := Try.prog) (k : Int) (32 * (q : Int)) (p1 : Int) (by omega) ts t w
          have hm2 := fun ts t w => run_min2 (P := Try.prog) (k : Int) (32 * (q : Int) + 32) (p2 : Int) (by omega) ts t w
          have HR := hide (rowOf_1 (show F (3 + 3 * j + q) = A.extract p1 p2 by rw [F6.out q]; unfold backS; rw [hA, hp1, hp2]))
          have hp12 : p1 ≤ p2 := by omega
          have hp2k : p2 ≤ k := by omega
          have b1 : (3 + 3 * j + q) + 1 ≤ maxLen := by unfold maxLen; omega
          have b2 : ((3 + 3 * j + q) + 1) * 16 ≤ 140737488355328 := by omega
          have hq9 : q ≤ 9 := by omega
          clear hp1 hp2
          go_wp2_with (at_builtin; refine wpList_append_lies _ rfl _ _ _ rfl (Q + 1) 9 ii _ 1 16 Try.underlying44 hi hz0 hz1 hz2 rfl (by omega) _ (3 + 3 * j + q) _ rfl (hown.alloc _) ⟨_, 0, none⟩ 1 1 _ rfl rfl (World.news_of_block (heap_alloc_new _ _)) (txC_oneCell [_]) (by omega) b1 b2 (by simp; omega) _ rfl ?_; intro g cap w8 hown1 hgrow hat hlt1)
          refine ⟨⟨q + 1, by omega, by go_num, ?_, ?_⟩, by simp [intOf]; omega⟩
          · rw [show 3 + 3 * j + (q + 1) = 3 + 3 * j + q + 1 by omega, HR.out]
            exact hown1
          · exact (hbel.alloc (by omega) _).grown hgrow (by simp; omega) (fun k hk => (hown.lt k hk).1)
        · have hg : decide ((q : Int) * 32 ≤ (k : Int)) = false := decide_eq_false (by omega)
          have hX := sevRU HX5.out hbel (Nat.lt_succ_self _)
          have hB := HB5.out.trans (hbel.mono (by omega))
          have hqM : 3 + 3 * j + q = manyT A := by rw [HM.out]; omega
          rw [hqM] at hown
          have hq10 : q ≤ 10 := by omega
          clear hbel HX5 HB5 hGl hqM hlt hq F6
          go_upto_region 20 with fail
          clear hg hq10
          obtain ⟨g1, cap1, rfl⟩ := row_form hown (by rw [HM.out]; omega)
          obtain ⟨-, hgl, hr⟩ := ownsT_in hown
          obtain ⟨hcap, hcmax, hgQ⟩ := owns_cap hown
          have hM60 : manyT A ≤ 60 := by rw [HM.out]; omega
          have hM0 : 0 < manyT A := by rw [HM.out]; omega
          clear hown HM
          generalize manyT A = M at *
          unfold maxLen at hcmax
          go_loopw [15] (fun y wr => ∃ (n : Nat) (h : FHost), n ≤ M ∧ y = .int .i64 (n : Int) ∧ Hid ((n < M ∧ Step A n h) ∨ (n = M ∧ h = endH A)) ∧ SevR wr Q (.int .i64 h.ph) (.string h.im) (.int .i64 h.bl) (.bool h.ag) (.int .i64 h.tr) (.string h.rd) (.int .i64 h.rp) ∧ g1 < wr.heap.size ∧ TxIn wr g1 0 (rowOf F M) ∧ Below w.heap.size w wr) (fun y _ => M - (intOf y).toNat)
          case atStart => exact ⟨0, ⟨1, A, 0, false, 0, ⟨#[]⟩, 0⟩, Nat.zero_le _, rfl, .inl ⟨hM0, HST.out⟩, hX, hgl, hr, hB⟩
          case round =>
            clear hX hB hgl hr HST hM0
            obtain ⟨n, h, hn, rfl, HH, hX, hgl, hr, hB⟩ := hrel
            by_cases hlt : n < M
            · obtain ⟨X, eX, gk, t0, p7, -, next⟩ := HS.out n h (by rcases HH.out with ⟨_, h⟩ | ⟨h, _⟩; exact h; omega)
              have CU := hide (fun w => took gk eX (F7.out n) w)
              have hc : At wr g1 n (.string (F n)) := ⟨hgl, by have q := hr n (by rw [length_rowOf]; exact hlt); rw [Nat.zero_add, rowOf_get] at q; exact q⟩
              have hg : decide ((n : Int) < (M : Int)) = true := decide_eq_true (by omega)
              have HNX := hide next
              clear HS F7 gk eX next HH hgl CY HE
              generalize F n = zn at *
              obtain ⟨ph, im, bl, ag, tr, rd, rp⟩ := h
              obtain ⟨y0, y1, y2, y3, y4, y5, y6⟩ := X
              unfold Taken at CU
              dsimp only at *
              subst t0
              have q7 : (ph == 7) = false := beq_eq_false_iff_ne.2 p7
              clear p7
              go_upto_region 24 with fail
              refine wp_region_noPanic ?_
              refine wp_region_held_drew (S := fun X => (X.cell? ⟨Q, 0, none⟩ = some (.int .i64 ph) ∧ X.cell? ⟨Q, 1, none⟩ = some (.string im) ∧ X.cell? ⟨Q, 2, none⟩ = some (.int .i64 bl) ∧ X.cell? ⟨Q, 3, none⟩ = some (.bool ag) ∧ X.cell? ⟨Q, 4, none⟩ = some (.int .i64 0) ∧ X.cell? ⟨Q, 5, none⟩ = some (.string rd) ∧ X.cell? ⟨Q, 6, none⟩ = some (.int .i64 rp)) ∧ X.cell? ⟨g1, n, none⟩ = some (.string zn)) (by kernel_rfl) (by exact ⟨⟨hX.2.1, hX.2.2.1, hX.2.2.2.1, hX.2.2.2.2.1, hX.2.2.2.2.2.1, hX.2.2.2.2.2.2.1, hX.2.2.2.2.2.2.2.1⟩, hc.2⟩) (fun hHeld => ?_)
              change SevR wr.drew _ _ _ _ _ _ _ _ at hX
              change At wr.drew _ _ _ at hc
              change TxIn wr.drew _ _ _ at hr
              replace hB : Below w.heap.size w wr.drew := ⟨hB.os, hB.tape, hB.output, hB.size, hB.block⟩
              generalize wr.drew = wd at *
              refine tk 0 ?_; simp only [Act.put, setIfInBounds_toArray, set_cons_zero, set_cons_succ]
              refine tk 1 ?_; simp only [Act.put, setIfInBounds_toArray, set_cons_zero, set_cons_succ]
              refine tk 2 ?_; simp only [Act.put, setIfInBounds_toArray, set_cons_zero, set_cons_succ]
              refine tk 3 ?_; simp only [Act.put, setIfInBounds_toArray, set_cons_zero, set_cons_succ]
              refine tk 4 ?_; simp only [Act.put, setIfInBounds_toArray, set_cons_zero, set_cons_succ]
              refine tk 5 ?_; simp only [Act.put, setIfInBounds_toArray, set_cons_zero, set_cons_succ]
              refine wpAnyH_ready (rs := [6, 10]) (by kernel_rfl) (by simp) ?_
              refine AllReadyH.cons rfl (fun K hK => ?_) ?_
              ·
               go_simp
               go_at_call 9
               refine (CU.out _).mono ?_
               rintro e1 z1 ⟨rfl, hb⟩
               replace hB := thenB hB hb
               replace hX := sevRB hX hb
               replace hr := hr.below hb hc.1
               replace hc := atB hc hb
               clear hb
               refine hK.out _ _ (by exact ⟨⟨hX.2.1, hX.2.2.1, hX.2.2.2.1, hX.2.2.2.2.1, hX.2.2.2.2.2.1, hX.2.2.2.2.2.2.1, hX.2.2.2.2.2.2.2.1⟩, hc.2⟩) (fun hHeld => ?_)
               clear hK K
               try simp only [Act.put, setIfInBounds_toArray, set_cons_zero, set_cons_succ]
               refine tk 7 ?_; simp only [Act.put, setIfInBounds_toArray, set_cons_zero, set_cons_succ]
               refine tk 8 ?_; simp only [Act.put, setIfInBounds_toArray, set_cons_zero, set_cons_succ]
               refine tk 9 ?_; simp only [Act.put, setIfInBounds_toArray, set_cons_zero, set_cons_succ]
               refine wpAnyH_ready (rs := [10]) (by kernel_rfl) (by simp) ?_
               refine AllReadyH.cons rfl (fun K hK => ?_) ?_
               ·
                go_simp
                have hb := hal z1 (.cells #[.int .i64 0, .string ⟨#[]⟩, .int .i64 0, .bool false, .int .i64 0, .string ⟨#[]⟩, .int .i64 0] 23)
                have hU := sevRM z1 (.int .i64 0) (.string ⟨#[]⟩) (.int .i64 0) (.bool false) (.int .i64 0) (.string ⟨#[]⟩) (.int .i64 0) 23
                have hGB := hX.1
                have hGc := hc.1
                have hG0 := hB.size
                replace hB := thenB hB hb
                replace hX := sevRB hX hb
                replace hr := hr.below hb hc.1
                replace hc := atB hc hb
                clear hb
                refine hK.out _ _ (by exact ⟨⟨hX.2.1, hX.2.2.1, hX.2.2.2.1, hX.2.2.2.2.1, hX.2.2.2.2.2.1, hX.2.2.2.2.2.2.1, hX.2.2.2.2.2.2.2.1⟩, hc.2⟩) (fun hHeld => ?_)
                clear hK K
                try simp only [Act.put, setIfInBounds_toArray, set_cons_zero, set_cons_succ]
                generalize z1.alloc (.cells #[.int .i64 0, .string ⟨#[]⟩, .int .i64 0, .bool false, .int .i64 0, .string ⟨#[]⟩, .int .i64 0] 23) = z2 at *
                generalize z1.heap.size = G at *
                refine wpAnyH_ready (rs := [11]) (by kernel_rfl) (by simp) ?_
                refine AllReadyH.cons rfl (fun K hK => ?_) ?_
                ·
                 go_simp
                 replace hU := RepSet.setAll hU (.int .i64 y0) (.string y1) (.int .i64 y2) (.bool y3) (.int .i64 y4) (.string y5) (.int .i64 y6)
                 replace hX := RepSet.setO7 hX (show G ≠ Q by omega) (.int .i64 y0) (.string y1) (.int .i64 y2) (.bool y3) (.int .i64 y4) (.string y5) (.int .i64 y6)
                 replace hr := txO7 hr (show G ≠ g1 by omega) (.int .i64 y0) (.string y1) (.int .i64 y2) (.bool y3) (.int .i64 y4) (.string y5) (.int .i64 y6)
                 replace hc := atO7 hc (show G ≠ g1 by omega) (.int .i64 y0) (.string y1) (.int .i64 y2) (.bool y3) (.int .i64 y4) (.string y5) (.int .i64 y6)
                 replace hB := HstHost.set7 (x0 := .int .i64 y0) (x1 := .string y1) (x2 := .int .i64 y2) (x3 := .bool y3) (x4 := .int .i64 y4) (x5 := .string y5) (x6 := .int .i64 y6) hB hG0
                 refine hK.out _ _ (by exact ⟨⟨hX.2.1, hX.2.2.1, hX.2.2.2.1, hX.2.2.2.2.1, hX.2.2.2.2.2.1, hX.2.2.2.2.2.2.1, hX.2.2.2.2.2.2.2.1⟩, hc.2⟩) (fun hHeld => ?_)
                 clear hK K
                 try simp only [Act.put, setIfInBounds_toArray, set_cons_zero, set_cons_succ]
                 generalize (((((((z2.setCell ⟨G, 0, none⟩ (.int .i64 y0)).setCell ⟨G, 1, none⟩ (.string y1)).setCell ⟨G, 2, none⟩ (.int .i64 y2)).setCell ⟨G, 3, none⟩ (.bool y3)).setCell ⟨G, 4, none⟩ (.int .i64 y4)).setCell ⟨G, 5, none⟩ (.string y5)).setCell ⟨G, 6, none⟩ (.int .i64 y6)) = z3 at *
                 refine tk 12 ?_; simp only [Act.put, setIfInBounds_toArray, set_cons_zero, set_cons_succ]
                 refine wpAnyH_done (by kernel_rfl) ?_ _
                 refine NoPanic.normal ?_
                 go_wp2_with (go_at_call 11; refine (num_any _ _).mono ?_; rintro e1 w' ⟨rfl, rfl⟩)
                 exact ⟨⟨n + 1, ⟨y0, y1, y2, y3, y4, y5, y6⟩, by omega, by go_num, HNX.out, RepSet.setAll hX (.int .i64 y0) (.string y1) (.int .i64 y2) (.bool y3) (.int .i64 y4) (.string y5) (.int .i64 y6), (atO7 hc (show Q ≠ g1 by omega) (.int .i64 y0) (.string y1) (.int .i64 y2) (.bool y3) (.int .i64 y4) (.string y5) (.int .i64 y6)).1, txO7 hr (show Q ≠ g1 by omega) (.int .i64 y0) (.string y1) (.int .i64 y2) (.bool y3) (.int .i64 y4) (.string y5) (.int .i64 y6), HstHost.set7 hB hl⟩, by simp [intOf]; omega⟩
                exact AllReadyH.nil
               exact AllReadyH.nil
              refine AllReadyH.cons rfl (fun K hK => ?_) ?_
              ·
               go_simp
               have hb := hal wd (.cells #[.int .i64 0, .string ⟨#[]⟩, .int .i64 0, .bool false, .int .i64 0, .string ⟨#[]⟩, .int .i64 0] 23)
               have hU := sevRM wd (.int .i64 0) (.string ⟨#[]⟩) (.int .i64 0) (.bool false) (.int .i64 0) (.string ⟨#[]⟩) (.int .i64 0) 23
               have hGB := hX.1
               have hGc := hc.1
               have hG0 := hB.size
               replace hB := thenB hB hb
               replace hX := sevRB hX hb
               replace hr := hr.below hb hc.1
               replace hc := atB hc hb
               clear hb
               refine hK.out _ _ (by exact ⟨⟨hX.2.1, hX.2.2.1, hX.2.2.2.1, hX.2.2.2.2.1, hX.2.2.2.2.2.1, hX.2.2.2.2.2.2.1, hX.2.2.2.2.2.2.2.1⟩, hc.2⟩) (fun hHeld => ?_)
               clear hK K
               try simp only [Act.put, setIfInBounds_toArray, set_cons_zero, set_cons_succ]
               generalize wd.alloc (.cells #[.int .i64 0, .string ⟨#[]⟩, .int .i64 0, .bool false, .int .i64 0, .string ⟨#[]⟩, .int .i64 0] 23) = z4 at *
               generalize wd.heap.size = G at *
               refine wpAnyH_ready (rs := [6]) (by kernel_rfl) (by simp) ?_
               refine AllReadyH.cons rfl (fun K hK => ?_) ?_
               ·
                go_simp
                go_at_call 9
                refine (CU.out _).mono ?_
                rintro e1 z5 ⟨rfl, hb⟩
                replace hB := thenB hB hb
                replace hX := sevRB hX hb
                replace hr := hr.below hb hc.1
                replace hc := atB hc hb
                replace hU := sevRB hU hb
                clear hb
                refine hK.out _ _ (by exact ⟨⟨hX.2.1, hX.2.2.1, hX.2.2.2.1, hX.2.2.2.2.1, hX.2.2.2.2.2.1, hX.2.2.2.2.2.2.1, hX.2.2.2.2.2.2.2.1⟩, hc.2⟩) (fun hHeld => ?_)
                clear hK K
                try simp only [Act.put, setIfInBounds_toArray, set_cons_zero, set_cons_succ]
                refine tk 7 ?_; simp only [Act.put, setIfInBounds_toArray, set_cons_zero, set_cons_succ]
                refine tk 8 ?_; simp only [Act.put, setIfInBounds_toArray, set_cons_zero, set_cons_succ]
                refine tk 9 ?_; simp only [Act.put, setIfInBounds_toArray, set_cons_zero, set_cons_succ]
                refine wpAnyH_ready (rs := [11]) (by kernel_rfl) (by simp) ?_
                refine AllReadyH.cons rfl (fun K hK => ?_) ?_
                ·
                 go_simp
                 replace hU := RepSet.setAll hU (.int .i64 y0) (.string y1) (.int .i64 y2) (.bool y3) (.int .i64 y4) (.string y5) (.int .i64 y6)
                 replace hX := RepSet.setO7 hX (show G ≠ Q by omega) (.int .i64 y0) (.string y1) (.int .i64 y2) (.bool y3) (.int .i64 y4) (.string y5) (.int .i64 y6)
                 replace hr := txO7 hr (show G ≠ g1 by omega) (.int .i64 y0) (.string y1) (.int .i64 y2) (.bool y3) (.int .i64 y4) (.string y5) (.int .i64 y6)
                 replace hc := atO7 hc (show G ≠ g1 by omega) (.int .i64 y0) (.string y1) (.int .i64 y2) (.bool y3) (.int .i64 y4) (.string y5) (.int .i64 y6)
                 replace hB := HstHost.set7 (x0 := .int .i64 y0) (x1 := .string y1) (x2 := .int .i64 y2) (x3 := .bool y3) (x4 := .int .i64 y4) (x5 := .string y5) (x6 := .int .i64 y6) hB hG0
                 refine hK.out _ _ (by exact ⟨⟨hX.2.1, hX.2.2.1, hX.2.2.2.1, hX.2.2.2.2.1, hX.2.2.2.2.2.1, hX.2.2.2.2.2.2.1, hX.2.2.2.2.2.2.2.1⟩, hc.2⟩) (fun hHeld => ?_)
                 clear hK K
                 try simp only [Act.put, setIfInBounds_toArray, set_cons_zero, set_cons_succ]
                 generalize (((((((z5.setCell ⟨G, 0, none⟩ (.int .i64 y0)).setCell ⟨G, 1, none⟩ (.string y1)).setCell ⟨G, 2, none⟩ (.int .i64 y2)).setCell ⟨G, 3, none⟩ (.bool y3)).setCell ⟨G, 4, none⟩ (.int .i64 y4)).setCell ⟨G, 5, none⟩ (.string y5)).setCell ⟨G, 6, none⟩ (.int .i64 y6)) = z6 at *
                 refine tk 12 ?_; simp only [Act.put, setIfInBounds_toArray, set_cons_zero, set_cons_succ]
                 refine wpAnyH_done (by kernel_rfl) ?_ _
                 refine NoPanic.normal ?_
                 go_wp2_with (go_at_call 11; refine (num_any _ _).mono ?_; rintro e1 w' ⟨rfl, rfl⟩)
                 exact ⟨⟨n + 1, ⟨y0, y1, y2, y3, y4, y5, y6⟩, by omega, by go_num, HNX.out, RepSet.setAll hX (.int .i64 y0) (.string y1) (.int .i64 y2) (.bool y3) (.int .i64 y4) (.string y5) (.int .i64 y6), (atO7 hc (show Q ≠ g1 by omega) (.int .i64 y0) (.string y1) (.int .i64 y2) (.bool y3) (.int .i64 y4) (.string y5) (.int .i64 y6)).1, txO7 hr (show Q ≠ g1 by omega) (.int .i64 y0) (.string y1) (.int .i64 y2) (.bool y3) (.int .i64 y4) (.string y5) (.int .i64 y6), HstHost.set7 hB hl⟩, by simp [intOf]; omega⟩
                exact AllReadyH.nil
               exact AllReadyH.nil
              exact AllReadyH.nil
            · obtain ⟨rfl, rfl⟩ : n = M ∧ h = endH A := by
                rcases HH.out with ⟨h, _⟩ | h
                · exact absurd h hlt
                · exact h
              rw [HE.out] at hX
              dsimp only at hX
              have hg : decide ((n : Int) < (n : Int)) = false := decide_eq_false (by omega)
              clear HH HE HS F7 hr hgl hlt hn
              go_wp2_with (go_at_call 14; refine (CY.out _).mono ?_; rintro e1 w9 ⟨rfl, hb⟩; replace hB := thenB hB hb; clear hb)
              go_ret
              exact ⟨rfl, hB⟩

set_option maxRecDepth 100000 in
theorem lifted (os : Os) (started : os.Started) (H : Type) (enc : TypeId × Value → H) :
    ReturnsInHanded {} Try.checked os 8 .any (Rows.replyRunSpec.pre6 enc Try.prog Try.f8 Rows.replyRunRow.domain false) (Rows.replyRunSpec.post enc Try.prog Try.f8 false true false false) := by
  refine returnsInHanded_of_change (C := Try.checked) own started (by kernel_rfl) Try.func8
    (ChangeSpec.witness6 (enc := enc) (C := Try.checked) false ⟨#[], #[.int .i64 0], []⟩ 8 (by kernel_rfl) (by kernel_rfl) (by kernel_rfl) (by kernel_rfl)) ?_
  intro W base args ds gs before hval0 hW hcnd _
  have hval : ∀ (j : Nat) t v, Try.f8.params[j]? = some t → args[j]? = some v → Value.okWide Try.prog W .any base t v := hval0
  have hW' := hW
  obtain ⟨p, q, hA0, hV, rfl, hfz, hnd⟩ := hW
  have hA : DataW.TrodAll enc Try.prog W 0 (fun _ => true) true Try.f8.params.toList args.toList ds p := hA0
  rw [Try.params8] at hA hval
  obtain ⟨v0, vs0, d0, ds0, p0, q0, hargs, rfl, rfl, h0, r0⟩ := trodAll_cons hA
  obtain ⟨rfl, rfl, rfl⟩ := trodAll_nil r0
  obtain rfl : args = #[v0] := by cases args; simp_all
  obtain ⟨rfl, rfl⟩ := trodVars_none hV
  obtain ⟨a0, rfl, rfl, rfl, w0⟩ := open_int Try.underlying3 (hval 0 3 v0 rfl rfl) h0
  clear hA0 hval0
  refine (walk a0 w0 W).mono fun e W' ⟨he, bel⟩ => ?_
  subst he
  exact ⟨_, rfl, _, _, _, [], _, [], hW', (trodAll_cons_mk (shut_bool Try.underlying4 _) trodAll_mk0), (trodAll_cons_mk (shut_int Try.underlying3 w0) trodAll_mk0), rfl, bel.frame _, fun h => by cases h⟩

theorem over : Rows.replyRunRow.holds Try.pinned (OpenSpec.ofChange Rows.replyRunSpec) :=
  OpenClaim.holds_of_wide 8 Try.f8 rfl rfl rfl rfl rfl rfl rfl ⟨rfl, rfl, rfl, rfl, rfl⟩ rfl rfl rfl rfl rfl (by kernel_rfl) Try.func8 (by kernel_rfl)
    (of_decide_eq_true (by kernel_rfl)) (by unfold Func.isWrapper; first | (rw [if_pos (by decide +kernel)]; kernel_rfl) | (rw [if_neg (by decide +kernel)]; exact ⟨rfl, rfl⟩))
    (fun os started H enc _ => lifted os started H enc)

theorem proved : Rows.ReplyRunSaid :=
  over
#print axioms proved
end Go.Proofs.Ytgkmallikomnaaa.replyRun
