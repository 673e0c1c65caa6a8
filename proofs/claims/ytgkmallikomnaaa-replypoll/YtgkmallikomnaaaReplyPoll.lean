/- Whatever the two numbers and the two bools: the law ReplyPoll returns true (what a host makes of each state, in each phase that asks for one), and the arguments read as they did; no condition. -/
import Derived.Test.YtgkmallikomnaaaRows
import Derived.Test.YtgkmallikomnaaaBagNor
import Derived.Test.YtgkmallikomnaaaBagOps
import Derived.Test.YtgkmallikomnaaaBagSuf
import Derived.Test.YtgkmallikomnaaaBagSet
import Derived.Test.YtgkmallikomnaaaBagHst
import Derived.Test.YtgkmallikomnaaaBagHsr
import Derived.Test.YtgkmallikomnaaaRepMath
import Derived.Test.YtgkmallikomnaaaRepRef
import Derived.Test.YtgkmallikomnaaaRepTake
import Derived.Test.YtgkmallikomnaaaRepWalk
import Derived.Test.YtgkmallikomnaaaRepAwake
import Derived.Laws.StructEq
import Derived.Deep.Cut
import Derived.ChangeOld
import Derived.Below
import Derived.WalkKit
import Derived.ProofKit
import Derived.OpenShut
import Derived.ShutString
namespace Go.Proofs.Ytgkmallikomnaaa.replyPoll
open Go.ChangeShapes Go.WideShapes Go.ChangeAt Go.RowKit
open Go.ChangeMaps (open_string shut_string)
set_option linter.unusedVariables false

open Go.Proofs.Ytgkmallikomnaaa.Bytes
open Go.Proofs.Ytgkmallikomnaaa.Hst
open Go.Proofs.Ytgkmallikomnaaa.HstWalk
open Go.Proofs.Ytgkmallikomnaaa.HstAsk
open Go.Proofs.Ytgkmallikomnaaa.HstCarry
open Go.Proofs.Ytgkmallikomnaaa.Rep
open Go.Proofs.Ytgkmallikomnaaa.RepTake
open Go.Proofs.Ytgkmallikomnaaa.RepWalk
open Go.Proofs.Ytgkmallikomnaaa.RepAwake
theorem own : ownKnob Try.prog.godebug = none := by kernel_rfl

open Go.Proofs.Ytgkmallikomnaaa.IdtWalk (num_any)
open Go.Proofs.Ytgkmallikomnaaa.Ans (isAns aSa ansS ansB)
open Go.Proofs.Ytgkmallikomnaaa.Blo (nP)
theorem build_as (s : Int) (w : World) : (Instr.build 43 #[(2, .int .i64 s)]).run Try.prog w = .ok (.agg #[.int .i64 0, .int .i64 0, .int .i64 s]) w := run_build w 43 _ _ (by kernel_rfl)
/-- What a host makes of a state, the image's pieces being so many. -/
def stH (h : FHost) (n s : Int) : FHost := if h.ph = 1 then (if s = 0 then toH h 2 0 h.ag else if s = 7 then toH h 1 0 true else if s = 3 ∨ s = 6 then toH h 1 1 true else h) else if h.ph = 3 then (if s = 1 ∨ s = 2 then h else if s = 3 ∧ h.ag = true ∨ s = 0 ∧ h.ag = true ∧ h.bl = 0 then toH h 2 h.bl false else if s = 3 ∧ n ≤ h.bl + 1 then toH h 4 n false else if s = 3 then toH h 2 (h.bl + 1) false else anewH h) else (if s = 0 then ⟨6, h.im, 0, false, h.tr, ⟨#[]⟩, h.rp⟩ else if s = 3 ∧ h.ag = true then toH h 4 h.bl false else if s = 4 ∨ s = 5 then h else anewH h)
theorem ans_state {k : Nat} (hk : k ≤ 7) : ansB 0 0 (k : Int) = true ∧ isAns (ansS 0 0 (k : Int)) = true ∧ aSa (ansS 0 0 (k : Int)) = (k : Int) ∧ (ansS 0 0 (k : Int)).size ≤ 140737488355328 := by
  have hb : ansB 0 0 (k : Int) = true := by
    obtain rfl | rfl | rfl | rfl | rfl | rfl | rfl | rfl : k = 0 ∨ k = 1 ∨ k = 2 ∨ k = 3 ∨ k = 4 ∨ k = 5 ∨ k = 6 ∨ k = 7 := by omega
    all_goals decide
  obtain ⟨h1, _, _, h4⟩ := Ans.ans_put hb
  refine ⟨hb, h1, h4, ?_⟩
  rw [Ans.size_ansS hb]
  decide
theorem go_st {h : FHost} {t : ByteArray} {s : Int} (g : okH h = true) (hI : isAns t = true) (hS : aSa t = s) (hp : h.ph = 1 ∧ h.ag = false ∨ h.ph = 3 ∨ h.ph = 5) : takeH h false false t = stH h (nP h.im : Int) s := by
  rw [take_ok _ _ _ g]
  show goH h t = _
  subst hS
  unfold goH stH clearedH polledH waitedH
  rcases hp with ⟨h1, h2⟩ | h1 | h1
  · rw [if_pos h1, if_pos h1, h2, if_neg (by decide), if_pos hI]
  · simp only [if_neg (show ¬ h.ph = 1 by omega), if_neg (show ¬ h.ph = 2 by omega), if_pos h1, if_pos hI]
  · simp only [if_neg (show ¬ h.ph = 1 by omega), if_neg (show ¬ h.ph = 2 by omega), if_neg (show ¬ h.ph = 3 by omega), if_neg (show ¬ h.ph = 4 by omega), if_pos h1, if_pos hI]
theorem nP_40 : (nP (iotaS 40) : Int) = 2 := by unfold nP; rw [size_iotaS]; rfl
set_option maxRecDepth 100000 in
set_option maxHeartbeats 8000000 in
theorem way0 (a0 a1 : Int) (w : World) (hm : wrap64 ((IntKind.u64.wrap a0).tmod 3) = 0) : Calls Try.prog 7 #[.int .i64 a0, .int .i64 a1, .bool false, .bool false] w fun e w' => e = .returned (.bool true) ∧ Below w.heap.size w w' := by
  have hB := Below.refl w.heap.size w
  obtain ⟨k, hk, mk⟩ : ∃ k : Nat, k ≤ 7 ∧ bits .and .i64 a1 7 = (k : Int) := mask_i64 a1 7 (by omega)
  have b1 := build_as
  have b2 := build_rt
  have CW := hide (fun w => awake_any w)
  have CC := hide (fun w => carrying23_any 40 w (by decide) (by decide))
  obtain ⟨s1, s2, s3, s4⟩ := ans_state hk
  have CP := hide (fun w => ans_is s1 w)
  have CT := hide (fun (p b : Int) (a : Bool) (hp : 1 ≤ p ∧ p ≤ 6) (hb : 0 ≤ b ∧ 32 * b < ((40 : Nat) : Int) + 32) (hq : p = 1 ∧ a = false ∨ p = 3 ∨ p = 5) w => have g : okH ⟨p, iotaS 40, b, a, 0, ⟨#[]⟩, 0⟩ = true := ok_carry hp (by decide) hb ⟨by decide, by decide⟩ (by decide); took g (go_st g s2 s3 hq) s4 w)
  have hk0 : (0 : Int) ≤ (k : Int) := by omega
  have hk7 : (k : Int) ≤ 7 := by omega
  clear s1 s2 s3 s4
  have CU := hide (CT.out 1 0 false (by decide) (by decide) (by decide))
  unfold Taken at CU
  obtain ⟨X, hX0⟩ : ∃ X, X = stH ⟨1, iotaS 40, 0, false, 0, ⟨#[]⟩, 0⟩ (nP (iotaS 40) : Int) (k : Int) := ⟨_, rfl⟩
  dsimp only at CU
  rw [← hX0] at CU
  rw [nP_40] at hX0
  obtain ⟨y0, y1, y2, y3, y4, y5, y6⟩ := X
  dsimp only at CU
  have HX := hide hX0
  clear hX0
  clear CT
  generalize iotaS 40 = A at *
  generalize ansS 0 0 (k : Int) = TX at *
  go_enter Try.func7, Try.ntmps7
  go_upto_region 4 with (first | (go_at_call 12; refine (CW.out _).mono ?_; rintro e1 w1 ⟨rfl, hb⟩; replace hB := thenB hB hb; clear hb) | (go_at_call 13; refine (CC.out _).mono ?_; rintro e1 w2 ⟨rfl, hb⟩; replace hB := thenB hB hb; clear hb))
  have hX := sevRM w2 (.int .i64 1) (.string A) (.int .i64 0) (.bool false) (.int .i64 0) (.string ⟨#[]⟩) (.int .i64 0) 23
  have hn := hal w2 (.cells #[.int .i64 1, .string A, .int .i64 0, .bool false, .int .i64 0, .string ⟨#[]⟩, .int .i64 0] 23)
  have hl := hB.size
  replace hB := thenB hB hn
  clear hn CW CC
  generalize w2.alloc _ = W3 at *
  generalize w2.heap.size = G1 at *
  have hl1 := hX.1
  have hn := hal W3 (.cells #[.int .i64 1, .int .i64 3, .int .i64 5] 3)
  replace hB := thenB hB hn
  replace hX := sevRB hX hn
  clear hn hl1
  go_upto_region 5 with fail
  generalize W3.alloc _ = W3b at *
  replace hX := HstSet.set0 hX (.int .i64 1)
  replace hB := hB.setCell (p := ⟨G1, 0, none⟩) hl (.int .i64 1)
  generalize (World.setCell W3b _ _) = W4 at *
  go_upto_region 8 with fail
  replace hX := HstSet.set3 hX (.bool false)
  replace hB := hB.setCell (p := ⟨G1, 3, none⟩) hl (.bool false)
  generalize (World.setCell W4 _ _) = W5 at *
  clear hl
  go_upto_region 13 with (first | (go_at_call 15; refine (CP.out _).mono ?_; rintro e1 w6 ⟨rfl, hb⟩; replace hB := thenB hB hb; replace hX := sevRB hX hb; clear hb) | (go_at_call 9; refine (CU.out _).mono ?_; rintro e1 w7 ⟨rfl, hb⟩; replace hB := thenB hB hb; replace hX := sevRB hX hb; clear hb))
  have hY := sevRM w7 (.int .i64 y0) (.string y1) (.int .i64 y2) (.bool y3) (.int .i64 y4) (.string y5) (.int .i64 y6) 23
  have hn := hal w7 (.cells #[.int .i64 y0, .string y1, .int .i64 y2, .bool y3, .int .i64 y4, .string y5, .int .i64 y6] 23)
  replace hB := thenB hB hn
  replace hX := sevRB hX hn
  clear hn CU CP mk
  generalize w7.alloc _ = W7 at *
  generalize w7.heap.size = G7 at *
  have hn := hal W7 (.cells #[.string ⟨#[115, 46, 46, 99, 46, 46, 99, 99]⟩, .string ⟨#[99, 46, 46, 115, 99, 99, 99, 99]⟩, .string ⟨#[114, 99, 99, 99, 46, 46, 99, 99]⟩] 9)
  replace hB := thenB hB hn
  replace hX := sevRB hX hn
  replace hY := sevRB hY hn
  clear hn
  go_upto_region 16 with (go_at_call 11; refine (num_any _ _).mono ?_; rintro e1 W7 ⟨rfl, rfl⟩)
  generalize W7.alloc _ = W8 at *
  have hq := HX.out
  clear HX
  obtain rfl | rfl | rfl | rfl | rfl | rfl | rfl | rfl : k = 0 ∨ k = 1 ∨ k = 2 ∨ k = 3 ∨ k = 4 ∨ k = 5 ∨ k = 6 ∨ k = 7 := by omega
  · replace hq : (⟨y0, y1, y2, y3, y4, y5, y6⟩ : FHost) = ⟨2, A, 0, false, 0, ⟨#[]⟩, 0⟩ := hq
    cases hq
    go_wp2_with fail
    go_ret
    exact ⟨rfl, hB⟩
  · replace hq : (⟨y0, y1, y2, y3, y4, y5, y6⟩ : FHost) = ⟨1, A, 0, false, 0, ⟨#[]⟩, 0⟩ := hq
    cases hq
    go_wp2_with fail
    go_ret
    exact ⟨rfl, hB⟩
  · replace hq : (⟨y0, y1, y2, y3, y4, y5, y6⟩ : FHost) = ⟨1, A, 0, false, 0, ⟨#[]⟩, 0⟩ := hq
    cases hq
    go_wp2_with fail
    go_ret
    exact ⟨rfl, hB⟩
  · replace hq : (⟨y0, y1, y2, y3, y4, y5, y6⟩ : FHost) = ⟨1, A, 1, true, 0, ⟨#[]⟩, 0⟩ := hq
    cases hq
    go_wp2_with fail
    go_ret
    exact ⟨rfl, hB⟩
  · replace hq : (⟨y0, y1, y2, y3, y4, y5, y6⟩ : FHost) = ⟨1, A, 0, false, 0, ⟨#[]⟩, 0⟩ := hq
    cases hq
    go_wp2_with fail
    go_ret
    exact ⟨rfl, hB⟩
  · replace hq : (⟨y0, y1, y2, y3, y4, y5, y6⟩ : FHost) = ⟨1, A, 0, false, 0, ⟨#[]⟩, 0⟩ := hq
    cases hq
    go_wp2_with fail
    go_ret
    exact ⟨rfl, hB⟩
  · replace hq : (⟨y0, y1, y2, y3, y4, y5, y6⟩ : FHost) = ⟨1, A, 1, true, 0, ⟨#[]⟩, 0⟩ := hq
    cases hq
    go_wp2_with fail
    go_ret
    exact ⟨rfl, hB⟩
  · replace hq : (⟨y0, y1, y2, y3, y4, y5, y6⟩ : FHost) = ⟨1, A, 0, true, 0, ⟨#[]⟩, 0⟩ := hq
    cases hq
    go_wp2_with fail
    go_ret
    exact ⟨rfl, hB⟩
set_option maxRecDepth 100000 in
set_option maxHeartbeats 8000000 in
theorem way1 (a0 a1 : Int) (w : World) (hm : wrap64 ((IntKind.u64.wrap a0).tmod 3) = 0) : Calls Try.prog 7 #[.int .i64 a0, .int .i64 a1, .bool false, .bool true] w fun e w' => e = .returned (.bool true) ∧ Below w.heap.size w w' := by
  have hB := Below.refl w.heap.size w
  obtain ⟨k, hk, mk⟩ : ∃ k : Nat, k ≤ 7 ∧ bits .and .i64 a1 7 = (k : Int) := mask_i64 a1 7 (by omega)
  have b1 := build_as
  have b2 := build_rt
  have CW := hide (fun w => awake_any w)
  have CC := hide (fun w => carrying23_any 40 w (by decide) (by decide))
  obtain ⟨s1, s2, s3, s4⟩ := ans_state hk
  have CP := hide (fun w => ans_is s1 w)
  have CT := hide (fun (p b : Int) (a : Bool) (hp : 1 ≤ p ∧ p ≤ 6) (hb : 0 ≤ b ∧ 32 * b < ((40 : Nat) : Int) + 32) (hq : p = 1 ∧ a = false ∨ p = 3 ∨ p = 5) w => have g : okH ⟨p, iotaS 40, b, a, 0, ⟨#[]⟩, 0⟩ = true := ok_carry hp (by decide) hb ⟨by decide, by decide⟩ (by decide); took g (go_st g s2 s3 hq) s4 w)
  have hk0 : (0 : Int) ≤ (k : Int) := by omega
  have hk7 : (k : Int) ≤ 7 := by omega
  clear s1 s2 s3 s4
  have CU := hide (CT.out 1 1 false (by decide) (by decide) (by decide))
  unfold Taken at CU
  obtain ⟨X, hX0⟩ : ∃ X, X = stH ⟨1, iotaS 40, 1, false, 0, ⟨#[]⟩, 0⟩ (nP (iotaS 40) : Int) (k : Int) := ⟨_, rfl⟩
  dsimp only at CU
  rw [← hX0] at CU
  rw [nP_40] at hX0
  obtain ⟨y0, y1, y2, y3, y4, y5, y6⟩ := X
  dsimp only at CU
  have HX := hide hX0
  clear hX0
  clear CT
  generalize iotaS 40 = A at *
  generalize ansS 0 0 (k : Int) = TX at *
  go_enter Try.func7, Try.ntmps7
  go_upto_region 4 with (first | (go_at_call 12; refine (CW.out _).mono ?_; rintro e1 w1 ⟨rfl, hb⟩; replace hB := thenB hB hb; clear hb) | (go_at_call 13; refine (CC.out _).mono ?_; rintro e1 w2 ⟨rfl, hb⟩; replace hB := thenB hB hb; clear hb))
  have hX := sevRM w2 (.int .i64 1) (.string A) (.int .i64 0) (.bool false) (.int .i64 0) (.string ⟨#[]⟩) (.int .i64 0) 23
  have hn := hal w2 (.cells #[.int .i64 1, .string A, .int .i64 0, .bool false, .int .i64 0, .string ⟨#[]⟩, .int .i64 0] 23)
  have hl := hB.size
  replace hB := thenB hB hn
  clear hn CW CC
  generalize w2.alloc _ = W3 at *
  generalize w2.heap.size = G1 at *
  have hl1 := hX.1
  have hn := hal W3 (.cells #[.int .i64 1, .int .i64 3, .int .i64 5] 3)
  replace hB := thenB hB hn
  replace hX := sevRB hX hn
  clear hn hl1
  go_upto_region 5 with fail
  generalize W3.alloc _ = W3b at *
  replace hX := HstSet.set0 hX (.int .i64 1)
  replace hB := hB.setCell (p := ⟨G1, 0, none⟩) hl (.int .i64 1)
  generalize (World.setCell W3b _ _) = W4 at *
  go_upto_region 8 with fail
  replace hX := HstSet.set3 hX (.bool false)
  replace hB := hB.setCell (p := ⟨G1, 3, none⟩) hl (.bool false)
  replace hX := HstSet.set2 hX (.int .i64 1)
  replace hB := hB.setCell (p := ⟨G1, 2, none⟩) hl (.int .i64 1)
  generalize (World.setCell (World.setCell W4 _ _) _ _) = W5 at *
  clear hl
  go_upto_region 13 with (first | (go_at_call 15; refine (CP.out _).mono ?_; rintro e1 w6 ⟨rfl, hb⟩; replace hB := thenB hB hb; replace hX := sevRB hX hb; clear hb) | (go_at_call 9; refine (CU.out _).mono ?_; rintro e1 w7 ⟨rfl, hb⟩; replace hB := thenB hB hb; replace hX := sevRB hX hb; clear hb))
  have hY := sevRM w7 (.int .i64 y0) (.string y1) (.int .i64 y2) (.bool y3) (.int .i64 y4) (.string y5) (.int .i64 y6) 23
  have hn := hal w7 (.cells #[.int .i64 y0, .string y1, .int .i64 y2, .bool y3, .int .i64 y4, .string y5, .int .i64 y6] 23)
  replace hB := thenB hB hn
  replace hX := sevRB hX hn
  clear hn CU CP mk
  generalize w7.alloc _ = W7 at *
  generalize w7.heap.size = G7 at *
  have hn := hal W7 (.cells #[.string ⟨#[115, 46, 46, 99, 46, 46, 99, 99]⟩, .string ⟨#[99, 46, 46, 115, 99, 99, 99, 99]⟩, .string ⟨#[114, 99, 99, 99, 46, 46, 99, 99]⟩] 9)
  replace hB := thenB hB hn
  replace hX := sevRB hX hn
  replace hY := sevRB hY hn
  clear hn
  go_upto_region 16 with (go_at_call 11; refine (num_any _ _).mono ?_; rintro e1 W7 ⟨rfl, rfl⟩)
  generalize W7.alloc _ = W8 at *
  have hq := HX.out
  clear HX
  obtain rfl | rfl | rfl | rfl | rfl | rfl | rfl | rfl : k = 0 ∨ k = 1 ∨ k = 2 ∨ k = 3 ∨ k = 4 ∨ k = 5 ∨ k = 6 ∨ k = 7 := by omega
  · replace hq : (⟨y0, y1, y2, y3, y4, y5, y6⟩ : FHost) = ⟨2, A, 0, false, 0, ⟨#[]⟩, 0⟩ := hq
    cases hq
    go_wp2_with fail
    go_ret
    exact ⟨rfl, hB⟩
  · replace hq : (⟨y0, y1, y2, y3, y4, y5, y6⟩ : FHost) = ⟨1, A, 1, false, 0, ⟨#[]⟩, 0⟩ := hq
    cases hq
    go_wp2_with fail
    go_ret
    exact ⟨rfl, hB⟩
  · replace hq : (⟨y0, y1, y2, y3, y4, y5, y6⟩ : FHost) = ⟨1, A, 1, false, 0, ⟨#[]⟩, 0⟩ := hq
    cases hq
    go_wp2_with fail
    go_ret
    exact ⟨rfl, hB⟩
  · replace hq : (⟨y0, y1, y2, y3, y4, y5, y6⟩ : FHost) = ⟨1, A, 1, true, 0, ⟨#[]⟩, 0⟩ := hq
    cases hq
    go_wp2_with fail
    go_ret
    exact ⟨rfl, hB⟩
  · replace hq : (⟨y0, y1, y2, y3, y4, y5, y6⟩ : FHost) = ⟨1, A, 1, false, 0, ⟨#[]⟩, 0⟩ := hq
    cases hq
    go_wp2_with fail
    go_ret
    exact ⟨rfl, hB⟩
  · replace hq : (⟨y0, y1, y2, y3, y4, y5, y6⟩ : FHost) = ⟨1, A, 1, false, 0, ⟨#[]⟩, 0⟩ := hq
    cases hq
    go_wp2_with fail
    go_ret
    exact ⟨rfl, hB⟩
  · replace hq : (⟨y0, y1, y2, y3, y4, y5, y6⟩ : FHost) = ⟨1, A, 1, true, 0, ⟨#[]⟩, 0⟩ := hq
    cases hq
    go_wp2_with fail
    go_ret
    exact ⟨rfl, hB⟩
  · replace hq : (⟨y0, y1, y2, y3, y4, y5, y6⟩ : FHost) = ⟨1, A, 0, true, 0, ⟨#[]⟩, 0⟩ := hq
    cases hq
    go_wp2_with fail
    go_ret
    exact ⟨rfl, hB⟩
set_option maxRecDepth 100000 in
set_option maxHeartbeats 8000000 in
theorem way2 (a0 a1 : Int) (w : World) (hm : wrap64 ((IntKind.u64.wrap a0).tmod 3) = 0) : Calls Try.prog 7 #[.int .i64 a0, .int .i64 a1, .bool true, .bool false] w fun e w' => e = .returned (.bool true) ∧ Below w.heap.size w w' := by
  have hB := Below.refl w.heap.size w
  obtain ⟨k, hk, mk⟩ : ∃ k : Nat, k ≤ 7 ∧ bits .and .i64 a1 7 = (k : Int) := mask_i64 a1 7 (by omega)
  have b1 := build_as
  have b2 := build_rt
  have CW := hide (fun w => awake_any w)
  have CC := hide (fun w => carrying23_any 40 w (by decide) (by decide))
  obtain ⟨s1, s2, s3, s4⟩ := ans_state hk
  have CP := hide (fun w => ans_is s1 w)
  have CT := hide (fun (p b : Int) (a : Bool) (hp : 1 ≤ p ∧ p ≤ 6) (hb : 0 ≤ b ∧ 32 * b < ((40 : Nat) : Int) + 32) (hq : p = 1 ∧ a = false ∨ p = 3 ∨ p = 5) w => have g : okH ⟨p, iotaS 40, b, a, 0, ⟨#[]⟩, 0⟩ = true := ok_carry hp (by decide) hb ⟨by decide, by decide⟩ (by decide); took g (go_st g s2 s3 hq) s4 w)
  have hk0 : (0 : Int) ≤ (k : Int) := by omega
  have hk7 : (k : Int) ≤ 7 := by omega
  clear s1 s2 s3 s4
  clear CT
  generalize iotaS 40 = A at *
  generalize ansS 0 0 (k : Int) = TX at *
  go_enter Try.func7, Try.ntmps7
  go_upto_region 4 with (first | (go_at_call 12; refine (CW.out _).mono ?_; rintro e1 w1 ⟨rfl, hb⟩; replace hB := thenB hB hb; clear hb) | (go_at_call 13; refine (CC.out _).mono ?_; rintro e1 w2 ⟨rfl, hb⟩; replace hB := thenB hB hb; clear hb))
  have hX := sevRM w2 (.int .i64 1) (.string A) (.int .i64 0) (.bool false) (.int .i64 0) (.string ⟨#[]⟩) (.int .i64 0) 23
  have hn := hal w2 (.cells #[.int .i64 1, .string A, .int .i64 0, .bool false, .int .i64 0, .string ⟨#[]⟩, .int .i64 0] 23)
  have hl := hB.size
  replace hB := thenB hB hn
  clear hn CW CC
  generalize w2.alloc _ = W3 at *
  generalize w2.heap.size = G1 at *
  have hl1 := hX.1
  have hn := hal W3 (.cells #[.int .i64 1, .int .i64 3, .int .i64 5] 3)
  replace hB := thenB hB hn
  replace hX := sevRB hX hn
  clear hn hl1
  go_upto_region 5 with fail
  generalize W3.alloc _ = W3b at *
  replace hX := HstSet.set0 hX (.int .i64 1)
  replace hB := hB.setCell (p := ⟨G1, 0, none⟩) hl (.int .i64 1)
  generalize (World.setCell W3b _ _) = W4 at *
  go_upto_region 8 with fail
  replace hX := HstSet.set3 hX (.bool true)
  replace hB := hB.setCell (p := ⟨G1, 3, none⟩) hl (.bool true)
  generalize (World.setCell W4 _ _) = W5 at *
  clear hl
  go_wp2_with fail
  go_ret
  exact ⟨rfl, hB⟩
set_option maxRecDepth 100000 in
set_option maxHeartbeats 8000000 in
theorem way3 (a0 a1 : Int) (w : World) (hm : wrap64 ((IntKind.u64.wrap a0).tmod 3) = 0) : Calls Try.prog 7 #[.int .i64 a0, .int .i64 a1, .bool true, .bool true] w fun e w' => e = .returned (.bool true) ∧ Below w.heap.size w w' := by
  have hB := Below.refl w.heap.size w
  obtain ⟨k, hk, mk⟩ : ∃ k : Nat, k ≤ 7 ∧ bits .and .i64 a1 7 = (k : Int) := mask_i64 a1 7 (by omega)
  have b1 := build_as
  have b2 := build_rt
  have CW := hide (fun w => awake_any w)
  have CC := hide (fun w => carrying23_any 40 w (by decide) (by decide))
  obtain ⟨s1, s2, s3, s4⟩ := ans_state hk
  have CP := hide (fun w => ans_is s1 w)
  have CT := hide (fun (p b : Int) (a : Bool) (hp : 1 ≤ p ∧ p ≤ 6) (hb : 0 ≤ b ∧ 32 * b < ((40 : Nat) : Int) + 32) (hq : p = 1 ∧ a = false ∨ p = 3 ∨ p = 5) w => have g : okH ⟨p, iotaS 40, b, a, 0, ⟨#[]⟩, 0⟩ = true := ok_carry hp (by decide) hb ⟨by decide, by decide⟩ (by decide); took g (go_st g s2 s3 hq) s4 w)
  have hk0 : (0 : Int) ≤ (k : Int) := by omega
  have hk7 : (k : Int) ≤ 7 := by omega
  clear s1 s2 s3 s4
  clear CT
  generalize iotaS 40 = A at *
  generalize ansS 0 0 (k : Int) = TX at *
  go_enter Try.func7, Try.ntmps7
  go_upto_region 4 with (first | (go_at_call 12; refine (CW.out _).mono ?_; rintro e1 w1 ⟨rfl, hb⟩; replace hB := thenB hB hb; clear hb) | (go_at_call 13; refine (CC.out _).mono ?_; rintro e1 w2 ⟨rfl, hb⟩; replace hB := thenB hB hb; clear hb))
  have hX := sevRM w2 (.int .i64 1) (.string A) (.int .i64 0) (.bool false) (.int .i64 0) (.string ⟨#[]⟩) (.int .i64 0) 23
  have hn := hal w2 (.cells #[.int .i64 1, .string A, .int .i64 0, .bool false, .int .i64 0, .string ⟨#[]⟩, .int .i64 0] 23)
  have hl := hB.size
  replace hB := thenB hB hn
  clear hn CW CC
  generalize w2.alloc _ = W3 at *
  generalize w2.heap.size = G1 at *
  have hl1 := hX.1
  have hn := hal W3 (.cells #[.int .i64 1, .int .i64 3, .int .i64 5] 3)
  replace hB := thenB hB hn
  replace hX := sevRB hX hn
  clear hn hl1
  go_upto_region 5 with fail
  generalize W3.alloc _ = W3b at *
  replace hX := HstSet.set0 hX (.int .i64 1)
  replace hB := hB.setCell (p := ⟨G1, 0, none⟩) hl (.int .i64 1)
  generalize (World.setCell W3b _ _) = W4 at *
  go_upto_region 8 with fail
  replace hX := HstSet.set3 hX (.bool true)
  replace hB := hB.setCell (p := ⟨G1, 3, none⟩) hl (.bool true)
  replace hX := HstSet.set2 hX (.int .i64 1)
  replace hB := hB.setCell (p := ⟨G1, 2, none⟩) hl (.int .i64 1)
  generalize (World.setCell (World.setCell W4 _ _) _ _) = W5 at *
  clear hl
  go_wp2_with fail
  go_ret
  exact ⟨rfl, hB⟩
set_option maxRecDepth 100000 in
set_option maxHeartbeats 8000000 in
theorem way4 (a0 a1 : Int) (w : World) (hm : wrap64 ((IntKind.u64.wrap a0).tmod 3) = 1) : Calls Try.prog 7 #[.int .i64 a0, .int .i64 a1, .bool false, .bool false] w fun e w' => e = .returned (.bool true) ∧ Below w.heap.size w w' := by
  have hB := Below.refl w.heap.size w
  obtain ⟨k, hk, mk⟩ : ∃ k : Nat, k ≤ 7 ∧ bits .and .i64 a1 7 = (k : Int) := mask_i64 a1 7 (by omega)
  have b1 := build_as
  have b2 := build_rt
  have CW := hide (fun w => awake_any w)
  have CC := hide (fun w => carrying23_any 40 w (by decide) (by decide))
  obtain ⟨s1, s2, s3, s4⟩ := ans_state hk
  have CP := hide (fun w => ans_is s1 w)
  have CT := hide (fun (p b : Int) (a : Bool) (hp : 1 ≤ p ∧ p ≤ 6) (hb : 0 ≤ b ∧ 32 * b < ((40 : Nat) : Int) + 32) (hq : p = 1 ∧ a = false ∨ p = 3 ∨ p = 5) w => have g : okH ⟨p, iotaS 40, b, a, 0, ⟨#[]⟩, 0⟩ = true := ok_carry hp (by decide) hb ⟨by decide, by decide⟩ (by decide); took g (go_st g s2 s3 hq) s4 w)
  have hk0 : (0 : Int) ≤ (k : Int) := by omega
  have hk7 : (k : Int) ≤ 7 := by omega
  clear s1 s2 s3 s4
  have CU := hide (CT.out 3 0 false (by decide) (by decide) (by decide))
  unfold Taken at CU
  obtain ⟨X, hX0⟩ : ∃ X, X = stH ⟨3, iotaS 40, 0, false, 0, ⟨#[]⟩, 0⟩ (nP (iotaS 40) : Int) (k : Int) := ⟨_, rfl⟩
  dsimp only at CU
  rw [← hX0] at CU
  rw [nP_40] at hX0
  obtain ⟨y0, y1, y2, y3, y4, y5, y6⟩ := X
  dsimp only at CU
  have HX := hide hX0
  clear hX0
  clear CT
  generalize iotaS 40 = A at *
  generalize ansS 0 0 (k : Int) = TX at *
  go_enter Try.func7, Try.ntmps7
  go_upto_region 4 with (first | (go_at_call 12; refine (CW.out _).mono ?_; rintro e1 w1 ⟨rfl, hb⟩; replace hB := thenB hB hb; clear hb) | (go_at_call 13; refine (CC.out _).mono ?_; rintro e1 w2 ⟨rfl, hb⟩; replace hB := thenB hB hb; clear hb))
  have hX := sevRM w2 (.int .i64 1) (.string A) (.int .i64 0) (.bool false) (.int .i64 0) (.string ⟨#[]⟩) (.int .i64 0) 23
  have hn := hal w2 (.cells #[.int .i64 1, .string A, .int .i64 0, .bool false, .int .i64 0, .string ⟨#[]⟩, .int .i64 0] 23)
  have hl := hB.size
  replace hB := thenB hB hn
  clear hn CW CC
  generalize w2.alloc _ = W3 at *
  generalize w2.heap.size = G1 at *
  have hl1 := hX.1
  have hn := hal W3 (.cells #[.int .i64 1, .int .i64 3, .int .i64 5] 3)
  replace hB := thenB hB hn
  replace hX := sevRB hX hn
  clear hn hl1
  go_upto_region 5 with fail
  generalize W3.alloc _ = W3b at *
  replace hX := HstSet.set0 hX (.int .i64 3)
  replace hB := hB.setCell (p := ⟨G1, 0, none⟩) hl (.int .i64 3)
  generalize (World.setCell W3b _ _) = W4 at *
  go_upto_region 8 with fail
  replace hX := HstSet.set3 hX (.bool false)
  replace hB := hB.setCell (p := ⟨G1, 3, none⟩) hl (.bool false)
  generalize (World.setCell W4 _ _) = W5 at *
  clear hl
  go_upto_region 13 with (first | (go_at_call 15; refine (CP.out _).mono ?_; rintro e1 w6 ⟨rfl, hb⟩; replace hB := thenB hB hb; replace hX := sevRB hX hb; clear hb) | (go_at_call 9; refine (CU.out _).mono ?_; rintro e1 w7 ⟨rfl, hb⟩; replace hB := thenB hB hb; replace hX := sevRB hX hb; clear hb))
  have hY := sevRM w7 (.int .i64 y0) (.string y1) (.int .i64 y2) (.bool y3) (.int .i64 y4) (.string y5) (.int .i64 y6) 23
  have hn := hal w7 (.cells #[.int .i64 y0, .string y1, .int .i64 y2, .bool y3, .int .i64 y4, .string y5, .int .i64 y6] 23)
  replace hB := thenB hB hn
  replace hX := sevRB hX hn
  clear hn CU CP mk
  generalize w7.alloc _ = W7 at *
  generalize w7.heap.size = G7 at *
  have hn := hal W7 (.cells #[.string ⟨#[115, 46, 46, 99, 46, 46, 99, 99]⟩, .string ⟨#[99, 46, 46, 115, 99, 99, 99, 99]⟩, .string ⟨#[114, 99, 99, 99, 46, 46, 99, 99]⟩] 9)
  replace hB := thenB hB hn
  replace hX := sevRB hX hn
  replace hY := sevRB hY hn
  clear hn
  go_upto_region 16 with (go_at_call 11; refine (num_any _ _).mono ?_; rintro e1 W7 ⟨rfl, rfl⟩)
  generalize W7.alloc _ = W8 at *
  have hq := HX.out
  clear HX
  obtain rfl | rfl | rfl | rfl | rfl | rfl | rfl | rfl : k = 0 ∨ k = 1 ∨ k = 2 ∨ k = 3 ∨ k = 4 ∨ k = 5 ∨ k = 6 ∨ k = 7 := by omega
  · replace hq : (⟨y0, y1, y2, y3, y4, y5, y6⟩ : FHost) = ⟨1, A, 0, false, 1, ⟨#[]⟩, 0⟩ := hq
    cases hq
    go_wp2_with fail
    go_ret
    exact ⟨rfl, hB⟩
  · replace hq : (⟨y0, y1, y2, y3, y4, y5, y6⟩ : FHost) = ⟨3, A, 0, false, 0, ⟨#[]⟩, 0⟩ := hq
    cases hq
    go_wp2_with fail
    go_ret
    exact ⟨rfl, hB⟩
  · replace hq : (⟨y0, y1, y2, y3, y4, y5, y6⟩ : FHost) = ⟨3, A, 0, false, 0, ⟨#[]⟩, 0⟩ := hq
    cases hq
    go_wp2_with fail
    go_ret
    exact ⟨rfl, hB⟩
  · replace hq : (⟨y0, y1, y2, y3, y4, y5, y6⟩ : FHost) = ⟨2, A, 1, false, 0, ⟨#[]⟩, 0⟩ := hq
    cases hq
    go_wp2_with fail
    go_ret
    exact ⟨rfl, hB⟩
  · replace hq : (⟨y0, y1, y2, y3, y4, y5, y6⟩ : FHost) = ⟨1, A, 0, false, 1, ⟨#[]⟩, 0⟩ := hq
    cases hq
    go_wp2_with fail
    go_ret
    exact ⟨rfl, hB⟩
  · replace hq : (⟨y0, y1, y2, y3, y4, y5, y6⟩ : FHost) = ⟨1, A, 0, false, 1, ⟨#[]⟩, 0⟩ := hq
    cases hq
    go_wp2_with fail
    go_ret
    exact ⟨rfl, hB⟩
  · replace hq : (⟨y0, y1, y2, y3, y4, y5, y6⟩ : FHost) = ⟨1, A, 0, false, 1, ⟨#[]⟩, 0⟩ := hq
    cases hq
    go_wp2_with fail
    go_ret
    exact ⟨rfl, hB⟩
  · replace hq : (⟨y0, y1, y2, y3, y4, y5, y6⟩ : FHost) = ⟨1, A, 0, false, 1, ⟨#[]⟩, 0⟩ := hq
    cases hq
    go_wp2_with fail
    go_ret
    exact ⟨rfl, hB⟩
set_option maxRecDepth 100000 in
set_option maxHeartbeats 8000000 in
theorem way5 (a0 a1 : Int) (w : World) (hm : wrap64 ((IntKind.u64.wrap a0).tmod 3) = 1) : Calls Try.prog 7 #[.int .i64 a0, .int .i64 a1, .bool false, .bool true] w fun e w' => e = .returned (.bool true) ∧ Below w.heap.size w w' := by
  have hB := Below.refl w.heap.size w
  obtain ⟨k, hk, mk⟩ : ∃ k : Nat, k ≤ 7 ∧ bits .and .i64 a1 7 = (k : Int) := mask_i64 a1 7 (by omega)
  have b1 := build_as
  have b2 := build_rt
  have CW := hide (fun w => awake_any w)
  have CC := hide (fun w => carrying23_any 40 w (by decide) (by decide))
  obtain ⟨s1, s2, s3, s4⟩ := ans_state hk
  have CP := hide (fun w => ans_is s1 w)
  have CT := hide (fun (p b : Int) (a : Bool) (hp : 1 ≤ p ∧ p ≤ 6) (hb : 0 ≤ b ∧ 32 * b < ((40 : Nat) : Int) + 32) (hq : p = 1 ∧ a = false ∨ p = 3 ∨ p = 5) w => have g : okH ⟨p, iotaS 40, b, a, 0, ⟨#[]⟩, 0⟩ = true := ok_carry hp (by decide) hb ⟨by decide, by decide⟩ (by decide); took g (go_st g s2 s3 hq) s4 w)
  have hk0 : (0 : Int) ≤ (k : Int) := by omega
  have hk7 : (k : Int) ≤ 7 := by omega
  clear s1 s2 s3 s4
  have CU := hide (CT.out 3 1 false (by decide) (by decide) (by decide))
  unfold Taken at CU
  obtain ⟨X, hX0⟩ : ∃ X, X = stH ⟨3, iotaS 40, 1, false, 0, ⟨#[]⟩, 0⟩ (nP (iotaS 40) : Int) (k : Int) := ⟨_, rfl⟩
  dsimp only at CU
  rw [← hX0] at CU
  rw [nP_40] at hX0
  obtain ⟨y0, y1, y2, y3, y4, y5, y6⟩ := X
  dsimp only at CU
  have HX := hide hX0
  clear hX0
  clear CT
  generalize iotaS 40 = A at *
  generalize ansS 0 0 (k : Int) = TX at *
  go_enter Try.func7, Try.ntmps7
  go_upto_region 4 with (first | (go_at_call 12; refine (CW.out _).mono ?_; rintro e1 w1 ⟨rfl, hb⟩; replace hB := thenB hB hb; clear hb) | (go_at_call 13; refine (CC.out _).mono ?_; rintro e1 w2 ⟨rfl, hb⟩; replace hB := thenB hB hb; clear hb))
  have hX := sevRM w2 (.int .i64 1) (.string A) (.int .i64 0) (.bool false) (.int .i64 0) (.string ⟨#[]⟩) (.int .i64 0) 23
  have hn := hal w2 (.cells #[.int .i64 1, .string A, .int .i64 0, .bool false, .int .i64 0, .string ⟨#[]⟩, .int .i64 0] 23)
  have hl := hB.size
  replace hB := thenB hB hn
  clear hn CW CC
  generalize w2.alloc _ = W3 at *
  generalize w2.heap.size = G1 at *
  have hl1 := hX.1
  have hn := hal W3 (.cells #[.int .i64 1, .int .i64 3, .int .i64 5] 3)
  replace hB := thenB hB hn
  replace hX := sevRB hX hn
  clear hn hl1
  go_upto_region 5 with fail
  generalize W3.alloc _ = W3b at *
  replace hX := HstSet.set0 hX (.int .i64 3)
  replace hB := hB.setCell (p := ⟨G1, 0, none⟩) hl (.int .i64 3)
  generalize (World.setCell W3b _ _) = W4 at *
  go_upto_region 8 with fail
  replace hX := HstSet.set3 hX (.bool false)
  replace hB := hB.setCell (p := ⟨G1, 3, none⟩) hl (.bool false)
  replace hX := HstSet.set2 hX (.int .i64 1)
  replace hB := hB.setCell (p := ⟨G1, 2, none⟩) hl (.int .i64 1)
  generalize (World.setCell (World.setCell W4 _ _) _ _) = W5 at *
  clear hl
  go_upto_region 13 with (first | (go_at_call 15; refine (CP.out _).mono ?_; rintro e1 w6 ⟨rfl, hb⟩; replace hB := thenB hB hb; replace hX := sevRB hX hb; clear hb) | (go_at_call 9; refine (CU.out _).mono ?_; rintro e1 w7 ⟨rfl, hb⟩; replace hB := thenB hB hb; replace hX := sevRB hX hb; clear hb))
  have hY := sevRM w7 (.int .i64 y0) (.string y1) (.int .i64 y2) (.bool y3) (.int .i64 y4) (.string y5) (.int .i64 y6) 23
  have hn := hal w7 (.cells #[.int .i64 y0, .string y1, .int .i64 y2, .bool y3, .int .i64 y4, .string y5, .int .i64 y6] 23)
  replace hB := thenB hB hn
  replace hX := sevRB hX hn
  clear hn CU CP mk
  generalize w7.alloc _ = W7 at *
  generalize w7.heap.size = G7 at *
  have hn := hal W7 (.cells #[.string ⟨#[115, 46, 46, 99, 46, 46, 99, 99]⟩, .string ⟨#[99, 46, 46, 115, 99, 99, 99, 99]⟩, .string ⟨#[114, 99, 99, 99, 46, 46, 99, 99]⟩] 9)
  replace hB := thenB hB hn
  replace hX := sevRB hX hn
  replace hY := sevRB hY hn
  clear hn
  go_upto_region 16 with (go_at_call 11; refine (num_any _ _).mono ?_; rintro e1 W7 ⟨rfl, rfl⟩)
  generalize W7.alloc _ = W8 at *
  have hq := HX.out
  clear HX
  obtain rfl | rfl | rfl | rfl | rfl | rfl | rfl | rfl : k = 0 ∨ k = 1 ∨ k = 2 ∨ k = 3 ∨ k = 4 ∨ k = 5 ∨ k = 6 ∨ k = 7 := by omega
  · replace hq : (⟨y0, y1, y2, y3, y4, y5, y6⟩ : FHost) = ⟨1, A, 0, false, 1, ⟨#[]⟩, 0⟩ := hq
    cases hq
    go_wp2_with fail
    go_ret
    exact ⟨rfl, hB⟩
  · replace hq : (⟨y0, y1, y2, y3, y4, y5, y6⟩ : FHost) = ⟨3, A, 1, false, 0, ⟨#[]⟩, 0⟩ := hq
    cases hq
    go_wp2_with fail
    go_ret
    exact ⟨rfl, hB⟩
  · replace hq : (⟨y0, y1, y2, y3, y4, y5, y6⟩ : FHost) = ⟨3, A, 1, false, 0, ⟨#[]⟩, 0⟩ := hq
    cases hq
    go_wp2_with fail
    go_ret
    exact ⟨rfl, hB⟩
  · replace hq : (⟨y0, y1, y2, y3, y4, y5, y6⟩ : FHost) = ⟨4, A, 2, false, 0, ⟨#[]⟩, 0⟩ := hq
    cases hq
    go_wp2_with fail
    go_ret
    exact ⟨rfl, hB⟩
  · replace hq : (⟨y0, y1, y2, y3, y4, y5, y6⟩ : FHost) = ⟨1, A, 0, false, 1, ⟨#[]⟩, 0⟩ := hq
    cases hq
    go_wp2_with fail
    go_ret
    exact ⟨rfl, hB⟩
  · replace hq : (⟨y0, y1, y2, y3, y4, y5, y6⟩ : FHost) = ⟨1, A, 0, false, 1, ⟨#[]⟩, 0⟩ := hq
    cases hq
    go_wp2_with fail
    go_ret
    exact ⟨rfl, hB⟩
  · replace hq : (⟨y0, y1, y2, y3, y4, y5, y6⟩ : FHost) = ⟨1, A, 0, false, 1, ⟨#[]⟩, 0⟩ := hq
    cases hq
    go_wp2_with fail
    go_ret
    exact ⟨rfl, hB⟩
  · replace hq : (⟨y0, y1, y2, y3, y4, y5, y6⟩ : FHost) = ⟨1, A, 0, false, 1, ⟨#[]⟩, 0⟩ := hq
    cases hq
    go_wp2_with fail
    go_ret
    exact ⟨rfl, hB⟩
set_option maxRecDepth 100000 in
set_option maxHeartbeats 8000000 in
theorem way6 (a0 a1 : Int) (w : World) (hm : wrap64 ((IntKind.u64.wrap a0).tmod 3) = 1) : Calls Try.prog 7 #[.int .i64 a0, .int .i64 a1, .bool true, .bool false] w fun e w' => e = .returned (.bool true) ∧ Below w.heap.size w w' := by
  have hB := Below.refl w.heap.size w
  obtain ⟨k, hk, mk⟩ : ∃ k : Nat, k ≤ 7 ∧ bits .and .i64 a1 7 = (k : Int) := mask_i64 a1 7 (by omega)
  have b1 := build_as
  have b2 := build_rt
  have CW := hide (fun w => awake_any w)
  have CC := hide (fun w => carrying23_any 40 w (by decide) (by decide))
  obtain ⟨s1, s2, s3, s4⟩ := ans_state hk
  have CP := hide (fun w => ans_is s1 w)
  have CT := hide (fun (p b : Int) (a : Bool) (hp : 1 ≤ p ∧ p ≤ 6) (hb : 0 ≤ b ∧ 32 * b < ((40 : Nat) : Int) + 32) (hq : p = 1 ∧ a = false ∨ p = 3 ∨ p = 5) w => have g : okH ⟨p, iotaS 40, b, a, 0, ⟨#[]⟩, 0⟩ = true := ok_carry hp (by decide) hb ⟨by decide, by decide⟩ (by decide); took g (go_st g s2 s3 hq) s4 w)
  have hk0 : (0 : Int) ≤ (k : Int) := by omega
  have hk7 : (k : Int) ≤ 7 := by omega
  clear s1 s2 s3 s4
  have CU := hide (CT.out 3 0 true (by decide) (by decide) (by decide))
  unfold Taken at CU
  obtain ⟨X, hX0⟩ : ∃ X, X = stH ⟨3, iotaS 40, 0, true, 0, ⟨#[]⟩, 0⟩ (nP (iotaS 40) : Int) (k : Int) := ⟨_, rfl⟩
  dsimp only at CU
  rw [← hX0] at CU
  rw [nP_40] at hX0
  obtain ⟨y0, y1, y2, y3, y4, y5, y6⟩ := X
  dsimp only at CU
  have HX := hide hX0
  clear hX0
  clear CT
  generalize iotaS 40 = A at *
  generalize ansS 0 0 (k : Int) = TX at *
  go_enter Try.func7, Try.ntmps7
  go_upto_region 4 with (first | (go_at_call 12; refine (CW.out _).mono ?_; rintro e1 w1 ⟨rfl, hb⟩; replace hB := thenB hB hb; clear hb) | (go_at_call 13; refine (CC.out _).mono ?_; rintro e1 w2 ⟨rfl, hb⟩; replace hB := thenB hB hb; clear hb))
  have hX := sevRM w2 (.int .i64 1) (.string A) (.int .i64 0) (.bool false) (.int .i64 0) (.string ⟨#[]⟩) (.int .i64 0) 23
  have hn := hal w2 (.cells #[.int .i64 1, .string A, .int .i64 0, .bool false, .int .i64 0, .string ⟨#[]⟩, .int .i64 0] 23)
  have hl := hB.size
  replace hB := thenB hB hn
  clear hn CW CC
  generalize w2.alloc _ = W3 at *
  generalize w2.heap.size = G1 at *
  have hl1 := hX.1
  have hn := hal W3 (.cells #[.int .i64 1, .int .i64 3, .int .i64 5] 3)
  replace hB := thenB hB hn
  replace hX := sevRB hX hn
  clear hn hl1
  go_upto_region 5 with fail
  generalize W3.alloc _ = W3b at *
  replace hX := HstSet.set0 hX (.int .i64 3)
  replace hB := hB.setCell (p := ⟨G1, 0, none⟩) hl (.int .i64 3)
  generalize (World.setCell W3b _ _) = W4 at *
  go_upto_region 8 with fail
  replace hX := HstSet.set3 hX (.bool true)
  replace hB := hB.setCell (p := ⟨G1, 3, none⟩) hl (.bool true)
  generalize (World.setCell W4 _ _) = W5 at *
  clear hl
  go_upto_region 13 with (first | (go_at_call 15; refine (CP.out _).mono ?_; rintro e1 w6 ⟨rfl, hb⟩; replace hB := thenB hB hb; replace hX := sevRB hX hb; clear hb) | (go_at_call 9; refine (CU.out _).mono ?_; rintro e1 w7 ⟨rfl, hb⟩; replace hB := thenB hB hb; replace hX := sevRB hX hb; clear hb))
  have hY := sevRM w7 (.int .i64 y0) (.string y1) (.int .i64 y2) (.bool y3) (.int .i64 y4) (.string y5) (.int .i64 y6) 23
  have hn := hal w7 (.cells #[.int .i64 y0, .string y1, .int .i64 y2, .bool y3, .int .i64 y4, .string y5, .int .i64 y6] 23)
  replace hB := thenB hB hn
  replace hX := sevRB hX hn
  clear hn CU CP mk
  generalize w7.alloc _ = W7 at *
  generalize w7.heap.size = G7 at *
  have hn := hal W7 (.cells #[.string ⟨#[115, 46, 46, 99, 46, 46, 99, 99]⟩, .string ⟨#[99, 46, 46, 115, 99, 99, 99, 99]⟩, .string ⟨#[114, 99, 99, 99, 46, 46, 99, 99]⟩] 9)
  replace hB := thenB hB hn
  replace hX := sevRB hX hn
  replace hY := sevRB hY hn
  clear hn
  go_upto_region 16 with (go_at_call 11; refine (num_any _ _).mono ?_; rintro e1 W7 ⟨rfl, rfl⟩)
  generalize W7.alloc _ = W8 at *
  have hq := HX.out
  clear HX
  obtain rfl | rfl | rfl | rfl | rfl | rfl | rfl | rfl : k = 0 ∨ k = 1 ∨ k = 2 ∨ k = 3 ∨ k = 4 ∨ k = 5 ∨ k = 6 ∨ k = 7 := by omega
  · replace hq : (⟨y0, y1, y2, y3, y4, y5, y6⟩ : FHost) = ⟨2, A, 0, false, 0, ⟨#[]⟩, 0⟩ := hq
    cases hq
    go_wp2_with fail
    go_ret
    exact ⟨rfl, hB⟩
  · replace hq : (⟨y0, y1, y2, y3, y4, y5, y6⟩ : FHost) = ⟨3, A, 0, true, 0, ⟨#[]⟩, 0⟩ := hq
    cases hq
    go_wp2_with fail
    go_ret
    exact ⟨rfl, hB⟩
  · replace hq : (⟨y0, y1, y2, y3, y4, y5, y6⟩ : FHost) = ⟨3, A, 0, true, 0, ⟨#[]⟩, 0⟩ := hq
    cases hq
    go_wp2_with fail
    go_ret
    exact ⟨rfl, hB⟩
  · replace hq : (⟨y0, y1, y2, y3, y4, y5, y6⟩ : FHost) = ⟨2, A, 0, false, 0, ⟨#[]⟩, 0⟩ := hq
    cases hq
    go_wp2_with fail
    go_ret
    exact ⟨rfl, hB⟩
  · replace hq : (⟨y0, y1, y2, y3, y4, y5, y6⟩ : FHost) = ⟨1, A, 0, false, 1, ⟨#[]⟩, 0⟩ := hq
    cases hq
    go_wp2_with fail
    go_ret
    exact ⟨rfl, hB⟩
  · replace hq : (⟨y0, y1, y2, y3, y4, y5, y6⟩ : FHost) = ⟨1, A, 0, false, 1, ⟨#[]⟩, 0⟩ := hq
    cases hq
    go_wp2_with fail
    go_ret
    exact ⟨rfl, hB⟩
  · replace hq : (⟨y0, y1, y2, y3, y4, y5, y6⟩ : FHost) = ⟨1, A, 0, false, 1, ⟨#[]⟩, 0⟩ := hq
    cases hq
    go_wp2_with fail
    go_ret
    exact ⟨rfl, hB⟩
  · replace hq : (⟨y0, y1, y2, y3, y4, y5, y6⟩ : FHost) = ⟨1, A, 0, false, 1, ⟨#[]⟩, 0⟩ := hq
    cases hq
    go_wp2_with fail
    go_ret
    exact ⟨rfl, hB⟩
set_option maxRecDepth 100000 in
set_option maxHeartbeats 8000000 in
theorem way7 (a0 a1 : Int) (w : World) (hm : wrap64 ((IntKind.u64.wrap a0).tmod 3) = 1) : Calls Try.prog 7 #[.int .i64 a0, .int .i64 a1, .bool true, .bool true] w fun e w' => e = .returned (.bool true) ∧ Below w.heap.size w w' := by
  have hB := Below.refl w.heap.size w
  obtain ⟨k, hk, mk⟩ : ∃ k : Nat, k ≤ 7 ∧ bits .and .i64 a1 7 = (k : Int) := mask_i64 a1 7 (by omega)
  have b1 := build_as
  have b2 := build_rt
  have CW := hide (fun w => awake_any w)
  have CC := hide (fun w => carrying23_any 40 w (by decide) (by decide))
  obtain ⟨s1, s2, s3, s4⟩ := ans_state hk
  have CP := hide (fun w => ans_is s1 w)
  have CT := hide (fun (p b : Int) (a : Bool) (hp : 1 ≤ p ∧ p ≤ 6) (hb : 0 ≤ b ∧ 32 * b < ((40 : Nat) : Int) + 32) (hq : p = 1 ∧ a = false ∨ p = 3 ∨ p = 5) w => have g : okH ⟨p, iotaS 40, b, a, 0, ⟨#[]⟩, 0⟩ = true := ok_carry hp (by decide) hb ⟨by decide, by decide⟩ (by decide); took g (go_st g s2 s3 hq) s4 w)
  have hk0 : (0 : Int) ≤ (k : Int) := by omega
  have hk7 : (k : Int) ≤ 7 := by omega
  clear s1 s2 s3 s4
  have CU := hide (CT.out 3 1 true (by decide) (by decide) (by decide))
  unfold Taken at CU
  obtain ⟨X, hX0⟩ : ∃ X, X = stH ⟨3, iotaS 40, 1, true, 0, ⟨#[]⟩, 0⟩ (nP (iotaS 40) : Int) (k : Int) := ⟨_, rfl⟩
  dsimp only at CU
  rw [← hX0] at CU
  rw [nP_40] at hX0
  obtain ⟨y0, y1, y2, y3, y4, y5, y6⟩ := X
  dsimp only at CU
  have HX := hide hX0
  clear hX0
  clear CT
  generalize iotaS 40 = A at *
  generalize ansS 0 0 (k : Int) = TX at *
  go_enter Try.func7, Try.ntmps7
  go_upto_region 4 with (first | (go_at_call 12; refine (CW.out _).mono ?_; rintro e1 w1 ⟨rfl, hb⟩; replace hB := thenB hB hb; clear hb) | (go_at_call 13; refine (CC.out _).mono ?_; rintro e1 w2 ⟨rfl, hb⟩; replace hB := thenB hB hb; clear hb))
  have hX := sevRM w2 (.int .i64 1) (.string A) (.int .i64 0) (.bool false) (.int .i64 0) (.string ⟨#[]⟩) (.int .i64 0) 23
  have hn := hal w2 (.cells #[.int .i64 1, .string A, .int .i64 0, .bool false, .int .i64 0, .string ⟨#[]⟩, .int .i64 0] 23)
  have hl := hB.size
  replace hB := thenB hB hn
  clear hn CW CC
  generalize w2.alloc _ = W3 at *
  generalize w2.heap.size = G1 at *
  have hl1 := hX.1
  have hn := hal W3 (.cells #[.int .i64 1, .int .i64 3, .int .i64 5] 3)
  replace hB := thenB hB hn
  replace hX := sevRB hX hn
  clear hn hl1
  go_upto_region 5 with fail
  generalize W3.alloc _ = W3b at *
  replace hX := HstSet.set0 hX (.int .i64 3)
  replace hB := hB.setCell (p := ⟨G1, 0, none⟩) hl (.int .i64 3)
  generalize (World.setCell W3b _ _) = W4 at *
  go_upto_region 8 with fail
  replace hX := HstSet.set3 hX (.bool true)
  replace hB := hB.setCell (p := ⟨G1, 3, none⟩) hl (.bool true)
  replace hX := HstSet.set2 hX (.int .i64 1)
  replace hB := hB.setCell (p := ⟨G1, 2, none⟩) hl (.int .i64 1)
  generalize (World.setCell (World.setCell W4 _ _) _ _) = W5 at *
  clear hl
  go_upto_region 13 with (first | (go_at_call 15; refine (CP.out _).mono ?_; rintro e1 w6 ⟨rfl, hb⟩; replace hB := thenB hB hb; replace hX := sevRB hX hb; clear hb) | (go_at_call 9; refine (CU.out _).mono ?_; rintro e1 w7 ⟨rfl, hb⟩; replace hB := thenB hB hb; replace hX := sevRB hX hb; clear hb))
  have hY := sevRM w7 (.int .i64 y0) (.string y1) (.int .i64 y2) (.bool y3) (.int .i64 y4) (.string y5) (.int .i64 y6) 23
  have hn := hal w7 (.cells #[.int .i64 y0, .string y1, .int .i64 y2, .bool y3, .int .i64 y4, .string y5, .int .i64 y6] 23)
  replace hB := thenB hB hn
  replace hX := sevRB hX hn
  clear hn CU CP mk
  generalize w7.alloc _ = W7 at *
  generalize w7.heap.size = G7 at *
  have hn := hal W7 (.cells #[.string ⟨#[115, 46, 46, 99, 46, 46, 99, 99]⟩, .string ⟨#[99, 46, 46, 115, 99, 99, 99, 99]⟩, .string ⟨#[114, 99, 99, 99, 46, 46, 99, 99]⟩] 9)
  replace hB := thenB hB hn
  replace hX := sevRB hX hn
  replace hY := sevRB hY hn
  clear hn
  go_upto_region 16 with (go_at_call 11; refine (num_any _ _).mono ?_; rintro e1 W7 ⟨rfl, rfl⟩)
  generalize W7.alloc _ = W8 at *
  have hq := HX.out
  clear HX
  obtain rfl | rfl | rfl | rfl | rfl | rfl | rfl | rfl : k = 0 ∨ k = 1 ∨ k = 2 ∨ k = 3 ∨ k = 4 ∨ k = 5 ∨ k = 6 ∨ k = 7 := by omega
  · replace hq : (⟨y0, y1, y2, y3, y4, y5, y6⟩ : FHost) = ⟨1, A, 0, false, 1, ⟨#[]⟩, 0⟩ := hq
    cases hq
    go_wp2_with fail
    go_ret
    exact ⟨rfl, hB⟩
  · replace hq : (⟨y0, y1, y2, y3, y4, y5, y6⟩ : FHost) = ⟨3, A, 1, true, 0, ⟨#[]⟩, 0⟩ := hq
    cases hq
    go_wp2_with fail
    go_ret
    exact ⟨rfl, hB⟩
  · replace hq : (⟨y0, y1, y2, y3, y4, y5, y6⟩ : FHost) = ⟨3, A, 1, true, 0, ⟨#[]⟩, 0⟩ := hq
    cases hq
    go_wp2_with fail
    go_ret
    exact ⟨rfl, hB⟩
  · replace hq : (⟨y0, y1, y2, y3, y4, y5, y6⟩ : FHost) = ⟨2, A, 1, false, 0, ⟨#[]⟩, 0⟩ := hq
    cases hq
    go_wp2_with fail
    go_ret
    exact ⟨rfl, hB⟩
  · replace hq : (⟨y0, y1, y2, y3, y4, y5, y6⟩ : FHost) = ⟨1, A, 0, false, 1, ⟨#[]⟩, 0⟩ := hq
    cases hq
    go_wp2_with fail
    go_ret
    exact ⟨rfl, hB⟩
  · replace hq : (⟨y0, y1, y2, y3, y4, y5, y6⟩ : FHost) = ⟨1, A, 0, false, 1, ⟨#[]⟩, 0⟩ := hq
    cases hq
    go_wp2_with fail
    go_ret
    exact ⟨rfl, hB⟩
  · replace hq : (⟨y0, y1, y2, y3, y4, y5, y6⟩ : FHost) = ⟨1, A, 0, false, 1, ⟨#[]⟩, 0⟩ := hq
    cases hq
    go_wp2_with fail
    go_ret
    exact ⟨rfl, hB⟩
  · replace hq : (⟨y0, y1, y2, y3, y4, y5, y6⟩ : FHost) = ⟨1, A, 0, false, 1, ⟨#[]⟩, 0⟩ := hq
    cases hq
    go_wp2_with fail
    go_ret
    exact ⟨rfl, hB⟩
set_option maxRecDepth 100000 in
set_option maxHeartbeats 8000000 in
theorem way8 (a0 a1 : Int) (w : World) (hm : wrap64 ((IntKind.u64.wrap a0).tmod 3) = 2) : Calls Try.prog 7 #[.int .i64 a0, .int .i64 a1, .bool false, .bool false] w fun e w' => e = .returned (.bool true) ∧ Below w.heap.size w w' := by
  have hB := Below.refl w.heap.size w
  obtain ⟨k, hk, mk⟩ : ∃ k : Nat, k ≤ 7 ∧ bits .and .i64 a1 7 = (k : Int) := mask_i64 a1 7 (by omega)
  have b1 := build_as
  have b2 := build_rt
  have CW := hide (fun w => awake_any w)
  have CC := hide (fun w => carrying23_any 40 w (by decide) (by decide))
  obtain ⟨s1, s2, s3, s4⟩ := ans_state hk
  have CP := hide (fun w => ans_is s1 w)
  have CT := hide (fun (p b : Int) (a : Bool) (hp : 1 ≤ p ∧ p ≤ 6) (hb : 0 ≤ b ∧ 32 * b < ((40 : Nat) : Int) + 32) (hq : p = 1 ∧ a = false ∨ p = 3 ∨ p = 5) w => have g : okH ⟨p, iotaS 40, b, a, 0, ⟨#[]⟩, 0⟩ = true := ok_carry hp (by decide) hb ⟨by decide, by decide⟩ (by decide); took g (go_st g s2 s3 hq) s4 w)
  have hk0 : (0 : Int) ≤ (k : Int) := by omega
  have hk7 : (k : Int) ≤ 7 := by omega
  clear s1 s2 s3 s4
  have CU := hide (CT.out 5 0 false (by decide) (by decide) (by decide))
  unfold Taken at CU
  obtain ⟨X, hX0⟩ : ∃ X, X = stH ⟨5, iotaS 40, 0, false, 0, ⟨#[]⟩, 0⟩ (nP (iotaS 40) : Int) (k : Int) := ⟨_, rfl⟩
  dsimp only at CU
  rw [← hX0] at CU
  rw [nP_40] at hX0
  obtain ⟨y0, y1, y2, y3, y4, y5, y6⟩ := X
  dsimp only at CU
  have HX := hide hX0
  clear hX0
  clear CT
  generalize iotaS 40 = A at *
  generalize ansS 0 0 (k : Int) = TX at *
  go_enter Try.func7, Try.ntmps7
  go_upto_region 4 with (first | (go_at_call 12; refine (CW.out _).mono ?_; rintro e1 w1 ⟨rfl, hb⟩; replace hB := thenB hB hb; clear hb) | (go_at_call 13; refine (CC.out _).mono ?_; rintro e1 w2 ⟨rfl, hb⟩; replace hB := thenB hB hb; clear hb))
  have hX := sevRM w2 (.int .i64 1) (.string A) (.int .i64 0) (.bool false) (.int .i64 0) (.string ⟨#[]⟩) (.int .i64 0) 23
  have hn := hal w2 (.cells #[.int .i64 1, .string A, .int .i64 0, .bool false, .int .i64 0, .string ⟨#[]⟩, .int .i64 0] 23)
  have hl := hB.size
  replace hB := thenB hB hn
  clear hn CW CC
  generalize w2.alloc _ = W3 at *
  generalize w2.heap.size = G1 at *
  have hl1 := hX.1
  have hn := hal W3 (.cells #[.int .i64 1, .int .i64 3, .int .i64 5] 3)
  replace hB := thenB hB hn
  replace hX := sevRB hX hn
  clear hn hl1
  go_upto_region 5 with fail
  generalize W3.alloc _ = W3b at *
  replace hX := HstSet.set0 hX (.int .i64 5)
  replace hB := hB.setCell (p := ⟨G1, 0, none⟩) hl (.int .i64 5)
  generalize (World.setCell W3b _ _) = W4 at *
  go_upto_region 8 with fail
  replace hX := HstSet.set3 hX (.bool false)
  replace hB := hB.setCell (p := ⟨G1, 3, none⟩) hl (.bool false)
  generalize (World.setCell W4 _ _) = W5 at *
  clear hl
  go_upto_region 13 with (first | (go_at_call 15; refine (CP.out _).mono ?_; rintro e1 w6 ⟨rfl, hb⟩; replace hB := thenB hB hb; replace hX := sevRB hX hb; clear hb) | (go_at_call 9; refine (CU.out _).mono ?_; rintro e1 w7 ⟨rfl, hb⟩; replace hB := thenB hB hb; replace hX := sevRB hX hb; clear hb))
  have hY := sevRM w7 (.int .i64 y0) (.string y1) (.int .i64 y2) (.bool y3) (.int .i64 y4) (.string y5) (.int .i64 y6) 23
  have hn := hal w7 (.cells #[.int .i64 y0, .string y1, .int .i64 y2, .bool y3, .int .i64 y4, .string y5, .int .i64 y6] 23)
  replace hB := thenB hB hn
  replace hX := sevRB hX hn
  clear hn CU CP mk
  generalize w7.alloc _ = W7 at *
  generalize w7.heap.size = G7 at *
  have hn := hal W7 (.cells #[.string ⟨#[115, 46, 46, 99, 46, 46, 99, 99]⟩, .string ⟨#[99, 46, 46, 115, 99, 99, 99, 99]⟩, .string ⟨#[114, 99, 99, 99, 46, 46, 99, 99]⟩] 9)
  replace hB := thenB hB hn
  replace hX := sevRB hX hn
  replace hY := sevRB hY hn
  clear hn
  go_upto_region 16 with (go_at_call 11; refine (num_any _ _).mono ?_; rintro e1 W7 ⟨rfl, rfl⟩)
  generalize W7.alloc _ = W8 at *
  have hq := HX.out
  clear HX
  obtain rfl | rfl | rfl | rfl | rfl | rfl | rfl | rfl : k = 0 ∨ k = 1 ∨ k = 2 ∨ k = 3 ∨ k = 4 ∨ k = 5 ∨ k = 6 ∨ k = 7 := by omega
  · replace hq : (⟨y0, y1, y2, y3, y4, y5, y6⟩ : FHost) = ⟨6, A, 0, false, 0, ⟨#[]⟩, 0⟩ := hq
    cases hq
    go_wp2_with fail
    go_ret
    exact ⟨rfl, hB⟩
  · replace hq : (⟨y0, y1, y2, y3, y4, y5, y6⟩ : FHost) = ⟨1, A, 0, false, 1, ⟨#[]⟩, 0⟩ := hq
    cases hq
    go_wp2_with fail
    go_ret
    exact ⟨rfl, hB⟩
  · replace hq : (⟨y0, y1, y2, y3, y4, y5, y6⟩ : FHost) = ⟨1, A, 0, false, 1, ⟨#[]⟩, 0⟩ := hq
    cases hq
    go_wp2_with fail
    go_ret
    exact ⟨rfl, hB⟩
  · replace hq : (⟨y0, y1, y2, y3, y4, y5, y6⟩ : FHost) = ⟨1, A, 0, false, 1, ⟨#[]⟩, 0⟩ := hq
    cases hq
    go_wp2_with fail
    go_ret
    exact ⟨rfl, hB⟩
  · replace hq : (⟨y0, y1, y2, y3, y4, y5, y6⟩ : FHost) = ⟨5, A, 0, false, 0, ⟨#[]⟩, 0⟩ := hq
    cases hq
    go_wp2_with fail
    go_ret
    exact ⟨rfl, hB⟩
  · replace hq : (⟨y0, y1, y2, y3, y4, y5, y6⟩ : FHost) = ⟨5, A, 0, false, 0, ⟨#[]⟩, 0⟩ := hq
    cases hq
    go_wp2_with fail
    go_ret
    exact ⟨rfl, hB⟩
  · replace hq : (⟨y0, y1, y2, y3, y4, y5, y6⟩ : FHost) = ⟨1, A, 0, false, 1, ⟨#[]⟩, 0⟩ := hq
    cases hq
    go_wp2_with fail
    go_ret
    exact ⟨rfl, hB⟩
  · replace hq : (⟨y0, y1, y2, y3, y4, y5, y6⟩ : FHost) = ⟨1, A, 0, false, 1, ⟨#[]⟩, 0⟩ := hq
    cases hq
    go_wp2_with fail
    go_ret
    exact ⟨rfl, hB⟩
set_option maxRecDepth 100000 in
set_option maxHeartbeats 8000000 in
theorem way9 (a0 a1 : Int) (w : World) (hm : wrap64 ((IntKind.u64.wrap a0).tmod 3) = 2) : Calls Try.prog 7 #[.int .i64 a0, .int .i64 a1, .bool false, .bool true] w fun e w' => e = .returned (.bool true) ∧ Below w.heap.size w w' := by
  have hB := Below.refl w.heap.size w
  obtain ⟨k, hk, mk⟩ : ∃ k : Nat, k ≤ 7 ∧ bits .and .i64 a1 7 = (k : Int) := mask_i64 a1 7 (by omega)
  have b1 := build_as
  have b2 := build_rt
  have CW := hide (fun w => awake_any w)
  have CC := hide (fun w => carrying23_any 40 w (by decide) (by decide))
  obtain ⟨s1, s2, s3, s4⟩ := ans_state hk
  have CP := hide (fun w => ans_is s1 w)
  have CT := hide (fun (p b : Int) (a : Bool) (hp : 1 ≤ p ∧ p ≤ 6) (hb : 0 ≤ b ∧ 32 * b < ((40 : Nat) : Int) + 32) (hq : p = 1 ∧ a = false ∨ p = 3 ∨ p = 5) w => have g : okH ⟨p, iotaS 40, b, a, 0, ⟨#[]⟩, 0⟩ = true := ok_carry hp (by decide) hb ⟨by decide, by decide⟩ (by decide); took g (go_st g s2 s3 hq) s4 w)
  have hk0 : (0 : Int) ≤ (k : Int) := by omega
  have hk7 : (k : Int) ≤ 7 := by omega
  clear s1 s2 s3 s4
  have CU := hide (CT.out 5 1 false (by decide) (by decide) (by decide))
  unfold Taken at CU
  obtain ⟨X, hX0⟩ : ∃ X, X = stH ⟨5, iotaS 40, 1, false, 0, ⟨#[]⟩, 0⟩ (nP (iotaS 40) : Int) (k : Int) := ⟨_, rfl⟩
  dsimp only at CU
  rw [← hX0] at CU
  rw [nP_40] at hX0
  obtain ⟨y0, y1, y2, y3, y4, y5, y6⟩ := X
  dsimp only at CU
  have HX := hide hX0
  clear hX0
  clear CT
  generalize iotaS 40 = A at *
  generalize ansS 0 0 (k : Int) = TX at *
  go_enter Try.func7, Try.ntmps7
  go_upto_region 4 with (first | (go_at_call 12; refine (CW.out _).mono ?_; rintro e1 w1 ⟨rfl, hb⟩; replace hB := thenB hB hb; clear hb) | (go_at_call 13; refine (CC.out _).mono ?_; rintro e1 w2 ⟨rfl, hb⟩; replace hB := thenB hB hb; clear hb))
  have hX := sevRM w2 (.int .i64 1) (.string A) (.int .i64 0) (.bool false) (.int .i64 0) (.string ⟨#[]⟩) (.int .i64 0) 23
  have hn := hal w2 (.cells #[.int .i64 1, .string A, .int .i64 0, .bool false, .int .i64 0, .string ⟨#[]⟩, .int .i64 0] 23)
  have hl := hB.size
  replace hB := thenB hB hn
  clear hn CW CC
  generalize w2.alloc _ = W3 at *
  generalize w2.heap.size = G1 at *
  have hl1 := hX.1
  have hn := hal W3 (.cells #[.int .i64 1, .int .i64 3, .int .i64 5] 3)
  replace hB := thenB hB hn
  replace hX := sevRB hX hn
  clear hn hl1
  go_upto_region 5 with fail
  generalize W3.alloc _ = W3b at *
  replace hX := HstSet.set0 hX (.int .i64 5)
  replace hB := hB.setCell (p := ⟨G1, 0, none⟩) hl (.int .i64 5)
  generalize (World.setCell W3b _ _) = W4 at *
  go_upto_region 8 with fail
  replace hX := HstSet.set3 hX (.bool false)
  replace hB := hB.setCell (p := ⟨G1, 3, none⟩) hl (.bool false)
  replace hX := HstSet.set2 hX (.int .i64 1)
  replace hB := hB.setCell (p := ⟨G1, 2, none⟩) hl (.int .i64 1)
  generalize (World.setCell (World.setCell W4 _ _) _ _) = W5 at *
  clear hl
  go_upto_region 13 with (first | (go_at_call 15; refine (CP.out _).mono ?_; rintro e1 w6 ⟨rfl, hb⟩; replace hB := thenB hB hb; replace hX := sevRB hX hb; clear hb) | (go_at_call 9; refine (CU.out _).mono ?_; rintro e1 w7 ⟨rfl, hb⟩; replace hB := thenB hB hb; replace hX := sevRB hX hb; clear hb))
  have hY := sevRM w7 (.int .i64 y0) (.string y1) (.int .i64 y2) (.bool y3) (.int .i64 y4) (.string y5) (.int .i64 y6) 23
  have hn := hal w7 (.cells #[.int .i64 y0, .string y1, .int .i64 y2, .bool y3, .int .i64 y4, .string y5, .int .i64 y6] 23)
  replace hB := thenB hB hn
  replace hX := sevRB hX hn
  clear hn CU CP mk
  generalize w7.alloc _ = W7 at *
  generalize w7.heap.size = G7 at *
  have hn := hal W7 (.cells #[.string ⟨#[115, 46, 46, 99, 46, 46, 99, 99]⟩, .string ⟨#[99, 46, 46, 115, 99, 99, 99, 99]⟩, .string ⟨#[114, 99, 99, 99, 46, 46, 99, 99]⟩] 9)
  replace hB := thenB hB hn
  replace hX := sevRB hX hn
  replace hY := sevRB hY hn
  clear hn
  go_upto_region 16 with (go_at_call 11; refine (num_any _ _).mono ?_; rintro e1 W7 ⟨rfl, rfl⟩)
  generalize W7.alloc _ = W8 at *
  have hq := HX.out
  clear HX
  obtain rfl | rfl | rfl | rfl | rfl | rfl | rfl | rfl : k = 0 ∨ k = 1 ∨ k = 2 ∨ k = 3 ∨ k = 4 ∨ k = 5 ∨ k = 6 ∨ k = 7 := by omega
  · replace hq : (⟨y0, y1, y2, y3, y4, y5, y6⟩ : FHost) = ⟨6, A, 0, false, 0, ⟨#[]⟩, 0⟩ := hq
    cases hq
    go_wp2_with fail
    go_ret
    exact ⟨rfl, hB⟩
  · replace hq : (⟨y0, y1, y2, y3, y4, y5, y6⟩ : FHost) = ⟨1, A, 0, false, 1, ⟨#[]⟩, 0⟩ := hq
    cases hq
    go_wp2_with fail
    go_ret
    exact ⟨rfl, hB⟩
  · replace hq : (⟨y0, y1, y2, y3, y4, y5, y6⟩ : FHost) = ⟨1, A, 0, false, 1, ⟨#[]⟩, 0⟩ := hq
    cases hq
    go_wp2_with fail
    go_ret
    exact ⟨rfl, hB⟩
  · replace hq : (⟨y0, y1, y2, y3, y4, y5, y6⟩ : FHost) = ⟨1, A, 0, false, 1, ⟨#[]⟩, 0⟩ := hq
    cases hq
    go_wp2_with fail
    go_ret
    exact ⟨rfl, hB⟩
  · replace hq : (⟨y0, y1, y2, y3, y4, y5, y6⟩ : FHost) = ⟨5, A, 1, false, 0, ⟨#[]⟩, 0⟩ := hq
    cases hq
    go_wp2_with fail
    go_ret
    exact ⟨rfl, hB⟩
  · replace hq : (⟨y0, y1, y2, y3, y4, y5, y6⟩ : FHost) = ⟨5, A, 1, false, 0, ⟨#[]⟩, 0⟩ := hq
    cases hq
    go_wp2_with fail
    go_ret
    exact ⟨rfl, hB⟩
  · replace hq : (⟨y0, y1, y2, y3, y4, y5, y6⟩ : FHost) = ⟨1, A, 0, false, 1, ⟨#[]⟩, 0⟩ := hq
    cases hq
    go_wp2_with fail
    go_ret
    exact ⟨rfl, hB⟩
  · replace hq : (⟨y0, y1, y2, y3, y4, y5, y6⟩ : FHost) = ⟨1, A, 0, false, 1, ⟨#[]⟩, 0⟩ := hq
    cases hq
    go_wp2_with fail
    go_ret
    exact ⟨rfl, hB⟩
set_option maxRecDepth 100000 in
set_option maxHeartbeats 8000000 in
theorem way10 (a0 a1 : Int) (w : World) (hm : wrap64 ((IntKind.u64.wrap a0).tmod 3) = 2) : Calls Try.prog 7 #[.int .i64 a0, .int .i64 a1, .bool true, .bool false] w fun e w' => e = .returned (.bool true) ∧ Below w.heap.size w w' := by
  have hB := Below.refl w.heap.size w
  obtain ⟨k, hk, mk⟩ : ∃ k : Nat, k ≤ 7 ∧ bits .and .i64 a1 7 = (k : Int) := mask_i64 a1 7 (by omega)
  have b1 := build_as
  have b2 := build_rt
  have CW := hide (fun w => awake_any w)
  have CC := hide (fun w => carrying23_any 40 w (by decide) (by decide))
  obtain ⟨s1, s2, s3, s4⟩ := ans_state hk
  have CP := hide (fun w => ans_is s1 w)
  have CT := hide (fun (p b : Int) (a : Bool) (hp : 1 ≤ p ∧ p ≤ 6) (hb : 0 ≤ b ∧ 32 * b < ((40 : Nat) : Int) + 32) (hq : p = 1 ∧ a = false ∨ p = 3 ∨ p = 5) w => have g : okH ⟨p, iotaS 40, b, a, 0, ⟨#[]⟩, 0⟩ = true := ok_carry hp (by decide) hb ⟨by decide, by decide⟩ (by decide); took g (go_st g s2 s3 hq) s4 w)
  have hk0 : (0 : Int) ≤ (k : Int) := by omega
  have hk7 : (k : Int) ≤ 7 := by omega
  clear s1 s2 s3 s4
  have CU := hide (CT.out 5 0 true (by decide) (by decide) (by decide))
  unfold Taken at CU
  obtain ⟨X, hX0⟩ : ∃ X, X = stH ⟨5, iotaS 40, 0, true, 0, ⟨#[]⟩, 0⟩ (nP (iotaS 40) : Int) (k : Int) := ⟨_, rfl⟩
  dsimp only at CU
  rw [← hX0] at CU
  rw [nP_40] at hX0
  obtain ⟨y0, y1, y2, y3, y4, y5, y6⟩ := X
  dsimp only at CU
  have HX := hide hX0
  clear hX0
  clear CT
  generalize iotaS 40 = A at *
  generalize ansS 0 0 (k : Int) = TX at *
  go_enter Try.func7, Try.ntmps7
  go_upto_region 4 with (first | (go_at_call 12; refine (CW.out _).mono ?_; rintro e1 w1 ⟨rfl, hb⟩; replace hB := thenB hB hb; clear hb) | (go_at_call 13; refine (CC.out _).mono ?_; rintro e1 w2 ⟨rfl, hb⟩; replace hB := thenB hB hb; clear hb))
  have hX := sevRM w2 (.int .i64 1) (.string A) (.int .i64 0) (.bool false) (.int .i64 0) (.string ⟨#[]⟩) (.int .i64 0) 23
  have hn := hal w2 (.cells #[.int .i64 1, .string A, .int .i64 0, .bool false, .int .i64 0, .string ⟨#[]⟩, .int .i64 0] 23)
  have hl := hB.size
  replace hB := thenB hB hn
  clear hn CW CC
  generalize w2.alloc _ = W3 at *
  generalize w2.heap.size = G1 at *
  have hl1 := hX.1
  have hn := hal W3 (.cells #[.int .i64 1, .int .i64 3, .int .i64 5] 3)
  replace hB := thenB hB hn
  replace hX := sevRB hX hn
  clear hn hl1
  go_upto_region 5 with fail
  generalize W3.alloc _ = W3b at *
  replace hX := HstSet.set0 hX (.int .i64 5)
  replace hB := hB.setCell (p := ⟨G1, 0, none⟩) hl (.int .i64 5)
  generalize (World.setCell W3b _ _) = W4 at *
  go_upto_region 8 with fail
  replace hX := HstSet.set3 hX (.bool true)
  replace hB := hB.setCell (p := ⟨G1, 3, none⟩) hl (.bool true)
  generalize (World.setCell W4 _ _) = W5 at *
  clear hl
  go_upto_region 13 with (first | (go_at_call 15; refine (CP.out _).mono ?_; rintro e1 w6 ⟨rfl, hb⟩; replace hB := thenB hB hb; replace hX := sevRB hX hb; clear hb) | (go_at_call 9; refine (CU.out _).mono ?_; rintro e1 w7 ⟨rfl, hb⟩; replace hB := thenB hB hb; replace hX := sevRB hX hb; clear hb))
  have hY := sevRM w7 (.int .i64 y0) (.string y1) (.int .i64 y2) (.bool y3) (.int .i64 y4) (.string y5) (.int .i64 y6) 23
  have hn := hal w7 (.cells #[.int .i64 y0, .string y1, .int .i64 y2, .bool y3, .int .i64 y4, .string y5, .int .i64 y6] 23)
  replace hB := thenB hB hn
  replace hX := sevRB hX hn
  clear hn CU CP mk
  generalize w7.alloc _ = W7 at *
  generalize w7.heap.size = G7 at *
  have hn := hal W7 (.cells #[.string ⟨#[115, 46, 46, 99, 46, 46, 99, 99]⟩, .string ⟨#[99, 46, 46, 115, 99, 99, 99, 99]⟩, .string ⟨#[114, 99, 99, 99, 46, 46, 99, 99]⟩] 9)
  replace hB := thenB hB hn
  replace hX := sevRB hX hn
  replace hY := sevRB hY hn
  clear hn
  go_upto_region 16 with (go_at_call 11; refine (num_any _ _).mono ?_; rintro e1 W7 ⟨rfl, rfl⟩)
  generalize W7.alloc _ = W8 at *
  have hq := HX.out
  clear HX
  obtain rfl | rfl | rfl | rfl | rfl | rfl | rfl | rfl : k = 0 ∨ k = 1 ∨ k = 2 ∨ k = 3 ∨ k = 4 ∨ k = 5 ∨ k = 6 ∨ k = 7 := by omega
  · replace hq : (⟨y0, y1, y2, y3, y4, y5, y6⟩ : FHost) = ⟨6, A, 0, false, 0, ⟨#[]⟩, 0⟩ := hq
    cases hq
    go_wp2_with fail
    go_ret
    exact ⟨rfl, hB⟩
  · replace hq : (⟨y0, y1, y2, y3, y4, y5, y6⟩ : FHost) = ⟨1, A, 0, false, 1, ⟨#[]⟩, 0⟩ := hq
    cases hq
    go_wp2_with fail
    go_ret
    exact ⟨rfl, hB⟩
  · replace hq : (⟨y0, y1, y2, y3, y4, y5, y6⟩ : FHost) = ⟨1, A, 0, false, 1, ⟨#[]⟩, 0⟩ := hq
    cases hq
    go_wp2_with fail
    go_ret
    exact ⟨rfl, hB⟩
  · replace hq : (⟨y0, y1, y2, y3, y4, y5, y6⟩ : FHost) = ⟨4, A, 0, false, 0, ⟨#[]⟩, 0⟩ := hq
    cases hq
    go_wp2_with fail
    go_ret
    exact ⟨rfl, hB⟩
  · replace hq : (⟨y0, y1, y2, y3, y4, y5, y6⟩ : FHost) = ⟨5, A, 0, true, 0, ⟨#[]⟩, 0⟩ := hq
    cases hq
    go_wp2_with fail
    go_ret
    exact ⟨rfl, hB⟩
  · replace hq : (⟨y0, y1, y2, y3, y4, y5, y6⟩ : FHost) = ⟨5, A, 0, true, 0, ⟨#[]⟩, 0⟩ := hq
    cases hq
    go_wp2_with fail
    go_ret
    exact ⟨rfl, hB⟩
  · replace hq : (⟨y0, y1, y2, y3, y4, y5, y6⟩ : FHost) = ⟨1, A, 0, false, 1, ⟨#[]⟩, 0⟩ := hq
    cases hq
    go_wp2_with fail
    go_ret
    exact ⟨rfl, hB⟩
  · replace hq : (⟨y0, y1, y2, y3, y4, y5, y6⟩ : FHost) = ⟨1, A, 0, false, 1, ⟨#[]⟩, 0⟩ := hq
    cases hq
    go_wp2_with fail
    go_ret
    exact ⟨rfl, hB⟩
set_option maxRecDepth 100000 in
set_option maxHeartbeats 8000000 in
theorem way11 (a0 a1 : Int) (w : World) (hm : wrap64 ((IntKind.u64.wrap a0).tmod 3) = 2) : Calls Try.prog 7 #[.int .i64 a0, .int .i64 a1, .bool true, .bool true] w fun e w' => e = .returned (.bool true) ∧ Below w.heap.size w w' := by
  have hB := Below.refl w.heap.size w
  obtain ⟨k, hk, mk⟩ : ∃ k : Nat, k ≤ 7 ∧ bits .and .i64 a1 7 = (k : Int) := mask_i64 a1 7 (by omega)
  have b1 := build_as
  have b2 := build_rt
  have CW := hide (fun w => awake_any w)
  have CC := hide (fun w => carrying23_any 40 w (by decide) (by decide))
  obtain ⟨s1, s2, s3, s4⟩ := ans_state hk
  have CP := hide (fun w => ans_is s1 w)
  have CT := hide (fun (p b : Int) (a : Bool) (hp : 1 ≤ p ∧ p ≤ 6) (hb : 0 ≤ b ∧ 32 * b < ((40 : Nat) : Int) + 32) (hq : p = 1 ∧ a = false ∨ p = 3 ∨ p = 5) w => have g : okH ⟨p, iotaS 40, b, a, 0, ⟨#[]⟩, 0⟩ = true := ok_carry hp (by decide) hb ⟨by decide, by decide⟩ (by decide); took g (go_st g s2 s3 hq) s4 w)
  have hk0 : (0 : Int) ≤ (k : Int) := by omega
  have hk7 : (k : Int) ≤ 7 := by omega
  clear s1 s2 s3 s4
  have CU := hide (CT.out 5 1 true (by decide) (by decide) (by decide))
  unfold Taken at CU
  obtain ⟨X, hX0⟩ : ∃ X, X = stH ⟨5, iotaS 40, 1, true, 0, ⟨#[]⟩, 0⟩ (nP (iotaS 40) : Int) (k : Int) := ⟨_, rfl⟩
  dsimp only at CU
  rw [← hX0] at CU
  rw [nP_40] at hX0
  obtain ⟨y0, y1, y2, y3, y4, y5, y6⟩ := X
  dsimp only at CU
  have HX := hide hX0
  clear hX0
  clear CT
  generalize iotaS 40 = A at *
  generalize ansS 0 0 (k : Int) = TX at *
  go_enter Try.func7, Try.ntmps7
  go_upto_region 4 with (first | (go_at_call 12; refine (CW.out _).mono ?_; rintro e1 w1 ⟨rfl, hb⟩; replace hB := thenB hB hb; clear hb) | (go_at_call 13; refine (CC.out _).mono ?_; rintro e1 w2 ⟨rfl, hb⟩; replace hB := thenB hB hb; clear hb))
  have hX := sevRM w2 (.int .i64 1) (.string A) (.int .i64 0) (.bool false) (.int .i64 0) (.string ⟨#[]⟩) (.int .i64 0) 23
  have hn := hal w2 (.cells #[.int .i64 1, .string A, .int .i64 0, .bool false, .int .i64 0, .string ⟨#[]⟩, .int .i64 0] 23)
  have hl := hB.size
  replace hB := thenB hB hn
  clear hn CW CC
  generalize w2.alloc _ = W3 at *
  generalize w2.heap.size = G1 at *
  have hl1 := hX.1
  have hn := hal W3 (.cells #[.int .i64 1, .int .i64 3, .int .i64 5] 3)
  replace hB := thenB hB hn
  replace hX := sevRB hX hn
  clear hn hl1
  go_upto_region 5 with fail
  generalize W3.alloc _ = W3b at *
  replace hX := HstSet.set0 hX (.int .i64 5)
  replace hB := hB.setCell (p := ⟨G1, 0, none⟩) hl (.int .i64 5)
  generalize (World.setCell W3b _ _) = W4 at *
  go_upto_region 8 with fail
  replace hX := HstSet.set3 hX (.bool true)
  replace hB := hB.setCell (p := ⟨G1, 3, none⟩) hl (.bool true)
  replace hX := HstSet.set2 hX (.int .i64 1)
  replace hB := hB.setCell (p := ⟨G1, 2, none⟩) hl (.int .i64 1)
  generalize (World.setCell (World.setCell W4 _ _) _ _) = W5 at *
  clear hl
  go_upto_region 13 with (first | (go_at_call 15; refine (CP.out _).mono ?_; rintro e1 w6 ⟨rfl, hb⟩; replace hB := thenB hB hb; replace hX := sevRB hX hb; clear hb) | (go_at_call 9; refine (CU.out _).mono ?_; rintro e1 w7 ⟨rfl, hb⟩; replace hB := thenB hB hb; replace hX := sevRB hX hb; clear hb))
  have hY := sevRM w7 (.int .i64 y0) (.string y1) (.int .i64 y2) (.bool y3) (.int .i64 y4) (.string y5) (.int .i64 y6) 23
  have hn := hal w7 (.cells #[.int .i64 y0, .string y1, .int .i64 y2, .bool y3, .int .i64 y4, .string y5, .int .i64 y6] 23)
  replace hB := thenB hB hn
  replace hX := sevRB hX hn
  clear hn CU CP mk
  generalize w7.alloc _ = W7 at *
  generalize w7.heap.size = G7 at *
  have hn := hal W7 (.cells #[.string ⟨#[115, 46, 46, 99, 46, 46, 99, 99]⟩, .string ⟨#[99, 46, 46, 115, 99, 99, 99, 99]⟩, .string ⟨#[114, 99, 99, 99, 46, 46, 99, 99]⟩] 9)
  replace hB := thenB hB hn
  replace hX := sevRB hX hn
  replace hY := sevRB hY hn
  clear hn
  go_upto_region 16 with (go_at_call 11; refine (num_any _ _).mono ?_; rintro e1 W7 ⟨rfl, rfl⟩)
  generalize W7.alloc _ = W8 at *
  have hq := HX.out
  clear HX
  obtain rfl | rfl | rfl | rfl | rfl | rfl | rfl | rfl : k = 0 ∨ k = 1 ∨ k = 2 ∨ k = 3 ∨ k = 4 ∨ k = 5 ∨ k = 6 ∨ k = 7 := by omega
  · replace hq : (⟨y0, y1, y2, y3, y4, y5, y6⟩ : FHost) = ⟨6, A, 0, false, 0, ⟨#[]⟩, 0⟩ := hq
    cases hq
    go_wp2_with fail
    go_ret
    exact ⟨rfl, hB⟩
  · replace hq : (⟨y0, y1, y2, y3, y4, y5, y6⟩ : FHost) = ⟨1, A, 0, false, 1, ⟨#[]⟩, 0⟩ := hq
    cases hq
    go_wp2_with fail
    go_ret
    exact ⟨rfl, hB⟩
  · replace hq : (⟨y0, y1, y2, y3, y4, y5, y6⟩ : FHost) = ⟨1, A, 0, false, 1, ⟨#[]⟩, 0⟩ := hq
    cases hq
    go_wp2_with fail
    go_ret
    exact ⟨rfl, hB⟩
  · replace hq : (⟨y0, y1, y2, y3, y4, y5, y6⟩ : FHost) = ⟨4, A, 1, false, 0, ⟨#[]⟩, 0⟩ := hq
    cases hq
    go_wp2_with fail
    go_ret
    exact ⟨rfl, hB⟩
  · replace hq : (⟨y0, y1, y2, y3, y4, y5, y6⟩ : FHost) = ⟨5, A, 1, true, 0, ⟨#[]⟩, 0⟩ := hq
    cases hq
    go_wp2_with fail
    go_ret
    exact ⟨rfl, hB⟩
  · replace hq : (⟨y0, y1, y2, y3, y4, y5, y6⟩ : FHost) = ⟨5, A, 1, true, 0, ⟨#[]⟩, 0⟩ := hq
    cases hq
    go_wp2_with fail
    go_ret
    exact ⟨rfl, hB⟩
  · replace hq : (⟨y0, y1, y2, y3, y4, y5, y6⟩ : FHost) = ⟨1, A, 0, false, 1, ⟨#[]⟩, 0⟩ := hq
    cases hq
    go_wp2_with fail
    go_ret
    exact ⟨rfl, hB⟩
  · replace hq : (⟨y0, y1, y2, y3, y4, y5, y6⟩ : FHost) = ⟨1, A, 0, false, 1, ⟨#[]⟩, 0⟩ := hq
    cases hq
    go_wp2_with fail
    go_ret
    exact ⟨rfl, hB⟩
set_option maxRecDepth 100000 in
theorem walk (a0 : Int) (a1 : Int) (a2 : Bool) (a3 : Bool) (w0 : (Lit.int .i64 a0).wf = true) (w1 : (Lit.int .i64 a1).wf = true) (w : World) :
    Calls Try.prog 7 #[.int .i64 a0, .int .i64 a1, .bool a2, .bool a3] w fun e w' => e = .returned (.bool true) ∧ Below w.heap.size w w' := by
  obtain ⟨m, hm3, hm⟩ : ∃ k : Nat, k < 3 ∧ wrap64 ((IntKind.u64.wrap a0).tmod 3) = (k : Int) := mod_u64 a0 3 (by omega) (by omega)
  obtain rfl | rfl | rfl : m = 0 ∨ m = 1 ∨ m = 2 := by omega
  · cases a2 <;> cases a3
    · exact way0 a0 a1 w hm
    · exact way1 a0 a1 w hm
    · exact way2 a0 a1 w hm
    · exact way3 a0 a1 w hm
  · cases a2 <;> cases a3
    · exact way4 a0 a1 w hm
    · exact way5 a0 a1 w hm
    · exact way6 a0 a1 w hm
    · exact way7 a0 a1 w hm
  · cases a2 <;> cases a3
    · exact way8 a0 a1 w hm
    · exact way9 a0 a1 w hm
    · exact way10 a0 a1 w hm
    · exact way11 a0 a1 w hm

set_option maxRecDepth 100000 in
theorem lifted (os : Os) (started : os.Started) (H : Type) (enc : TypeId × Value → H) :
    ReturnsInHanded {} Try.checked os 7 .any (Rows.replyPollSpec.pre6 enc Try.prog Try.f7 Rows.replyPollRow.domain false) (Rows.replyPollSpec.post enc Try.prog Try.f7 false true false false) := by
  refine returnsInHanded_of_change (C := Try.checked) own started (by kernel_rfl) Try.func7
    (ChangeSpec.witness6 (enc := enc) (C := Try.checked) false ⟨#[], #[.int .i64 0, .int .i64 0, .bool false, .bool false], []⟩ 8 (by kernel_rfl) (by kernel_rfl) (by kernel_rfl) (by kernel_rfl)) ?_
  intro W base args ds gs before hval0 hW hcnd _
  have hval : ∀ (j : Nat) t v, Try.f7.params[j]? = some t → args[j]? = some v → Value.okWide Try.prog W .any base t v := hval0
  have hW' := hW
  obtain ⟨p, q, hA0, hV, rfl, hfz, hnd⟩ := hW
  have hA : DataW.TrodAll enc Try.prog W 0 (fun _ => true) true Try.f7.params.toList args.toList ds p := hA0
  rw [Try.params7] at hA hval
  obtain ⟨v0, vs0, d0, ds0, p0, q0, hargs, rfl, rfl, h0, r0⟩ := trodAll_cons hA
  obtain ⟨v1, vs1, d1, ds1, p1, q1, rfl, rfl, rfl, h1, r1⟩ := trodAll_cons r0
  obtain ⟨v2, vs2, d2, ds2, p2, q2, rfl, rfl, rfl, h2, r2⟩ := trodAll_cons r1
  obtain ⟨v3, vs3, d3, ds3, p3, q3, rfl, rfl, rfl, h3, r3⟩ := trodAll_cons r2
  obtain ⟨rfl, rfl, rfl⟩ := trodAll_nil r3
  obtain rfl : args = #[v0, v1, v2, v3] := by cases args; simp_all
  obtain ⟨rfl, rfl⟩ := trodVars_none hV
  obtain ⟨a0, rfl, rfl, rfl, w0⟩ := open_int Try.underlying3 (hval 0 3 v0 rfl rfl) h0
  obtain ⟨a1, rfl, rfl, rfl, w1⟩ := open_int Try.underlying3 (hval 1 3 v1 rfl rfl) h1
  obtain ⟨a2, rfl, rfl, rfl⟩ := open_bool Try.underlying4 (hval 2 4 v2 rfl rfl) h2
  obtain ⟨a3, rfl, rfl, rfl⟩ := open_bool Try.underlying4 (hval 3 4 v3 rfl rfl) h3
  clear hA0 hval0
  refine (walk a0 a1 a2 a3 w0 w1 W).mono fun e W' ⟨he, bel⟩ => ?_
  subst he
  exact ⟨_, rfl, _, _, _, [], _, [], hW', (trodAll_cons_mk (shut_bool Try.underlying4 _) trodAll_mk0), (trodAll_cons_mk (shut_int Try.underlying3 w0) (trodAll_cons_mk (shut_int Try.underlying3 w1) (trodAll_cons_mk (shut_bool Try.underlying4 _) (trodAll_cons_mk (shut_bool Try.underlying4 _) trodAll_mk0)))), rfl, bel.frame _, fun h => by cases h⟩

theorem over : Rows.replyPollRow.holds Try.pinned (OpenSpec.ofChange Rows.replyPollSpec) :=
  OpenClaim.holds_of_wide 7 Try.f7 rfl rfl rfl rfl rfl rfl rfl ⟨rfl, rfl, rfl, rfl, rfl⟩ rfl rfl rfl rfl rfl (by kernel_rfl) Try.func7 (by kernel_rfl)
    (of_decide_eq_true (by kernel_rfl)) (by unfold Func.isWrapper; first | (rw [if_pos (by decide +kernel)]; kernel_rfl) | (rw [if_neg (by decide +kernel)]; exact ⟨rfl, rfl⟩))
    (fun os started H enc _ => lifted os started H enc)

theorem proved : Rows.ReplyPollSaid :=
  over
#print axioms proved
end Go.Proofs.Ytgkmallikomnaaa.replyPoll
