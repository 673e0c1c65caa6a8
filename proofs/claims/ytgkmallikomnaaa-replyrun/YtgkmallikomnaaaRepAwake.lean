/- The contract of 'awake' of the laws over package reply, which asks what is known of a few replies: it answers true. -/
import Derived.Test.YtgkmallikomnaaaRepWalk
import Derived.Test.YtgkmallikomnaaaBagHsr
import Derived.Test.YtgkmallikomnaaaBagHst
import Derived.Test.YtgkmallikomnaaaBagAnr
namespace Go.Proofs.Ytgkmallikomnaaa.RepAwake
open Go.Proofs.Ytgkmallikomnaaa Go.RowKit Go.Proofs.Ytgkmallikomnaaa.Bytes Go.Proofs.Ytgkmallikomnaaa.Hst Go.Proofs.Ytgkmallikomnaaa.HstWalk Go.Proofs.Ytgkmallikomnaaa.HstAsk Go.Proofs.Ytgkmallikomnaaa.HstCarry Go.Proofs.Ytgkmallikomnaaa.Rep Go.Proofs.Ytgkmallikomnaaa.RepTake Go.Proofs.Ytgkmallikomnaaa.RepWalk
open Go.Proofs.Ytgkmallikomnaaa.IdtWalk (num_any)
open Go.Proofs.Ytgkmallikomnaaa.Ans (ansS ansB isAns aSa)
attribute [local go_sem ↓] Go.wp_at_zero Go.wp_at_succ
theorem build_r0 (w : World) : (Instr.build 25 #[]).run Try.prog w = .ok (.agg #[.bool false, .bool false, .string ⟨#[]⟩]) w := run_build w 25 _ _ (by kernel_rfl)
theorem build_rl (b : Bool) (w : World) : (Instr.build 25 #[(0, .bool b)]).run Try.prog w = .ok (.agg #[.bool b, .bool false, .string ⟨#[]⟩]) w := run_build w 25 _ _ (by kernel_rfl)
theorem build_rs (b : Bool) (w : World) : (Instr.build 25 #[(1, .bool b)]).run Try.prog w = .ok (.agg #[.bool false, .bool b, .string ⟨#[]⟩]) w := run_build w 25 _ _ (by kernel_rfl)
theorem build_rt (s : ByteArray) (w : World) : (Instr.build 25 #[(2, .string s)]).run Try.prog w = .ok (.agg #[.bool false, .bool false, .string s]) w := run_build w 25 _ _ (by kernel_rfl)
theorem build_rls (a b : Bool) (w : World) : (Instr.build 25 #[(0, .bool a), (1, .bool b)]).run Try.prog w = .ok (.agg #[.bool a, .bool b, .string ⟨#[]⟩]) w := run_build w 25 _ _ (by kernel_rfl)
theorem build_a0 (w : World) : (Instr.build 43 #[]).run Try.prog w = .ok (.agg #[.int .i64 0, .int .i64 0, .int .i64 0]) w := run_build w 43 _ _ (by kernel_rfl)
/-- A reply taken, told; refused. -/
theorem took {h X : FHost} {lo st : Bool} {t : ByteArray} (g : okH h = true) (e : takeH h lo st t = X) (hz : t.size ≤ 140737488355328) (w : World) : Calls Try.prog 9 #[.agg #[.int .i64 h.ph, .string h.im, .int .i64 h.bl, .bool h.ag, .int .i64 h.tr, .string h.rd, .int .i64 h.rp], .agg #[.bool lo, .bool st, .string t]] w (Taken w X 0) := by
  have k := take_any h lo st t w hz
  rw [e, g] at k
  exact k
theorem none_took {h : FHost} {lo st : Bool} {t : ByteArray} (g : okH h = false) (hz : t.size ≤ 140737488355328) (w : World) : Calls Try.prog 9 #[.agg #[.int .i64 h.ph, .string h.im, .int .i64 h.bl, .bool h.ag, .int .i64 h.tr, .string h.rd, .int .i64 h.rp], .agg #[.bool lo, .bool st, .string t]] w (Taken w zeroH 2300) := by
  have k := take_any h lo st t w hz
  rw [take_no lo st t g, g] at k
  exact k
/-- Any answer put: its text, and what it tells. -/
theorem ans_is {c v n : Int} (h : ansB c v n = true) (w : World) : Calls Try.prog 15 #[.agg #[.int .i64 c, .int .i64 v, .int .i64 n]] w fun e w' => e = .returned (.tuple #[.string (ansS c v n), .int .i64 0]) ∧ Below w.heap.size w w' := by
  have k := AnsRef.refPut_any c v n w
  rw [h] at k
  exact k
theorem ok_carry {p : Int} {k : Nat} {b t : Int} {a : Bool} {r : ByteArray} (h1 : 1 ≤ p ∧ p ≤ 6) (hk : 1 ≤ k ∧ k ≤ 288) (hb : 0 ≤ b ∧ 32 * b < k + 32) (ht : 0 ≤ t ∧ t ≤ 8) (hr : r.size ≤ 320) : okH ⟨p, iotaS k, b, a, t, r, 0⟩ = true := by
  have hn : (Blo.nP (iotaS k) : Int) = ((k + 31) / 32 : Nat) := by unfold Blo.nP; rw [size_iotaS]
  rw [ok_parts]
  refine ⟨may_mk a ⟨by omega, by omega⟩ ⟨by decide, by decide⟩ (by rw [size_iotaS]; exact hk) ⟨hb.1, by omega⟩ ht hr, ?_, ?_⟩
  · show ¬ p = 0; omega
  · show ¬ p = 7; omega
theorem idle_ans : isAns (ansS 0 0 0) = true ∧ aSa (ansS 0 0 0) = 0 ∧ (ansS 0 0 0).size ≤ 140737488355328 := by decide +kernel
theorem t1 (h : FHost) (g : okH h = true) (hp : h.ph = 1) (ha : h.ag = false) : takeH h false false (ansS 0 0 0) = toH h 2 0 false := by
  rw [take_ok _ _ _ g]
  show goH h _ = _
  unfold goH clearedH
  rw [if_pos hp, ha, if_neg (by decide), idle_ans.1, if_pos rfl, if_pos idle_ans.2.1]
theorem t2 (h : FHost) (g : okH h = true) (hp : h.ph = 2) (ho : overB h = false) : takeH h true false ⟨#[]⟩ = ⟨3, h.im, h.bl, true, h.tr + 1, h.rd, h.rp⟩ := by
  rw [take_ok _ _ _ g]
  show lostH h = _
  unfold lostH goneH
  rw [ho, if_neg (by decide), if_neg (by omega), if_pos hp]
theorem t3 (h : FHost) (g : okH h = true) (ho : overB h = false) : takeH h false true ⟨#[]⟩ = freshH h := by
  rw [take_ok _ _ _ g]
  show anewH h = _
  unfold anewH
  rw [ho]
  rfl
theorem t4 (h : FHost) (g : okH h = true) (ho : overB h = true) : takeH h true false ⟨#[]⟩ = overH h := by
  rw [take_ok _ _ _ g]
  show lostH h = _
  unfold lostH
  rw [ho]
  rfl
set_option maxRecDepth 100000 in
set_option maxHeartbeats 8000000 in
theorem awake_any (w : World) : Calls Try.prog 12 #[] w fun e w' => e = .returned (.bool true) ∧ Below w.heap.size w w' := by
  have b1 := build_r0
  have b2 := build_rl
  have b3 := build_rs
  have b4 := build_rt
  have b5 := build_a0
  have hB := Below.refl w.heap.size w
  have k40 : (1 : Nat) ≤ 40 ∧ 40 ≤ 288 := by decide
  have g0 : okH ⟨1, iotaS 40, 0, false, 0, ⟨#[]⟩, 0⟩ = true := ok_carry ⟨by decide, by decide⟩ k40 ⟨by decide, by decide⟩ ⟨by decide, by decide⟩ (by decide)
  have ga : okH ⟨2, iotaS 40, 0, false, 0, ⟨#[]⟩, 0⟩ = true := ok_carry ⟨by decide, by decide⟩ k40 ⟨by decide, by decide⟩ ⟨by decide, by decide⟩ (by decide)
  have gx : okH ⟨2, iotaS 40, 0, false, 8, ⟨#[]⟩, 0⟩ = true := ok_carry ⟨by decide, by decide⟩ k40 ⟨by decide, by decide⟩ ⟨by decide, by decide⟩ (by decide)
  have gd : okH ⟨7, iotaS 40, 0, false, 8, ⟨#[]⟩, 2⟩ = false := by unfold okH askB; exact Bool.and_false _
  have HI := hide (fun w => ans_is (c := 0) (v := 0) (n := 0) (by decide) w)
  have HC := hide (fun w => carrying23_any 40 w (by decide) (by decide))
  have K1 := hide (fun w => took g0 (t1 _ g0 rfl rfl) idle_ans.2.2 w)
  have K2 := hide (fun w => took (t := ⟨#[]⟩) ga (t2 _ ga rfl (by decide)) (by decide) w)
  have K3 := hide (fun w => took (t := ⟨#[]⟩) ga (t3 _ ga (by decide)) (by decide) w)
  have K4 := hide (fun w => took (t := ⟨#[]⟩) gx (t4 _ gx (by decide)) (by decide) w)
  have K5 := hide (fun w => none_took (lo := false) (st := false) (t := ⟨#[]⟩) gd (by decide) w)
  unfold Taken at K1 K2 K3 K4 K5
  unfold toH at K1
  unfold freshH at K3
  unfold overH at K4
  unfold zeroH at K5
  dsimp only at K1 K2 K3 K4 K5
  rw [show (0 : Int) + 1 = 1 from rfl] at K2 K3
  clear g0 ga gx gd
  generalize iotaS 40 = T at *
  generalize ansS 0 0 0 = I at *
  go_enter Try.func12, Try.ntmps12
  go_upto_region 3 with (first | (go_at_call 15; refine (HI.out _).mono ?_; rintro e w1 ⟨rfl, hb⟩; replace hB := thenB hB hb; clear hb) | (go_at_call 13; refine (HC.out _).mono ?_; rintro e w2 ⟨rfl, hb⟩; replace hB := thenB hB hb; clear hb) | (go_at_call 9; refine (K1.out _).mono ?_; rintro e w3 ⟨rfl, hb⟩; replace hB := thenB hB hb; clear hb))
  have hX := sevRM w3 (.int .i64 2) (.string T) (.int .i64 0) (.bool false) (.int .i64 0) (.string ⟨#[]⟩) (.int .i64 0) 23
  have hn := hal w3 (.cells #[.int .i64 2, .string T, .int .i64 0, .bool false, .int .i64 0, .string ⟨#[]⟩, .int .i64 0] 23)
  replace hB := thenB hB hn
  clear hn K1 HI HC
  generalize w3.alloc _ = W3 at *
  generalize w3.heap.size = G3 at *
  go_upto_region 4 with (go_at_call 9; refine (K2.out _).mono ?_; rintro e w4 ⟨rfl, hb⟩; replace hB := thenB hB hb; replace hX := sevRB hX hb; clear hb)
  have hY := sevRM w4 (.int .i64 3) (.string T) (.int .i64 0) (.bool true) (.int .i64 1) (.string ⟨#[]⟩) (.int .i64 0) 23
  have hn := hal w4 (.cells #[.int .i64 3, .string T, .int .i64 0, .bool true, .int .i64 1, .string ⟨#[]⟩, .int .i64 0] 23)
  replace hB := thenB hB hn
  replace hX := sevRB hX hn
  clear hn K2
  generalize w4.alloc _ = W4 at *
  generalize w4.heap.size = G4 at *
  go_upto_region 5 with (go_at_call 9; refine (K3.out _).mono ?_; rintro e w5 ⟨rfl, hb⟩; replace hB := thenB hB hb; replace hX := sevRB hX hb; replace hY := sevRB hY hb; clear hb)
  have hZ := sevRM w5 (.int .i64 1) (.string T) (.int .i64 0) (.bool false) (.int .i64 1) (.string ⟨#[]⟩) (.int .i64 0) 23
  have hn := hal w5 (.cells #[.int .i64 1, .string T, .int .i64 0, .bool false, .int .i64 1, .string ⟨#[]⟩, .int .i64 0] 23)
  replace hB := thenB hB hn
  replace hX := sevRB hX hn
  replace hY := sevRB hY hn
  clear hn K3
  generalize w5.alloc _ = W5 at *
  generalize w5.heap.size = G5 at *
  go_upto_region 6 with fail
  have hU := sevRM W5 (.int .i64 2) (.string T) (.int .i64 0) (.bool false) (.int .i64 0) (.string ⟨#[]⟩) (.int .i64 0) 23
  have hn := hal W5 (.cells #[.int .i64 2, .string T, .int .i64 0, .bool false, .int .i64 0, .string ⟨#[]⟩, .int .i64 0] 23)
  have l1 := hX.1
  have l2 := hY.1
  have l3 := hZ.1
  have l0 := hB.size
  replace hB := thenB hB hn
  replace hX := sevRB hX hn
  replace hY := sevRB hY hn
  replace hZ := sevRB hZ hn
  clear hn
  generalize W5.alloc _ = W6 at *
  generalize W5.heap.size = G6 at *
  go_upto_region 7 with fail
  replace hU := HstSet.set4 hU (.int .i64 8)
  replace hX := HstSet.setO hX (show G6 ≠ G3 by omega) 4 (.int .i64 8)
  replace hY := HstSet.setO hY (show G6 ≠ G4 by omega) 4 (.int .i64 8)
  replace hZ := HstSet.setO hZ (show G6 ≠ G5 by omega) 4 (.int .i64 8)
  replace hB := hB.setCell (p := ⟨G6, 4, none⟩) l0 (.int .i64 8)
  generalize W6.setCell _ _ = W7 at *
  clear l0 l1 l2 l3
  go_upto_region 8 with (go_at_call 9; refine (K4.out _).mono ?_; rintro e w8 ⟨rfl, hb⟩; replace hB := thenB hB hb; replace hX := sevRB hX hb; replace hY := sevRB hY hb; replace hZ := sevRB hZ hb; clear hb hU)
  have hV := sevRM w8 (.int .i64 7) (.string T) (.int .i64 0) (.bool false) (.int .i64 8) (.string ⟨#[]⟩) (.int .i64 2) 23
  have hn := hal w8 (.cells #[.int .i64 7, .string T, .int .i64 0, .bool false, .int .i64 8, .string ⟨#[]⟩, .int .i64 2] 23)
  replace hB := thenB hB hn
  replace hX := sevRB hX hn
  replace hY := sevRB hY hn
  replace hZ := sevRB hZ hn
  clear hn K4
  generalize w8.alloc _ = W8 at *
  generalize w8.heap.size = G8 at *
  go_upto_region 9 with (go_at_call 9; refine (K5.out _).mono ?_; rintro e w9 ⟨rfl, hb⟩; replace hB := thenB hB hb; replace hX := sevRB hX hb; replace hY := sevRB hY hb; replace hZ := sevRB hZ hb; replace hV := sevRB hV hb; clear hb)
  have hn := hal w9 (.cells #[.int .i64 0, .string ⟨#[]⟩, .int .i64 0, .bool false, .int .i64 0, .string ⟨#[]⟩, .int .i64 0] 23)
  replace hB := thenB hB hn
  replace hX := sevRB hX hn
  replace hY := sevRB hY hn
  replace hZ := sevRB hZ hn
  replace hV := sevRB hV hn
  clear hn K5
  generalize w9.alloc _ = W9 at *
  go_wp2_with (go_at_call 11; refine (num_any _ _).mono ?_; rintro e w' ⟨rfl, rfl⟩)
  go_ret
  exact ⟨rfl, hB⟩
end Go.Proofs.Ytgkmallikomnaaa.RepAwake
