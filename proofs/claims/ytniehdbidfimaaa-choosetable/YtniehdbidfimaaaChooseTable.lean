/- Whatever the three numbers: the law ChooseTable returns true (of two records, each good or not, the one that the document names is active, and the other slot is the other one's), and the arguments read as they did; no condition. -/
import Derived.Test.YtniehdbidfimaaaRows
import Derived.Test.YtniehdbidfimaaaChoAwake
import Derived.Test.YtniehdbidfimaaaChoTab
import Derived.Test.YtniehdbidfimaaaCrcAwake
import Derived.Test.YtniehdbidfimaaaEntRef
import Derived.BigQuiet
import Derived.Deep.Cut
import Derived.ChangeOld
import Derived.Below
import Derived.WalkKit
import Derived.ProofKit
import Derived.OpenShut
import Derived.ShutString
namespace Go.Proofs.Ytniehdbidfimaaa.chooseTable
open Go.ChangeShapes Go.WideShapes Go.ChangeAt Go.RowKit
open Go.ChangeMaps (open_string shut_string)
set_option linter.unusedVariables false

open Go.Proofs.Ytniehdbidfimaaa.Bytes
open Go.Proofs.Ytniehdbidfimaaa.NorRef
open Go.Proofs.Ytniehdbidfimaaa.Ent
open Go.Proofs.Ytniehdbidfimaaa.EntRow
open Go.Proofs.Ytniehdbidfimaaa.EntWalk
open Go.Proofs.Ytniehdbidfimaaa.EntRef
open Go.Proofs.Ytniehdbidfimaaa.Jou
open Go.Proofs.Ytniehdbidfimaaa.JouRow
open Go.Proofs.Ytniehdbidfimaaa.JouRef
open Go.Proofs.Ytniehdbidfimaaa.Act
open Go.Proofs.Ytniehdbidfimaaa.Cho
open Go.Proofs.Ytniehdbidfimaaa.ChoWalk
open Go.Proofs.Ytniehdbidfimaaa.ChoAwake
theorem own : ownKnob Try.prog.godebug = none := by kernel_rfl

theorem build_x (p m : Int) (w : World) : (Instr.build 23 #[(0, .int .i64 p), (2, .int .i64 5), (3, .int .i64 m)]).run Try.prog w = .ok (.agg #[.int .i64 p, .int .i64 0, .int .i64 5, .int .i64 m]) w := run_build w 23 _ _ (by kernel_rfl)
theorem build_y (p m : Int) (w : World) : (Instr.build 23 #[(0, .int .i64 p), (1, .int .i64 1), (2, .int .i64 6), (3, .int .i64 m)]).run Try.prog w = .ok (.agg #[.int .i64 p, .int .i64 1, .int .i64 6, .int .i64 m]) w := run_build w 23 _ _ (by kernel_rfl)
theorem build_py (q t z m : Int) (w : World) : (Instr.build 25 #[(0, .int .i64 96), (1, .agg #[.int .i64 q, .int .i64 t, .int .i64 z, .int .i64 m])]).run Try.prog w = .ok (.agg #[.int .i64 96, .int .i64 q, .int .i64 t, .int .i64 z, .int .i64 m]) w := run_build w 25 _ _ (by kernel_rfl)
theorem build_px (q t z m : Int) (w : World) : (Instr.build 25 #[(1, .agg #[.int .i64 q, .int .i64 t, .int .i64 z, .int .i64 m])]).run Try.prog w = .ok (.agg #[.int .i64 0, .int .i64 q, .int .i64 t, .int .i64 z, .int .i64 m]) w := run_build w 25 _ _ (by kernel_rfl)
theorem crc_one (w : World) : Calls Try.prog 17 #[.string ⟨#[102, 105, 114, 115, 116]⟩] w fun e w' => e = .returned (.int .i64 sumOne) ∧ w' = w := CrcAwake.ref_any one5 w (by decide)
theorem crc_two (w : World) : Calls Try.prog 17 #[.string ⟨#[115, 101, 99, 111, 110, 100]⟩] w fun e w' => e = .returned (.int .i64 sumTwo) ∧ w' = w := CrcAwake.ref_any two6 w (by decide)
theorem put_yes {q t z m : Int} (h : recMay q t z m = true) (w : World) : Calls Try.prog 18 #[.agg #[.int .i64 q, .int .i64 t, .int .i64 z, .int .i64 m]] w fun r w' => r = .returned (.tuple #[.string (putS q t z m), .int .i64 0]) ∧ Below w.heap.size w w' := by
  have g := refPut_any q t z m w
  rw [h] at g
  exact g
theorem img_is : Nor.blankS.extract 0 192 ++ ⟨#[102, 105, 114, 115, 116]⟩ ++ Nor.blankS.extract 197 480 ++ ⟨#[115, 101, 99, 111, 110, 100]⟩ ++ Nor.blankS.extract 486 Nor.blankS.size = imgs2 := rfl
theorem act_is {f : ByteArray} {p : FPl} (h : actO f = some p) (w : World) : Calls Try.prog 8 #[.string f] w fun e w' => e = .returned (.tuple #[.agg #[.int .i64 p.pa, .int .i64 p.pq, .int .i64 p.pt, .int .i64 p.pz, .int .i64 p.pm], .int .i64 0]) ∧ Below w.heap.size w w' := by
  have g := active_any f w
  rw [(act_may h).2.1, (act_may h).2.2] at g
  exact g
theorem oth_is {f : ByteArray} {p : FPl} (h : actO f = some p) (w : World) : Calls Try.prog 10 #[.string f] w fun e w' => e = .returned (.tuple #[.int .i64 (1 - p.pt), .int .i64 0]) ∧ Below w.heap.size w w' := by
  have g := other_any f w
  rw [show othI f = 1 - p.pt from by unfold othI; rw [h], show errOt f = 0 from by unfold errOt; rw [(act_may h).1]; rfl] at g
  exact g
theorem act_none0 {f : ByteArray} (hm : mayF f = true) (h : actO f = none) (w : World) : Calls Try.prog 8 #[.string f] w fun e w' => e = .returned (.tuple #[.agg #[.int .i64 0, .int .i64 0, .int .i64 0, .int .i64 0, .int .i64 0], .int .i64 701]) ∧ Below w.heap.size w w' := by
  have g := active_any f w
  rw [show actV f = zeroP from by unfold actV; rw [h]; rfl, show errA f = 701 from by unfold errA; rw [hm, h]; rfl] at g
  exact g
theorem oth_none0 {f : ByteArray} (hm : mayF f = true) (h : actO f = none) (w : World) : Calls Try.prog 10 #[.string f] w fun e w' => e = .returned (.tuple #[.int .i64 0, .int .i64 0]) ∧ Below w.heap.size w w' := by
  have g := other_any f w
  rw [show othI f = 0 from by unfold othI; rw [h], show errOt f = 0 from by unfold errOt; rw [hm]; rfl] at g
  exact g
theorem two_boxes {w' W : World} {a b c d x y z u : Value} {e : TypeId} (h : (w'.alloc (.cells #[a, b, c, d] e)).alloc (.cells #[x, y, z, u] e) = W) :
    (w'.heap.size < W.heap.size ∧ W.cell? ⟨w'.heap.size, 0, none⟩ = some a ∧ W.cell? ⟨w'.heap.size, 1, none⟩ = some b ∧ W.cell? ⟨w'.heap.size, 2, none⟩ = some c ∧ W.cell? ⟨w'.heap.size, 3, none⟩ = some d) ∧
    (w'.heap.size + 1 < W.heap.size ∧ W.cell? ⟨w'.heap.size + 1, 0, none⟩ = some x ∧ W.cell? ⟨w'.heap.size + 1, 1, none⟩ = some y ∧ W.cell? ⟨w'.heap.size + 1, 2, none⟩ = some z ∧ W.cell? ⟨w'.heap.size + 1, 3, none⟩ = some u) ∧
    (∀ w0 : World, Below w0.heap.size w0 w' → Below w0.heap.size w0 W) := by
  subst h
  have hY := boxM (w'.alloc (.cells #[a, b, c, d] e)) x y z u e
  rw [show (w'.alloc (.cells #[a, b, c, d] e)).heap.size = w'.heap.size + 1 from by simp] at hY
  refine ⟨boxB (boxM w' a b c d e) ((Below.refl _ _).alloc (Nat.le_refl _) _), hY, fun w0 hb => ?_⟩
  have h0 := hb.size
  exact (hb.alloc h0 _).alloc (by simp; omega) _
set_option maxHeartbeats 4000000 in
theorem walk (a0 : Int) (a1 : Int) (a2 : Int) (w0 : (Lit.int .i64 a0).wf = true) (w1 : (Lit.int .i64 a1).wf = true) (w2 : (Lit.int .i64 a2).wf = true) (w : World) :
    Calls Try.prog 5 #[.int .i64 a0, .int .i64 a1, .int .i64 a2] w fun e w' => e = .returned (.bool true) ∧ Below w.heap.size w w' := by
  have hB : Below w.heap.size w w := Below.refl _ _
  obtain ⟨k, hk, mk⟩ : ∃ k : Nat, k ≤ 7 ∧ bits .and .i64 a1 7 = (k : Int) := mask_i64 a1 7 (by omega)
  obtain ⟨j, hj, mj⟩ : ∃ k : Nat, k ≤ 7 ∧ bits .and .i64 a2 7 = (k : Int) := mask_i64 a2 7 (by omega)
  obtain ⟨m, hm, m1, m2, m3⟩ := which4 a0
  obtain ⟨⟨s1, s2⟩, ⟨s3, s4⟩, ⟨n1, s5, s6⟩, ⟨n2, s7, s8⟩⟩ := sums_ne
  obtain ⟨p, hp⟩ : ∃ p : Int, 1 + (k : Int) = p := ⟨_, rfl⟩
  obtain ⟨q, hq⟩ : ∃ q : Int, 1 + (j : Int) = q := ⟨_, rfl⟩
  have C1 := hide (fun w => refBlank_any w)
  have CC1 := hide (fun w => crc_one w)
  have CC2 := hide (fun w => crc_two w)
  have R1 : Hid (recMay p 0 5 sumOne = true) := recMay_parts.2 ⟨by omega, by omega, by omega, by omega, by omega, by omega, s1, s2⟩
  have R2 : Hid (recMay q 1 6 sumTwo = true) := recMay_parts.2 ⟨by omega, by omega, by omega, by omega, by omega, by omega, s3, s4⟩
  have R3 : Hid (recMay p 0 5 sumOne1 = true) := recMay_parts.2 ⟨by omega, by omega, by omega, by omega, by omega, by omega, s5, s6⟩
  have R4 : Hid (recMay q 1 6 sumTwo1 = true) := recMay_parts.2 ⟨by omega, by omega, by omega, by omega, by omega, by omega, s7, s8⟩
  have N1 := hide n1
  have N2 := hide n2
  have HI := hide img_is
  have HZ := hide size_imgs2
  have x1 : bits .xor .i64 sumOne 1 = sumOne1 := rfl
  have x2 : bits .xor .i64 sumTwo 1 = sumTwo1 := rfl
  have b1 := build_x
  have b2 := build_y
  have b3 := build_py
  have b4 := build_px
  have b5 := build_p0
  have z1 : Nor.blankS.size ≤ 768 := by rw [Nor.size_blankS]; omega
  have z2 : 768 ≤ Nor.blankS.size := by rw [Nor.size_blankS]; omega
  clear s1 s2 s3 s4 s5 s6 s7 s8 n1 n2
  generalize Nor.blankS = F at *
  obtain rfl | rfl | rfl | rfl : m = 0 ∨ m = 1 ∨ m = 2 ∨ m = 3 := by omega
  · by_cases hpq : q < p
    · have m1 : bits .and .i64 a0 1 = 0 := m1
      have m2 : bits .and .i64 a0 2 = 0 := m2
      have m3 : bits .and .i64 a0 3 = 0 := m3
      have HA : Hid (actO (tab2 (putS p 0 5 sumOne) (putS q 1 6 sumTwo)) = some ⟨0, p, 0, 5, sumOne⟩) := by
        show _ = _
        rw [tab_act R1.out R2.out, if_neg (fun h => by have := h.2 rfl; omega), if_pos rfl]
      have CX := hide (fun w => put_yes R1.out w)
      have CY := hide (fun w => put_yes R2.out w)
      have CA := hide (fun w => act_is HA.out w)
      have CO : Hid (∀ w, Calls Try.prog 10 #[.string (tab2 (putS p 0 5 sumOne) (putS q 1 6 sumTwo))] w fun e w' => e = .returned (.tuple #[.int .i64 1, .int .i64 0]) ∧ Below w.heap.size w w') := fun w => oth_is HA.out w
      have ZX := size_putS R1.out
      have ZY := size_putS R2.out
      have HT : Hid (putS p 0 5 sumOne ++ imgs2.extract 24 96 ++ putS q 1 6 sumTwo ++ imgs2.extract 120 imgs2.size = tab2 (putS p 0 5 sumOne) (putS q 1 6 sumTwo)) := rfl
      clear HA R1 R2 R3 R4 N1 N2 hm
      generalize tab2 (putS p 0 5 sumOne) (putS q 1 6 sumTwo) = T at *
      generalize putS p 0 5 sumOne = SX at *
      generalize putS q 1 6 sumTwo = SY at *
      generalize sumOne1 = M1' at *
      generalize sumTwo1 = M2' at *
      generalize sumOne = M1 at *
      generalize sumTwo = M2 at *
      generalize imgs2 = I at *
      go_enter Try.func5, Try.ntmps5
      go_upto_region 5 with (first | (go_at_call 13; refine (awake_any _).mono ?_; rintro e w' ⟨rfl, hb⟩; replace hB := hB.trans (hb.mono hB.size); clear hb) | (go_at_call 16; refine (C1.out _).mono ?_; rintro e w' ⟨rfl, hb⟩; replace hB := hB.trans (hb.mono hB.size); clear hb))
      go_quiet (fail)
      rw [HI.out]
      replace hB := bel_drewN hB nq
      generalize w'.drewN nq = W at *
      have y1 : I.size ≤ 768 := by rw [HZ.out]; omega
      have y2 : 768 ≤ I.size := by rw [HZ.out]; omega
      have y3 : SX.size ≤ 24 := by omega
      have y4 : SY.size ≤ 24 := by omega
      clear ZX ZY z1 z2
      go_wp2_with fail
      refine (CC1.out _).mono ?_; rintro e w1 ⟨rfl, rfl⟩
      go_wp2_with fail
      refine (CC2.out _).mono ?_; rintro e w2 ⟨rfl, rfl⟩
      go_upto_region 12 with fail
      generalize hW : (w1.alloc (.cells #[.int .i64 p, .int .i64 0, .int .i64 5, .int .i64 M1] 23)).alloc (.cells #[.int .i64 q, .int .i64 1, .int .i64 6, .int .i64 M2] 23) = W1 at *
      obtain ⟨hX, hY, hZ⟩ := two_boxes hW
      replace hB := hZ w hB
      clear hW hZ
      generalize w1.heap.size = B at *
      go_wp2_with fail
      refine (CX.out _).mono ?_; rintro e w3 ⟨rfl, hb⟩; replace hB := thenB hB hb; replace hX := boxB hX hb; replace hY := boxB hY hb; clear hb
      go_wp2_with fail
      refine (CY.out _).mono ?_; rintro e w4 ⟨rfl, hb⟩; replace hB := thenB hB hb; replace hX := boxB hX hb; replace hY := boxB hY hb; clear hb
      go_upto_region 14 with fail
      go_quiet (fail)
      rw [HT.out]
      replace hB := bel_drewN hB nq
      have hX2 : B < (w4.drewN nq).heap.size ∧ (w4.drewN nq).cell? ⟨B, 0, none⟩ = some (.int .i64 p) ∧ (w4.drewN nq).cell? ⟨B, 1, none⟩ = some (.int .i64 0) ∧ (w4.drewN nq).cell? ⟨B, 2, none⟩ = some (.int .i64 5) ∧ (w4.drewN nq).cell? ⟨B, 3, none⟩ = some (.int .i64 M1) := hX
      have hY2 : B + 1 < (w4.drewN nq).heap.size ∧ (w4.drewN nq).cell? ⟨B + 1, 0, none⟩ = some (.int .i64 q) ∧ (w4.drewN nq).cell? ⟨B + 1, 1, none⟩ = some (.int .i64 1) ∧ (w4.drewN nq).cell? ⟨B + 1, 2, none⟩ = some (.int .i64 6) ∧ (w4.drewN nq).cell? ⟨B + 1, 3, none⟩ = some (.int .i64 M2) := hY
      clear hX hY
      generalize w4.drewN nq = W4 at *
      clear y1 y2 y3 y4 HI HZ HT C1 CC1 CC2 CX CY
      go_wp2_with fail
      refine (CA.out _).mono ?_; rintro e w5 ⟨rfl, hb⟩; replace hB := thenB hB hb; replace hX2 := boxB hX2 hb; replace hY2 := boxB hY2 hb; clear hb
      have hal := (Below.refl w5.heap.size w5).alloc (Nat.le_refl _) (.cells #[.int .i64 0, .int .i64 p, .int .i64 0, .int .i64 5, .int .i64 M1] 25)
      have hR := box5M w5 (.int .i64 0) (.int .i64 p) (.int .i64 0) (.int .i64 5) (.int .i64 M1) 25
      replace hB := thenB hB hal
      replace hX2 := boxB hX2 hal
      replace hY2 := boxB hY2 hal
      clear hal
      go_wp2_with fail
      generalize w5.alloc (.cells #[.int .i64 0, .int .i64 p, .int .i64 0, .int .i64 5, .int .i64 M1] 25) = W5 at *
      generalize w5.heap.size = B5 at *
      refine (CO.out _).mono ?_; rintro e w6 ⟨rfl, hb⟩; replace hB := thenB hB hb; replace hX2 := boxB hX2 hb; replace hY2 := boxB hY2 hb; replace hR := box5B hR hb; clear hb
      go_upto_region 21 with fail
      have hal := (Below.refl w6.heap.size w6).alloc (Nat.le_refl _) (.cells #[.int .i64 0, .int .i64 p, .int .i64 0, .int .i64 5, .int .i64 M1] 25)
      have hV := box5M w6 (.int .i64 0) (.int .i64 p) (.int .i64 0) (.int .i64 5) (.int .i64 M1) 25
      replace hB := thenB hB hal
      replace hR := box5B hR hal
      clear hal hX2 hY2
      generalize w6.alloc (.cells #[.int .i64 0, .int .i64 p, .int .i64 0, .int .i64 5, .int .i64 M1] 25) = W6 at *
      generalize w6.heap.size = B6 at *
      unfold Box5 at hR hV
      go_wp2_with (go_at_call 12; refine (numJ_any _ _).mono ?_; rintro e w' ⟨rfl, rfl⟩)
      go_ret
      exact ⟨rfl, hB⟩
    · have m1 : bits .and .i64 a0 1 = 0 := m1
      have m2 : bits .and .i64 a0 2 = 0 := m2
      have m3 : bits .and .i64 a0 3 = 0 := m3
      have HA : Hid (actO (tab2 (putS p 0 5 sumOne) (putS q 1 6 sumTwo)) = some ⟨96, q, 1, 6, sumTwo⟩) := by
        show _ = _
        rw [tab_act R1.out R2.out, if_pos ⟨rfl, fun _ => by omega⟩]
      have CX := hide (fun w => put_yes R1.out w)
      have CY := hide (fun w => put_yes R2.out w)
      have CA := hide (fun w => act_is HA.out w)
      have CO : Hid (∀ w, Calls Try.prog 10 #[.string (tab2 (putS p 0 5 sumOne) (putS q 1 6 sumTwo))] w fun e w' => e = .returned (.tuple #[.int .i64 0, .int .i64 0]) ∧ Below w.heap.size w w') := fun w => oth_is HA.out w
      have ZX := size_putS R1.out
      have ZY := size_putS R2.out
      have HT : Hid (putS p 0 5 sumOne ++ imgs2.extract 24 96 ++ putS q 1 6 sumTwo ++ imgs2.extract 120 imgs2.size = tab2 (putS p 0 5 sumOne) (putS q 1 6 sumTwo)) := rfl
      clear HA R1 R2 R3 R4 N1 N2 hm
      generalize tab2 (putS p 0 5 sumOne) (putS q 1 6 sumTwo) = T at *
      generalize putS p 0 5 sumOne = SX at *
      generalize putS q 1 6 sumTwo = SY at *
      generalize sumOne1 = M1' at *
      generalize sumTwo1 = M2' at *
      generalize sumOne = M1 at *
      generalize sumTwo = M2 at *
      generalize imgs2 = I at *
      go_enter Try.func5, Try.ntmps5
      go_upto_region 5 with (first | (go_at_call 13; refine (awake_any _).mono ?_; rintro e w' ⟨rfl, hb⟩; replace hB := hB.trans (hb.mono hB.size); clear hb) | (go_at_call 16; refine (C1.out _).mono ?_; rintro e w' ⟨rfl, hb⟩; replace hB := hB.trans (hb.mono hB.size); clear hb))
      go_quiet (fail)
      rw [HI.out]
      replace hB := bel_drewN hB nq
      generalize w'.drewN nq = W at *
      have y1 : I.size ≤ 768 := by rw [HZ.out]; omega
      have y2 : 768 ≤ I.size := by rw [HZ.out]; omega
      have y3 : SX.size ≤ 24 := by omega
      have y4 : SY.size ≤ 24 := by omega
      clear ZX ZY z1 z2
      go_wp2_with fail
      refine (CC1.out _).mono ?_; rintro e w1 ⟨rfl, rfl⟩
      go_wp2_with fail
      refine (CC2.out _).mono ?_; rintro e w2 ⟨rfl, rfl⟩
      go_upto_region 12 with fail
      generalize hW : (w1.alloc (.cells #[.int .i64 p, .int .i64 0, .int .i64 5, .int .i64 M1] 23)).alloc (.cells #[.int .i64 q, .int .i64 1, .int .i64 6, .int .i64 M2] 23) = W1 at *
      obtain ⟨hX, hY, hZ⟩ := two_boxes hW
      replace hB := hZ w hB
      clear hW hZ
      generalize w1.heap.size = B at *
      go_wp2_with fail
      refine (CX.out _).mono ?_; rintro e w3 ⟨rfl, hb⟩; replace hB := thenB hB hb; replace hX := boxB hX hb; replace hY := boxB hY hb; clear hb
      go_wp2_with fail
      refine (CY.out _).mono ?_; rintro e w4 ⟨rfl, hb⟩; replace hB := thenB hB hb; replace hX := boxB hX hb; replace hY := boxB hY hb; clear hb
      go_upto_region 14 with fail
      go_quiet (fail)
      rw [HT.out]
      replace hB := bel_drewN hB nq
      have hX2 : B < (w4.drewN nq).heap.size ∧ (w4.drewN nq).cell? ⟨B, 0, none⟩ = some (.int .i64 p) ∧ (w4.drewN nq).cell? ⟨B, 1, none⟩ = some (.int .i64 0) ∧ (w4.drewN nq).cell? ⟨B, 2, none⟩ = some (.int .i64 5) ∧ (w4.drewN nq).cell? ⟨B, 3, none⟩ = some (.int .i64 M1) := hX
      have hY2 : B + 1 < (w4.drewN nq).heap.size ∧ (w4.drewN nq).cell? ⟨B + 1, 0, none⟩ = some (.int .i64 q) ∧ (w4.drewN nq).cell? ⟨B + 1, 1, none⟩ = some (.int .i64 1) ∧ (w4.drewN nq).cell? ⟨B + 1, 2, none⟩ = some (.int .i64 6) ∧ (w4.drewN nq).cell? ⟨B + 1, 3, none⟩ = some (.int .i64 M2) := hY
      clear hX hY
      generalize w4.drewN nq = W4 at *
      clear y1 y2 y3 y4 HI HZ HT C1 CC1 CC2 CX CY
      go_wp2_with fail
      refine (CA.out _).mono ?_; rintro e w5 ⟨rfl, hb⟩; replace hB := thenB hB hb; replace hX2 := boxB hX2 hb; replace hY2 := boxB hY2 hb; clear hb
      have hal := (Below.refl w5.heap.size w5).alloc (Nat.le_refl _) (.cells #[.int .i64 96, .int .i64 q, .int .i64 1, .int .i64 6, .int .i64 M2] 25)
      have hR := box5M w5 (.int .i64 96) (.int .i64 q) (.int .i64 1) (.int .i64 6) (.int .i64 M2) 25
      replace hB := thenB hB hal
      replace hX2 := boxB hX2 hal
      replace hY2 := boxB hY2 hal
      clear hal
      go_wp2_with fail
      generalize w5.alloc (.cells #[.int .i64 96, .int .i64 q, .int .i64 1, .int .i64 6, .int .i64 M2] 25) = W5 at *
      generalize w5.heap.size = B5 at *
      refine (CO.out _).mono ?_; rintro e w6 ⟨rfl, hb⟩; replace hB := thenB hB hb; replace hX2 := boxB hX2 hb; replace hY2 := boxB hY2 hb; replace hR := box5B hR hb; clear hb
      go_upto_region 21 with fail
      have hal := (Below.refl w6.heap.size w6).alloc (Nat.le_refl _) (.cells #[.int .i64 96, .int .i64 q, .int .i64 1, .int .i64 6, .int .i64 M2] 25)
      have hV := box5M w6 (.int .i64 96) (.int .i64 q) (.int .i64 1) (.int .i64 6) (.int .i64 M2) 25
      replace hB := thenB hB hal
      replace hR := box5B hR hal
      clear hal hX2 hY2
      generalize w6.alloc (.cells #[.int .i64 96, .int .i64 q, .int .i64 1, .int .i64 6, .int .i64 M2] 25) = W6 at *
      generalize w6.heap.size = B6 at *
      unfold Box5 at hR hV
      go_wp2_with (go_at_call 12; refine (numJ_any _ _).mono ?_; rintro e w' ⟨rfl, rfl⟩)
      go_ret
      exact ⟨rfl, hB⟩
  · have m1 : bits .and .i64 a0 1 = 1 := m1
    have m2 : bits .and .i64 a0 2 = 0 := m2
    have m3 : bits .and .i64 a0 3 = 1 := m3
    have HA : Hid (actO (tab2 (putS p 0 5 sumOne1) (putS q 1 6 sumTwo)) = some ⟨96, q, 1, 6, sumTwo⟩) := by
      show _ = _
      rw [tab_act R3.out R2.out, if_pos ⟨rfl, fun h => absurd h N1.out⟩]
    have CX := hide (fun w => put_yes R3.out w)
    have CY := hide (fun w => put_yes R2.out w)
    have CA := hide (fun w => act_is HA.out w)
    have CO : Hid (∀ w, Calls Try.prog 10 #[.string (tab2 (putS p 0 5 sumOne1) (putS q 1 6 sumTwo))] w fun e w' => e = .returned (.tuple #[.int .i64 0, .int .i64 0]) ∧ Below w.heap.size w w') := fun w => oth_is HA.out w
    have ZX := size_putS R3.out
    have ZY := size_putS R2.out
    have HT : Hid (putS p 0 5 sumOne1 ++ imgs2.extract 24 96 ++ putS q 1 6 sumTwo ++ imgs2.extract 120 imgs2.size = tab2 (putS p 0 5 sumOne1) (putS q 1 6 sumTwo)) := rfl
    clear HA R1 R2 R3 R4 N1 N2 hm
    generalize tab2 (putS p 0 5 sumOne1) (putS q 1 6 sumTwo) = T at *
    generalize putS p 0 5 sumOne1 = SX at *
    generalize putS q 1 6 sumTwo = SY at *
    generalize sumOne1 = M1' at *
    generalize sumTwo1 = M2' at *
    generalize sumOne = M1 at *
    generalize sumTwo = M2 at *
    generalize imgs2 = I at *
    go_enter Try.func5, Try.ntmps5
    go_upto_region 5 with (first | (go_at_call 13; refine (awake_any _).mono ?_; rintro e w' ⟨rfl, hb⟩; replace hB := hB.trans (hb.mono hB.size); clear hb) | (go_at_call 16; refine (C1.out _).mono ?_; rintro e w' ⟨rfl, hb⟩; replace hB := hB.trans (hb.mono hB.size); clear hb))
    go_quiet (fail)
    rw [HI.out]
    replace hB := bel_drewN hB nq
    generalize w'.drewN nq = W at *
    have y1 : I.size ≤ 768 := by rw [HZ.out]; omega
    have y2 : 768 ≤ I.size := by rw [HZ.out]; omega
    have y3 : SX.size ≤ 24 := by omega
    have y4 : SY.size ≤ 24 := by omega
    clear ZX ZY z1 z2
    go_wp2_with fail
    refine (CC1.out _).mono ?_; rintro e w1 ⟨rfl, rfl⟩
    go_wp2_with fail
    refine (CC2.out _).mono ?_; rintro e w2 ⟨rfl, rfl⟩
    go_upto_region 12 with fail
    generalize hW : (w1.alloc (.cells #[.int .i64 p, .int .i64 0, .int .i64 5, .int .i64 M1'] 23)).alloc (.cells #[.int .i64 q, .int .i64 1, .int .i64 6, .int .i64 M2] 23) = W1 at *
    obtain ⟨hX, hY, hZ⟩ := two_boxes hW
    replace hB := hZ w hB
    clear hW hZ
    generalize w1.heap.size = B at *
    go_wp2_with fail
    refine (CX.out _).mono ?_; rintro e w3 ⟨rfl, hb⟩; replace hB := thenB hB hb; replace hX := boxB hX hb; replace hY := boxB hY hb; clear hb
    go_wp2_with fail
    refine (CY.out _).mono ?_; rintro e w4 ⟨rfl, hb⟩; replace hB := thenB hB hb; replace hX := boxB hX hb; replace hY := boxB hY hb; clear hb
    go_upto_region 14 with fail
    go_quiet (fail)
    rw [HT.out]
    replace hB := bel_drewN hB nq
    have hX2 : B < (w4.drewN nq).heap.size ∧ (w4.drewN nq).cell? ⟨B, 0, none⟩ = some (.int .i64 p) ∧ (w4.drewN nq).cell? ⟨B, 1, none⟩ = some (.int .i64 0) ∧ (w4.drewN nq).cell? ⟨B, 2, none⟩ = some (.int .i64 5) ∧ (w4.drewN nq).cell? ⟨B, 3, none⟩ = some (.int .i64 M1') := hX
    have hY2 : B + 1 < (w4.drewN nq).heap.size ∧ (w4.drewN nq).cell? ⟨B + 1, 0, none⟩ = some (.int .i64 q) ∧ (w4.drewN nq).cell? ⟨B + 1, 1, none⟩ = some (.int .i64 1) ∧ (w4.drewN nq).cell? ⟨B + 1, 2, none⟩ = some (.int .i64 6) ∧ (w4.drewN nq).cell? ⟨B + 1, 3, none⟩ = some (.int .i64 M2) := hY
    clear hX hY
    generalize w4.drewN nq = W4 at *
    clear y1 y2 y3 y4 HI HZ HT C1 CC1 CC2 CX CY
    go_wp2_with fail
    refine (CA.out _).mono ?_; rintro e w5 ⟨rfl, hb⟩; replace hB := thenB hB hb; replace hX2 := boxB hX2 hb; replace hY2 := boxB hY2 hb; clear hb
    have hal := (Below.refl w5.heap.size w5).alloc (Nat.le_refl _) (.cells #[.int .i64 96, .int .i64 q, .int .i64 1, .int .i64 6, .int .i64 M2] 25)
    have hR := box5M w5 (.int .i64 96) (.int .i64 q) (.int .i64 1) (.int .i64 6) (.int .i64 M2) 25
    replace hB := thenB hB hal
    replace hX2 := boxB hX2 hal
    replace hY2 := boxB hY2 hal
    clear hal
    go_wp2_with fail
    generalize w5.alloc (.cells #[.int .i64 96, .int .i64 q, .int .i64 1, .int .i64 6, .int .i64 M2] 25) = W5 at *
    generalize w5.heap.size = B5 at *
    refine (CO.out _).mono ?_; rintro e w6 ⟨rfl, hb⟩; replace hB := thenB hB hb; replace hX2 := boxB hX2 hb; replace hY2 := boxB hY2 hb; replace hR := box5B hR hb; clear hb
    go_upto_region 21 with fail
    have hal := (Below.refl w6.heap.size w6).alloc (Nat.le_refl _) (.cells #[.int .i64 96, .int .i64 q, .int .i64 1, .int .i64 6, .int .i64 M2] 25)
    have hV := box5M w6 (.int .i64 96) (.int .i64 q) (.int .i64 1) (.int .i64 6) (.int .i64 M2) 25
    replace hB := thenB hB hal
    replace hR := box5B hR hal
    clear hal hX2 hY2
    generalize w6.alloc (.cells #[.int .i64 96, .int .i64 q, .int .i64 1, .int .i64 6, .int .i64 M2] 25) = W6 at *
    generalize w6.heap.size = B6 at *
    unfold Box5 at hR hV
    go_wp2_with (go_at_call 12; refine (numJ_any _ _).mono ?_; rintro e w' ⟨rfl, rfl⟩)
    go_ret
    exact ⟨rfl, hB⟩
  · have m1 : bits .and .i64 a0 1 = 0 := m1
    have m2 : bits .and .i64 a0 2 = 2 := m2
    have m3 : bits .and .i64 a0 3 = 2 := m3
    have HA : Hid (actO (tab2 (putS p 0 5 sumOne) (putS q 1 6 sumTwo1)) = some ⟨0, p, 0, 5, sumOne⟩) := by
      show _ = _
      rw [tab_act R1.out R4.out, if_neg (fun h => N2.out h.1), if_pos rfl]
    have CX := hide (fun w => put_yes R1.out w)
    have CY := hide (fun w => put_yes R4.out w)
    have CA := hide (fun w => act_is HA.out w)
    have CO : Hid (∀ w, Calls Try.prog 10 #[.string (tab2 (putS p 0 5 sumOne) (putS q 1 6 sumTwo1))] w fun e w' => e = .returned (.tuple #[.int .i64 1, .int .i64 0]) ∧ Below w.heap.size w w') := fun w => oth_is HA.out w
    have ZX := size_putS R1.out
    have ZY := size_putS R4.out
    have HT : Hid (putS p 0 5 sumOne ++ imgs2.extract 24 96 ++ putS q 1 6 sumTwo1 ++ imgs2.extract 120 imgs2.size = tab2 (putS p 0 5 sumOne) (putS q 1 6 sumTwo1)) := rfl
    clear HA R1 R2 R3 R4 N1 N2 hm
    generalize tab2 (putS p 0 5 sumOne) (putS q 1 6 sumTwo1) = T at *
    generalize putS p 0 5 sumOne = SX at *
    generalize putS q 1 6 sumTwo1 = SY at *
    generalize sumOne1 = M1' at *
    generalize sumTwo1 = M2' at *
    generalize sumOne = M1 at *
    generalize sumTwo = M2 at *
    generalize imgs2 = I at *
    go_enter Try.func5, Try.ntmps5
    go_upto_region 5 with (first | (go_at_call 13; refine (awake_any _).mono ?_; rintro e w' ⟨rfl, hb⟩; replace hB := hB.trans (hb.mono hB.size); clear hb) | (go_at_call 16; refine (C1.out _).mono ?_; rintro e w' ⟨rfl, hb⟩; replace hB := hB.trans (hb.mono hB.size); clear hb))
    go_quiet (fail)
    rw [HI.out]
    replace hB := bel_drewN hB nq
    generalize w'.drewN nq = W at *
    have y1 : I.size ≤ 768 := by rw [HZ.out]; omega
    have y2 : 768 ≤ I.size := by rw [HZ.out]; omega
    have y3 : SX.size ≤ 24 := by omega
    have y4 : SY.size ≤ 24 := by omega
    clear ZX ZY z1 z2
    go_wp2_with fail
    refine (CC1.out _).mono ?_; rintro e w1 ⟨rfl, rfl⟩
    go_wp2_with fail
    refine (CC2.out _).mono ?_; rintro e w2 ⟨rfl, rfl⟩
    go_upto_region 12 with fail
    generalize hW : (w1.alloc (.cells #[.int .i64 p, .int .i64 0, .int .i64 5, .int .i64 M1] 23)).alloc (.cells #[.int .i64 q, .int .i64 1, .int .i64 6, .int .i64 M2'] 23) = W1 at *
    obtain ⟨hX, hY, hZ⟩ := two_boxes hW
    replace hB := hZ w hB
    clear hW hZ
    generalize w1.heap.size = B at *
    go_wp2_with fail
    refine (CX.out _).mono ?_; rintro e w3 ⟨rfl, hb⟩; replace hB := thenB hB hb; replace hX := boxB hX hb; replace hY := boxB hY hb; clear hb
    go_wp2_with fail
    refine (CY.out _).mono ?_; rintro e w4 ⟨rfl, hb⟩; replace hB := thenB hB hb; replace hX := boxB hX hb; replace hY := boxB hY hb; clear hb
    go_upto_region 14 with fail
    go_quiet (fail)
    rw [HT.out]
    replace hB := bel_drewN hB nq
    have hX2 : B < (w4.drewN nq).heap.size ∧ (w4.drewN nq).cell? ⟨B, 0, none⟩ = some (.int .i64 p) ∧ (w4.drewN nq).cell? ⟨B, 1, none⟩ = some (.int .i64 0) ∧ (w4.drewN nq).cell? ⟨B, 2, none⟩ = some (.int .i64 5) ∧ (w4.drewN nq).cell? ⟨B, 3, none⟩ = some (.int .i64 M1) := hX
    have hY2 : B + 1 < (w4.drewN nq).heap.size ∧ (w4.drewN nq).cell? ⟨B + 1, 0, none⟩ = some (.int .i64 q) ∧ (w4.drewN nq).cell? ⟨B + 1, 1, none⟩ = some (.int .i64 1) ∧ (w4.drewN nq).cell? ⟨B + 1, 2, none⟩ = some (.int .i64 6) ∧ (w4.drewN nq).cell? ⟨B + 1, 3, none⟩ = some (.int .i64 M2') := hY
    clear hX hY
    generalize w4.drewN nq = W4 at *
    clear y1 y2 y3 y4 HI HZ HT C1 CC1 CC2 CX CY
    go_wp2_with fail
    refine (CA.out _).mono ?_; rintro e w5 ⟨rfl, hb⟩; replace hB := thenB hB hb; replace hX2 := boxB hX2 hb; replace hY2 := boxB hY2 hb; clear hb
    have hal := (Below.refl w5.heap.size w5).alloc (Nat.le_refl _) (.cells #[.int .i64 0, .int .i64 p, .int .i64 0, .int .i64 5, .int .i64 M1] 25)
    have hR := box5M w5 (.int .i64 0) (.int .i64 p) (.int .i64 0) (.int .i64 5) (.int .i64 M1) 25
    replace hB := thenB hB hal
    replace hX2 := boxB hX2 hal
    replace hY2 := boxB hY2 hal
    clear hal
    go_wp2_with fail
    generalize w5.alloc (.cells #[.int .i64 0, .int .i64 p, .int .i64 0, .int .i64 5, .int .i64 M1] 25) = W5 at *
    generalize w5.heap.size = B5 at *
    refine (CO.out _).mono ?_; rintro e w6 ⟨rfl, hb⟩; replace hB := thenB hB hb; replace hX2 := boxB hX2 hb; replace hY2 := boxB hY2 hb; replace hR := box5B hR hb; clear hb
    go_upto_region 21 with fail
    have hal := (Below.refl w6.heap.size w6).alloc (Nat.le_refl _) (.cells #[.int .i64 0, .int .i64 p, .int .i64 0, .int .i64 5, .int .i64 M1] 25)
    have hV := box5M w6 (.int .i64 0) (.int .i64 p) (.int .i64 0) (.int .i64 5) (.int .i64 M1) 25
    replace hB := thenB hB hal
    replace hR := box5B hR hal
    clear hal hX2 hY2
    generalize w6.alloc (.cells #[.int .i64 0, .int .i64 p, .int .i64 0, .int .i64 5, .int .i64 M1] 25) = W6 at *
    generalize w6.heap.size = B6 at *
    unfold Box5 at hR hV
    go_wp2_with (go_at_call 12; refine (numJ_any _ _).mono ?_; rintro e w' ⟨rfl, rfl⟩)
    go_ret
    exact ⟨rfl, hB⟩
  · have m1 : bits .and .i64 a0 1 = 1 := m1
    have m2 : bits .and .i64 a0 2 = 2 := m2
    have m3 : bits .and .i64 a0 3 = 3 := m3
    have HA : Hid (actO (tab2 (putS p 0 5 sumOne1) (putS q 1 6 sumTwo1)) = none) := by
      show _ = _
      rw [tab_act R3.out R4.out, if_neg (fun h => N2.out h.1), if_neg N1.out]
    have CX := hide (fun w => put_yes R3.out w)
    have CY := hide (fun w => put_yes R4.out w)
    have HM : Hid (mayF (tab2 (putS p 0 5 sumOne1) (putS q 1 6 sumTwo1)) = true) := mayF_t (size_tab2 (size_putS R3.out) (size_putS R4.out))
    have CA := hide (fun w => act_none0 HM.out HA.out w)
    have CO := hide (fun w => oth_none0 HM.out HA.out w)
    have ZX := size_putS R3.out
    have ZY := size_putS R4.out
    have HT : Hid (putS p 0 5 sumOne1 ++ imgs2.extract 24 96 ++ putS q 1 6 sumTwo1 ++ imgs2.extract 120 imgs2.size = tab2 (putS p 0 5 sumOne1) (putS q 1 6 sumTwo1)) := rfl
    clear HM
    clear HA R1 R2 R3 R4 N1 N2 hm
    generalize tab2 (putS p 0 5 sumOne1) (putS q 1 6 sumTwo1) = T at *
    generalize putS p 0 5 sumOne1 = SX at *
    generalize putS q 1 6 sumTwo1 = SY at *
    generalize sumOne1 = M1' at *
    generalize sumTwo1 = M2' at *
    generalize sumOne = M1 at *
    generalize sumTwo = M2 at *
    generalize imgs2 = I at *
    go_enter Try.func5, Try.ntmps5
    go_upto_region 5 with (first | (go_at_call 13; refine (awake_any _).mono ?_; rintro e w' ⟨rfl, hb⟩; replace hB := hB.trans (hb.mono hB.size); clear hb) | (go_at_call 16; refine (C1.out _).mono ?_; rintro e w' ⟨rfl, hb⟩; replace hB := hB.trans (hb.mono hB.size); clear hb))
    go_quiet (fail)
    rw [HI.out]
    replace hB := bel_drewN hB nq
    generalize w'.drewN nq = W at *
    have y1 : I.size ≤ 768 := by rw [HZ.out]; omega
    have y2 : 768 ≤ I.size := by rw [HZ.out]; omega
    have y3 : SX.size ≤ 24 := by omega
    have y4 : SY.size ≤ 24 := by omega
    clear ZX ZY z1 z2
    go_wp2_with fail
    refine (CC1.out _).mono ?_; rintro e w1 ⟨rfl, rfl⟩
    go_wp2_with fail
    refine (CC2.out _).mono ?_; rintro e w2 ⟨rfl, rfl⟩
    go_upto_region 12 with fail
    generalize hW : (w1.alloc (.cells #[.int .i64 p, .int .i64 0, .int .i64 5, .int .i64 M1'] 23)).alloc (.cells #[.int .i64 q, .int .i64 1, .int .i64 6, .int .i64 M2'] 23) = W1 at *
    obtain ⟨hX, hY, hZ⟩ := two_boxes hW
    replace hB := hZ w hB
    clear hW hZ
    generalize w1.heap.size = B at *
    go_wp2_with fail
    refine (CX.out _).mono ?_; rintro e w3 ⟨rfl, hb⟩; replace hB := thenB hB hb; replace hX := boxB hX hb; replace hY := boxB hY hb; clear hb
    go_wp2_with fail
    refine (CY.out _).mono ?_; rintro e w4 ⟨rfl, hb⟩; replace hB := thenB hB hb; replace hX := boxB hX hb; replace hY := boxB hY hb; clear hb
    go_upto_region 14 with fail
    go_quiet (fail)
    rw [HT.out]
    replace hB := bel_drewN hB nq
    have hX2 : B < (w4.drewN nq).heap.size ∧ (w4.drewN nq).cell? ⟨B, 0, none⟩ = some (.int .i64 p) ∧ (w4.drewN nq).cell? ⟨B, 1, none⟩ = some (.int .i64 0) ∧ (w4.drewN nq).cell? ⟨B, 2, none⟩ = some (.int .i64 5) ∧ (w4.drewN nq).cell? ⟨B, 3, none⟩ = some (.int .i64 M1') := hX
    have hY2 : B + 1 < (w4.drewN nq).heap.size ∧ (w4.drewN nq).cell? ⟨B + 1, 0, none⟩ = some (.int .i64 q) ∧ (w4.drewN nq).cell? ⟨B + 1, 1, none⟩ = some (.int .i64 1) ∧ (w4.drewN nq).cell? ⟨B + 1, 2, none⟩ = some (.int .i64 6) ∧ (w4.drewN nq).cell? ⟨B + 1, 3, none⟩ = some (.int .i64 M2') := hY
    clear hX hY
    generalize w4.drewN nq = W4 at *
    clear y1 y2 y3 y4 HI HZ HT C1 CC1 CC2 CX CY
    go_wp2_with fail
    refine (CA.out _).mono ?_; rintro e w5 ⟨rfl, hb⟩; replace hB := thenB hB hb; replace hX2 := boxB hX2 hb; replace hY2 := boxB hY2 hb; clear hb
    have hal := (Below.refl w5.heap.size w5).alloc (Nat.le_refl _) (.cells #[.int .i64 0, .int .i64 0, .int .i64 0, .int .i64 0, .int .i64 0] 25)
    have hR := box5M w5 (.int .i64 0) (.int .i64 0) (.int .i64 0) (.int .i64 0) (.int .i64 0) 25
    replace hB := thenB hB hal
    replace hX2 := boxB hX2 hal
    replace hY2 := boxB hY2 hal
    clear hal
    go_wp2_with fail
    generalize w5.alloc (.cells #[.int .i64 0, .int .i64 0, .int .i64 0, .int .i64 0, .int .i64 0] 25) = W5 at *
    generalize w5.heap.size = B5 at *
    refine (CO.out _).mono ?_; rintro e w6 ⟨rfl, hb⟩; replace hB := thenB hB hb; replace hX2 := boxB hX2 hb; replace hY2 := boxB hY2 hb; replace hR := box5B hR hb; clear hb
    go_upto_region 21 with fail
    have hal := (Below.refl w6.heap.size w6).alloc (Nat.le_refl _) (.cells #[.int .i64 0, .int .i64 p, .int .i64 0, .int .i64 5, .int .i64 M1'] 25)
    have hV := box5M w6 (.int .i64 0) (.int .i64 p) (.int .i64 0) (.int .i64 5) (.int .i64 M1') 25
    replace hB := thenB hB hal
    replace hR := box5B hR hal
    clear hal hX2 hY2
    generalize w6.alloc (.cells #[.int .i64 0, .int .i64 p, .int .i64 0, .int .i64 5, .int .i64 M1'] 25) = W6 at *
    generalize w6.heap.size = B6 at *
    unfold Box5 at hR hV
    go_wp2_with (go_at_call 12; refine (numJ_any _ _).mono ?_; rintro e w' ⟨rfl, rfl⟩)
    go_ret
    exact ⟨rfl, hB⟩

set_option maxRecDepth 100000 in
theorem lifted (os : Os) (started : os.Started) (H : Type) (enc : TypeId × Value → H) :
    ReturnsInHanded {} Try.checked os 5 .any (Rows.chooseTableSpec.pre6 enc Try.prog Try.f5 Rows.chooseTableRow.domain false) (Rows.chooseTableSpec.post enc Try.prog Try.f5 false true false false) := by
  refine returnsInHanded_of_change (C := Try.checked) own started (by kernel_rfl) Try.func5
    (ChangeSpec.witness6 (enc := enc) (C := Try.checked) false ⟨#[], #[.int .i64 0, .int .i64 0, .int .i64 0], []⟩ 8 (by kernel_rfl) (by kernel_rfl) (by kernel_rfl) (by kernel_rfl)) ?_
  intro W base args ds gs before hval0 hW hcnd _
  have hval : ∀ (j : Nat) t v, Try.f5.params[j]? = some t → args[j]? = some v → Value.okWide Try.prog W .any base t v := hval0
  have hW' := hW
  obtain ⟨p, q, hA0, hV, rfl, hfz, hnd⟩ := hW
  have hA : DataW.TrodAll enc Try.prog W 0 (fun _ => true) true Try.f5.params.toList args.toList ds p := hA0
  rw [Try.params5] at hA hval
  obtain ⟨v0, vs0, d0, ds0, p0, q0, hargs, rfl, rfl, h0, r0⟩ := trodAll_cons hA
  obtain ⟨v1, vs1, d1, ds1, p1, q1, rfl, rfl, rfl, h1, r1⟩ := trodAll_cons r0
  obtain ⟨v2, vs2, d2, ds2, p2, q2, rfl, rfl, rfl, h2, r2⟩ := trodAll_cons r1
  obtain ⟨rfl, rfl, rfl⟩ := trodAll_nil r2
  obtain rfl : args = #[v0, v1, v2] := by cases args; simp_all
  obtain ⟨rfl, rfl⟩ := trodVars_none hV
  obtain ⟨a0, rfl, rfl, rfl, w0⟩ := open_int Try.underlying3 (hval 0 3 v0 rfl rfl) h0
  obtain ⟨a1, rfl, rfl, rfl, w1⟩ := open_int Try.underlying3 (hval 1 3 v1 rfl rfl) h1
  obtain ⟨a2, rfl, rfl, rfl, w2⟩ := open_int Try.underlying3 (hval 2 3 v2 rfl rfl) h2
  clear hA0 hval0
  refine (walk a0 a1 a2 w0 w1 w2 W).mono fun e W' ⟨he, bel⟩ => ?_
  subst he
  exact ⟨_, rfl, _, _, _, [], _, [], hW', (trodAll_cons_mk (shut_bool Try.underlying4 _) trodAll_mk0), (trodAll_cons_mk (shut_int Try.underlying3 w0) (trodAll_cons_mk (shut_int Try.underlying3 w1) (trodAll_cons_mk (shut_int Try.underlying3 w2) trodAll_mk0))), rfl, bel.frame _, fun h => by cases h⟩

theorem over : Rows.chooseTableRow.holds Try.pinned (OpenSpec.ofChange Rows.chooseTableSpec) :=
  OpenClaim.holds_of_wide 5 Try.f5 rfl rfl rfl rfl rfl rfl rfl ⟨rfl, rfl, rfl, rfl, rfl⟩ rfl rfl rfl rfl rfl (by kernel_rfl) Try.func5 (by kernel_rfl)
    (of_decide_eq_true (by kernel_rfl)) (by unfold Func.isWrapper; first | (rw [if_pos (by decide +kernel)]; kernel_rfl) | (rw [if_neg (by decide +kernel)]; exact ⟨rfl, rfl⟩))
    (fun os started H enc _ => lifted os started H enc)

theorem proved : Rows.ChooseTableSaid :=
  over
#print axioms proved
end Go.Proofs.Ytniehdbidfimaaa.chooseTable
