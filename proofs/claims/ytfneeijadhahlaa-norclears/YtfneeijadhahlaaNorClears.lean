/- Whatever the flash, the place, the word and the number: the law NorClears returns true (programming clears bits alone, of its word alone; torn it is between what was and what is told; programmed again it is whole), and the arguments read as they did; no condition. -/
import Derived.Test.YtfneeijadhahlaaRows
import Derived.Test.YtfneeijadhahlaaNorMath
import Derived.Test.YtfneeijadhahlaaBytes
import Derived.Test.YtfneeijadhahlaaShelf
import Derived.Test.YtfneeijadhahlaaNorWalk
import Derived.Test.YtfneeijadhahlaaNorAwake
import Derived.Deep.QuietTactic
import Derived.BigQuiet
import Derived.RegionTactic
import Derived.ChangeOld
import Derived.Below
import Derived.WalkKit
import Derived.ProofKit
import Derived.OpenShut
import Derived.ShutString
namespace Go.Proofs.Ytfneeijadhahlaa.norClears
open Go.ChangeShapes Go.WideShapes Go.ChangeAt Go.RowKit
open Go.ChangeMaps (open_string shut_string)
set_option linter.unusedVariables false

open Go.Proofs.Ytfneeijadhahlaa.Bytes
open Go.Proofs.Ytfneeijadhahlaa.NorWalk
open Go.Proofs.Ytfneeijadhahlaa.NorAwake
theorem own : ownKnob Try.prog.godebug = none := by kernel_rfl

set_option maxHeartbeats 2000000 in
set_option maxRecDepth 100000 in
theorem walk (a0 : ByteArray) (a1 : Int) (a2 : ByteArray) (a3 : Int) (w0 : a0.size ≤ maxLen) (w1 : (Lit.int .i64 a1).wf = true) (w2 : a2.size ≤ maxLen) (w3 : (Lit.int .i64 a3).wf = true) (w : World) :
    Calls Try.prog 4 #[.string a0, .int .i64 a1, .string a2, .int .i64 a3] w fun e w' => e = .returned (.bool true) ∧ Below w.heap.size w w' := by
  have hB : Below w.heap.size w w := Below.refl _ _
  have e0 : Nor.errN true = 0 := rfl
  have e2 : Nor.errN false = 200 := rfl
  obtain ⟨k, hk, mk⟩ : ∃ k : Nat, k ≤ 31 ∧ bits .and .i64 a3 31 = (k : Int) := mask_i64 a3 31 (by omega)
  have h32 : Nor.tornOk a0 a1 a2 32 = Nor.tornOk a0 a1 a2 (k : Int) := Nor.tornOk_bits a0 a1 a2 32 k (by omega) (by omega)
  cases k1 : Nor.tornOk a0 a1 a2 (k : Int) with
  | false =>
    rw [k1] at h32
    have t1 := Nor.tornS_no k1
    have t2 := Nor.tornS_no h32
    go_enter Try.func4, Try.ntmps4
    go_wp2_with (first | (go_at_call 9; refine (program_any _ _ _ _).mono ?_; rintro e w' ⟨rfl, hb⟩; replace hB := hB.trans (hb.mono hB.size); clear hb) | (go_at_call 11; refine (torn_any _ _ _ _ _).mono ?_; rintro e w' ⟨rfl, hb⟩; replace hB := hB.trans (hb.mono hB.size); clear hb) | (go_at_call 17; refine (num_any _ _).mono ?_; rintro e w' ⟨rfl, rfl⟩) | (go_at_call 22; refine (awake_any _).mono ?_; rintro e w' ⟨rfl, hb⟩; replace hB := hB.trans (hb.mono hB.size); clear hb))
    go_ret
    exact ⟨rfl, hB⟩
  | true =>
    rw [k1] at h32
    have hd : 0 ≤ a1 ∧ a1 ≤ 764 := by unfold Nor.tornOk at k1; have := of_decide_eq_true k1; omega
    obtain ⟨a, rfl⟩ := Int.eq_ofNat_of_zero_le hd.1
    have ha : a ≤ 764 := by omega
    clear hd
    obtain ⟨k3, k5⟩ := Nor.torn_torn a0 a a2 k 32 k1 (by omega)
    have k4 : Nor.tornS (Nor.tornS a0 a a2 k) a a2 32 = Nor.tornS a0 a a2 32 := by rw [show max k 32 = 32 from by omega] at k5; exact k5
    have k6 : Nor.tornOk (Nor.tornS a0 a a2 k) a a2 32 = true := k3
    clear k3 k5
    have CL := hide (fun j hj h0 h1 h2 => Nor.clears h32 k1 j hj h0 h1 h2)
    have o1 : (Nor.tornS a0 a a2 32).extract 0 a = a0.extract 0 a := ba_ext (by rw [list_head, list_head]; exact Nor.outside_head (k := 32) h32)
    have o2 : (Nor.tornS a0 a a2 k).extract 0 a = a0.extract 0 a := ba_ext (by rw [list_head, list_head]; exact Nor.outside_head k1)
    have z0 := Nor.size_of_tornOk k1
    have zA : (Nor.tornS a0 a a2 32).size = a0.size := (Nor.size_tornS h32).trans z0.symm
    have zB : (Nor.tornS a0 a a2 k).size = a0.size := (Nor.size_tornS k1).trans z0.symm
    have o3 : (Nor.tornS a0 a a2 32).extract (a + 4) a0.size = a0.extract (a + 4) a0.size := ba_ext (by rw [← zA, list_tail, zA, list_tail]; exact Nor.outside_tail (k := 32) h32)
    have o4 : (Nor.tornS a0 a a2 k).extract (a + 4) a0.size = a0.extract (a + 4) a0.size := ba_ext (by rw [← zB, list_tail, zB, list_tail]; exact Nor.outside_tail k1)
    have cP := fun w => program_any a0 a a2 w
    have cT := fun w => torn_any a0 a a2 k w
    have cQ := fun w => program_any (Nor.tornS a0 a a2 k) a a2 w
    rw [h32] at cP
    rw [k1] at cT
    rw [k6, k4] at cQ
    have CP := hide cP; have CT := hide cT; have CQ := hide cQ
    have l0 : a0.size ≤ 768 := by omega
    have l1 : 768 ≤ a0.size := by omega
    clear cP cT cQ k4 k6 h32 k1 z0
    generalize Nor.tornS a0 (a : Int) a2 32 = A at *
    generalize Nor.tornS a0 (a : Int) a2 (k : Int) = B at *
    go_enter Try.func4, Try.ntmps4
    go_wp2_with (first | (go_at_call 22; refine (awake_any _).mono ?_; rintro e w' ⟨rfl, hb⟩; replace hB := hB.trans (hb.mono hB.size); clear hb))
    refine (CP.out _).mono ?_; rintro e w' ⟨rfl, hb⟩; replace hB := hB.trans (hb.mono hB.size); clear hb
    go_wp2_with fail
    refine (CT.out _).mono ?_; rintro e w' ⟨rfl, hb⟩; replace hB := hB.trans (hb.mono hB.size); clear hb
    go_wp2_with (first | (go_at_call 17; refine (num_any _ _).mono ?_; rintro e w' ⟨rfl, rfl⟩))
    refine (CQ.out _).mono ?_; rintro e w' ⟨rfl, hb⟩; replace hB := hB.trans (hb.mono hB.size); clear hb
    go_wp2_with (first | (go_at_call 17; refine (num_any _ _).mono ?_; rintro e w' ⟨rfl, rfl⟩))
    go_loopw [15] (fun i wr => ∃ j : Nat, j ≤ 4 ∧ i = .int .i64 j ∧ Below w.heap.size w wr) (fun i _ => 4 - (intOf i).toNat)
    case atStart => exact ⟨0, by omega, rfl, hB⟩
    case round =>
      obtain ⟨j, hj, rfl, hbel⟩ := hrel
      by_cases hlt : j < 4
      · obtain ⟨p, hp⟩ : ∃ p : Nat, p = a + j := ⟨_, rfl⟩
        have hp1 : (a : Int) + (j : Int) = (p : Int) := by omega
        have j0 : p < a0.size := by omega
        have jA : p < A.size := by omega
        have jB : p < B.size := by omega
        obtain ⟨c1, c2, c3⟩ : (a0[p]'j0) &&& (A[p]'jA) = (A[p]'jA) ∧ (a0[p]'j0) &&& (B[p]'jB) = (B[p]'jB) ∧ (B[p]'jB) &&& (A[p]'jA) = (A[p]'jA) := by
          subst hp
          exact CL.out j hlt j0 jA jB
        have u1 := and_u8 _ _ _ c1
        have u2 := and_u8 _ _ _ c2
        have u3 := and_u8 _ _ _ c3
        clear c1 c2 c3 o1 o2 o3 o4 zA zB hp
        go_wp2
        go_region
        go_wp2
        exact ⟨⟨j + 1, by omega, by go_num, hbel.drew⟩, by simp [intOf]; omega⟩
      · go_wp2
        go_quiet ((go_at_call 17; exact Calls.quiet_of_same (num_any _ _)))
        go_wp2
        go_ret
        exact ⟨rfl, bel_drewN hbel _⟩

set_option maxRecDepth 100000 in
theorem lifted (os : Os) (started : os.Started) (H : Type) (enc : TypeId × Value → H) :
    ReturnsInHanded {} Try.checked os 4 .any (Rows.norClearsSpec.pre6 enc Try.prog Try.f4 Rows.norClearsRow.domain false) (Rows.norClearsSpec.post enc Try.prog Try.f4 false true false false) := by
  refine returnsInHanded_of_change (C := Try.checked) own started (by kernel_rfl) Try.func4
    (ChangeSpec.witness6 (enc := enc) (C := Try.checked) false ⟨#[], #[.string ByteArray.empty, .int .i64 0, .string ByteArray.empty, .int .i64 0], []⟩ 8 (by kernel_rfl) (by kernel_rfl) (by kernel_rfl) (by kernel_rfl)) ?_
  intro W base args ds gs before hval0 hW hcnd _
  have hval : ∀ (j : Nat) t v, Try.f4.params[j]? = some t → args[j]? = some v → Value.okWide Try.prog W .any base t v := hval0
  have hW' := hW
  obtain ⟨p, q, hA0, hV, rfl, hfz, hnd⟩ := hW
  have hA : DataW.TrodAll enc Try.prog W 0 (fun _ => true) true Try.f4.params.toList args.toList ds p := hA0
  rw [Try.params4] at hA hval
  obtain ⟨v0, vs0, d0, ds0, p0, q0, hargs, rfl, rfl, h0, r0⟩ := trodAll_cons hA
  obtain ⟨v1, vs1, d1, ds1, p1, q1, rfl, rfl, rfl, h1, r1⟩ := trodAll_cons r0
  obtain ⟨v2, vs2, d2, ds2, p2, q2, rfl, rfl, rfl, h2, r2⟩ := trodAll_cons r1
  obtain ⟨v3, vs3, d3, ds3, p3, q3, rfl, rfl, rfl, h3, r3⟩ := trodAll_cons r2
  obtain ⟨rfl, rfl, rfl⟩ := trodAll_nil r3
  obtain rfl : args = #[v0, v1, v2, v3] := by cases args; simp_all
  obtain ⟨rfl, rfl⟩ := trodVars_none hV
  obtain ⟨a0, rfl, rfl, rfl, w0⟩ := open_string Try.underlying9 (hval 0 9 v0 rfl rfl) h0
  obtain ⟨a1, rfl, rfl, rfl, w1⟩ := open_int Try.underlying3 (hval 1 3 v1 rfl rfl) h1
  obtain ⟨a2, rfl, rfl, rfl, w2⟩ := open_string Try.underlying9 (hval 2 9 v2 rfl rfl) h2
  obtain ⟨a3, rfl, rfl, rfl, w3⟩ := open_int Try.underlying3 (hval 3 3 v3 rfl rfl) h3
  clear hA0 hval0
  refine (walk a0 a1 a2 a3 w0 w1 w2 w3 W).mono fun e W' ⟨he, bel⟩ => ?_
  subst he
  exact ⟨_, rfl, _, _, _, [], _, [], hW', (trodAll_cons_mk (shut_bool Try.underlying4 _) trodAll_mk0), (trodAll_cons_mk (shut_string Try.underlying9 w0) (trodAll_cons_mk (shut_int Try.underlying3 w1) (trodAll_cons_mk (shut_string Try.underlying9 w2) (trodAll_cons_mk (shut_int Try.underlying3 w3) trodAll_mk0)))), rfl, bel.frame _, fun h => by cases h⟩

theorem over : Rows.norClearsRow.holds Try.pinned (OpenSpec.ofChange Rows.norClearsSpec) :=
  OpenClaim.holds_of_wide 4 Try.f4 rfl rfl rfl rfl rfl rfl rfl ⟨rfl, rfl, rfl, rfl, rfl⟩ rfl rfl rfl rfl rfl (by kernel_rfl) Try.func4 (by kernel_rfl)
    (of_decide_eq_true (by kernel_rfl)) (by unfold Func.isWrapper; first | (rw [if_pos (by decide +kernel)]; kernel_rfl) | (rw [if_neg (by decide +kernel)]; exact ⟨rfl, rfl⟩))
    (fun os started H enc _ => lifted os started H enc)

theorem proved : Rows.NorClearsSaid :=
  over
#print axioms proved
end Go.Proofs.Ytfneeijadhahlaa.norClears
