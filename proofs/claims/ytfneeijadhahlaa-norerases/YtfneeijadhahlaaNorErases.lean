/- Whatever the flash, the sector and the number: the law NorErases returns true (a sector that is erased is blank, the others are as they were; worn so far and erased again it is the same), and the arguments read as they did; no condition. -/
import Derived.Test.YtfneeijadhahlaaRows
import Derived.Test.YtfneeijadhahlaaNorMath
import Derived.Test.YtfneeijadhahlaaBytes
import Derived.Test.YtfneeijadhahlaaShelf
import Derived.Test.YtfneeijadhahlaaNorWalk
import Derived.Test.YtfneeijadhahlaaNorAwake
import Derived.Deep.QuietTactic
import Derived.BigQuiet
import Derived.ChangeOld
import Derived.Below
import Derived.WalkKit
import Derived.ProofKit
import Derived.OpenShut
import Derived.ShutString
namespace Go.Proofs.Ytfneeijadhahlaa.norErases
open Go.ChangeShapes Go.WideShapes Go.ChangeAt Go.RowKit
open Go.ChangeMaps (open_string shut_string)
set_option linter.unusedVariables false

open Go.Proofs.Ytfneeijadhahlaa.Bytes
open Go.Proofs.Ytfneeijadhahlaa.NorWalk
open Go.Proofs.Ytfneeijadhahlaa.NorAwake
theorem own : ownKnob Try.prog.godebug = none := by kernel_rfl

set_option maxHeartbeats 2000000 in
set_option maxRecDepth 100000 in
theorem walk (a0 : ByteArray) (a1 : Int) (a2 : Int) (w0 : a0.size ≤ maxLen) (w1 : (Lit.int .i64 a1).wf = true) (w2 : (Lit.int .i64 a2).wf = true) (w : World) :
    Calls Try.prog 6 #[.string a0, .int .i64 a1, .int .i64 a2] w fun e w' => e = .returned (.bool true) ∧ Below w.heap.size w w' := by
  have hB : Below w.heap.size w w := Below.refl _ _
  have e0 : Nor.errN true = 0 := rfl
  have e2 : Nor.errN false = 200 := rfl
  obtain ⟨s, hs, ms⟩ : ∃ k : Nat, k ≤ 7 ∧ bits .and .i64 a1 7 = (k : Int) := mask_i64 a1 7 (by omega)
  obtain ⟨k, hk, mk⟩ : ∃ k : Nat, k < 97 ∧ wrap64 ((IntKind.u64.wrap a2).tmod 97) = (k : Int) := mod_u64 a2 97 (by omega) (by omega)
  have h96 : Nor.wornOk a0 (s : Int) 96 = Nor.wornOk a0 (s : Int) (k : Int) := Nor.wornOk_many a0 s 96 k (by omega) (by omega) (by omega)
  cases k1 : Nor.wornOk a0 (s : Int) (k : Int) with
  | false =>
    rw [k1] at h96
    have t1 := Nor.wornS_no k1
    have t2 := Nor.wornS_no h96
    have hm : mayB a0 = false := by
      unfold Nor.wornOk at k1
      have := of_decide_eq_false k1
      unfold mayB
      exact decide_eq_false (by omega)
    go_enter Try.func6, Try.ntmps6
    go_wp2_with (first | (go_at_call 13; refine (erase_any _ _ _).mono ?_; rintro e w' ⟨rfl, hb⟩; replace hB := hB.trans (hb.mono hB.size); clear hb) | (go_at_call 15; refine (worn_any _ _ _ _).mono ?_; rintro e w' ⟨rfl, hb⟩; replace hB := hB.trans (hb.mono hB.size); clear hb) | (go_at_call 17; refine (num_any _ _).mono ?_; rintro e w' ⟨rfl, rfl⟩) | (go_at_call 18; refine (may_any _ _).mono ?_; rintro e w' ⟨rfl, rfl⟩) | (go_at_call 22; refine (awake_any _).mono ?_; rintro e w' ⟨rfl, hb⟩; replace hB := hB.trans (hb.mono hB.size); clear hb))
    go_ret
    exact ⟨rfl, hB⟩
  | true =>
    rw [k1] at h96
    obtain ⟨k3, _, k5⟩ := Nor.worn_worn a0 s k 96 k1 (by omega)
    have k4 : Nor.wornS (Nor.wornS a0 s k) s 96 = Nor.wornS a0 s 96 := by rw [show max k 96 = 96 from by omega] at k5; exact k5
    have k6 : Nor.wornOk (Nor.wornS a0 s k) s 96 = true := k3
    clear k3 k5
    have gA := Nor.worn_get (f := a0) (s := s) (k := 96) h96
    have gB := Nor.worn_get k1
    have zA := Nor.size_wornS h96
    have zB := Nor.size_wornS k1
    have z0 := Nor.size_of_wornOk k1
    have cE := fun w => erase_any a0 s w
    have cW := fun w => worn_any a0 s k w
    have cF := fun w => erase_any (Nor.wornS a0 s k) s w
    rw [h96] at cE
    rw [k1] at cW
    rw [k6, k4] at cF
    have zA1 : (Nor.wornS a0 (s : Int) ((96 : Nat) : Int)).size = 768 := zA
    have zA2 : Nor.wornS a0 (s : Int) ((96 : Nat) : Int) = Nor.wornS a0 (s : Int) 96 := rfl
    rw [zA2] at gA zA1
    have GA := hide gA; have GB := hide gB; have CE := hide cE; have CW := hide cW; have CF := hide cF
    clear gA gB cE cW cF zA2 zA1 k4 k6
    obtain ⟨p, hp⟩ : ∃ p : Nat, p = 96 * s := ⟨_, rfl⟩
    have hp1 : 96 * (s : Int) = (p : Int) := by omega
    have hp2 : p ≤ 672 := by omega
    rw [← hp] at GA GB
    clear hp
    clear h96 k1
    generalize Nor.wornS a0 (s : Int) 96 = A at *
    generalize Nor.wornS a0 (s : Int) (k : Int) = B at *
    go_enter Try.func6, Try.ntmps6
    go_wp2_with (first | (go_at_call 22; refine (awake_any _).mono ?_; rintro e w' ⟨rfl, hb⟩; replace hB := hB.trans (hb.mono hB.size); clear hb))
    refine (CE.out _).mono ?_; rintro e w' ⟨rfl, hb⟩; replace hB := hB.trans (hb.mono hB.size); clear hb
    go_wp2_with fail
    refine (CW.out _).mono ?_; rintro e w' ⟨rfl, hb⟩; replace hB := hB.trans (hb.mono hB.size); clear hb
    go_wp2_with (first | (go_at_call 17; refine (num_any _ _).mono ?_; rintro e w' ⟨rfl, rfl⟩))
    refine (CF.out _).mono ?_; rintro e w' ⟨rfl, hb⟩; replace hB := hB.trans (hb.mono hB.size); clear hb
    go_wp2_with (first | (go_at_call 17; refine (num_any _ _).mono ?_; rintro e w' ⟨rfl, rfl⟩))
    have l0 : a0.size ≤ 768 := by omega
    have l1 : 768 ≤ a0.size := by omega
    have ZA : Hid (A.size = 768) := zA
    have ZB : Hid (B.size = 768) := zB
    have Z0 : Hid (a0.size = 768) := z0
    clear zA zB z0 ms mk
    go_loopw [16] (fun i wr => ∃ j : Nat, j ≤ 768 ∧ i = .int .i64 j ∧ Below w.heap.size w wr) (fun i _ => 768 - (intOf i).toNat)
    case atStart => exact ⟨0, by omega, rfl, hB⟩
    case round =>
      obtain ⟨j, hj, rfl, hbel⟩ := hrel
      by_cases hlt : j < 768
      · have j0 : j < a0.size := by omega
        have jA : j < A.size := by rw [ZA.out]; exact hlt
        have jB : j < B.size := by rw [ZB.out]; exact hlt
        have ga := GA.out j j0 jA
        have gb := GB.out j j0 jB
        by_cases c1 : p ≤ j
        · by_cases c2 : j < p + 96
          · by_cases c3 : j < p + k
            · rw [if_pos ⟨c1, c2⟩] at ga
              rw [if_pos ⟨c1, c3⟩] at gb
              have d2 : decide ((j : Int) < (p : Int) + 96) = true := decide_eq_true (by omega)
              have d3 : decide ((j : Int) < (p : Int) + (k : Int)) = true := decide_eq_true (by omega)
              have d4 : decide ((p : Int) + (k : Int) ≤ (j : Int)) = false := decide_eq_false (by omega)
              go_wp2
              go_quiet (fail)
              go_wp2
              exact ⟨⟨j + 1, by omega, by go_num, bel_drewN hbel _⟩, by simp [intOf]; omega⟩
            · rw [if_pos ⟨c1, c2⟩] at ga
              rw [if_neg (fun h => c3 h.2)] at gb
              have d2 : decide ((j : Int) < (p : Int) + 96) = true := decide_eq_true (by omega)
              have d3 : decide ((j : Int) < (p : Int) + (k : Int)) = false := decide_eq_false (by omega)
              have d4 : decide ((p : Int) + (k : Int) ≤ (j : Int)) = true := decide_eq_true (by omega)
              go_wp2
              go_quiet (fail)
              go_wp2
              exact ⟨⟨j + 1, by omega, by go_num, bel_drewN hbel _⟩, by simp [intOf]; omega⟩
          · rw [if_neg (fun h => c2 h.2)] at ga
            rw [if_neg (fun h => by omega)] at gb
            have d2 : decide ((j : Int) < (p : Int) + 96) = false := decide_eq_false (by omega)
            go_wp2
            go_quiet (fail)
            go_wp2
            exact ⟨⟨j + 1, by omega, by go_num, bel_drewN hbel _⟩, by simp [intOf]; omega⟩
        · rw [if_neg (fun h => c1 h.1)] at ga
          rw [if_neg (fun h => c1 h.1)] at gb
          go_wp2
          go_quiet (fail)
          go_wp2
          exact ⟨⟨j + 1, by omega, by go_num, bel_drewN hbel _⟩, by simp [intOf]; omega⟩
      · go_wp2_with (first | (go_at_call 17; refine (num_any _ _).mono ?_; rintro e w' ⟨rfl, rfl⟩))
        go_ret
        exact ⟨rfl, hbel⟩

set_option maxRecDepth 100000 in
theorem lifted (os : Os) (started : os.Started) (H : Type) (enc : TypeId × Value → H) :
    ReturnsInHanded {} Try.checked os 6 .any (Rows.norErasesSpec.pre6 enc Try.prog Try.f6 Rows.norErasesRow.domain false) (Rows.norErasesSpec.post enc Try.prog Try.f6 false true false false) := by
  refine returnsInHanded_of_change (C := Try.checked) own started (by kernel_rfl) Try.func6
    (ChangeSpec.witness6 (enc := enc) (C := Try.checked) false ⟨#[], #[.string ByteArray.empty, .int .i64 0, .int .i64 0], []⟩ 8 (by kernel_rfl) (by kernel_rfl) (by kernel_rfl) (by kernel_rfl)) ?_
  intro W base args ds gs before hval0 hW hcnd _
  have hval : ∀ (j : Nat) t v, Try.f6.params[j]? = some t → args[j]? = some v → Value.okWide Try.prog W .any base t v := hval0
  have hW' := hW
  obtain ⟨p, q, hA0, hV, rfl, hfz, hnd⟩ := hW
  have hA : DataW.TrodAll enc Try.prog W 0 (fun _ => true) true Try.f6.params.toList args.toList ds p := hA0
  rw [Try.params6] at hA hval
  obtain ⟨v0, vs0, d0, ds0, p0, q0, hargs, rfl, rfl, h0, r0⟩ := trodAll_cons hA
  obtain ⟨v1, vs1, d1, ds1, p1, q1, rfl, rfl, rfl, h1, r1⟩ := trodAll_cons r0
  obtain ⟨v2, vs2, d2, ds2, p2, q2, rfl, rfl, rfl, h2, r2⟩ := trodAll_cons r1
  obtain ⟨rfl, rfl, rfl⟩ := trodAll_nil r2
  obtain rfl : args = #[v0, v1, v2] := by cases args; simp_all
  obtain ⟨rfl, rfl⟩ := trodVars_none hV
  obtain ⟨a0, rfl, rfl, rfl, w0⟩ := open_string Try.underlying9 (hval 0 9 v0 rfl rfl) h0
  obtain ⟨a1, rfl, rfl, rfl, w1⟩ := open_int Try.underlying3 (hval 1 3 v1 rfl rfl) h1
  obtain ⟨a2, rfl, rfl, rfl, w2⟩ := open_int Try.underlying3 (hval 2 3 v2 rfl rfl) h2
  clear hA0 hval0
  refine (walk a0 a1 a2 w0 w1 w2 W).mono fun e W' ⟨he, bel⟩ => ?_
  subst he
  exact ⟨_, rfl, _, _, _, [], _, [], hW', (trodAll_cons_mk (shut_bool Try.underlying4 _) trodAll_mk0), (trodAll_cons_mk (shut_string Try.underlying9 w0) (trodAll_cons_mk (shut_int Try.underlying3 w1) (trodAll_cons_mk (shut_int Try.underlying3 w2) trodAll_mk0))), rfl, bel.frame _, fun h => by cases h⟩

theorem over : Rows.norErasesRow.holds Try.pinned (OpenSpec.ofChange Rows.norErasesSpec) :=
  OpenClaim.holds_of_wide 6 Try.f6 rfl rfl rfl rfl rfl rfl rfl ⟨rfl, rfl, rfl, rfl, rfl⟩ rfl rfl rfl rfl rfl (by kernel_rfl) Try.func6 (by kernel_rfl)
    (of_decide_eq_true (by kernel_rfl)) (by unfold Func.isWrapper; first | (rw [if_pos (by decide +kernel)]; kernel_rfl) | (rw [if_neg (by decide +kernel)]; exact ⟨rfl, rfl⟩))
    (fun os started H enc _ => lifted os started H enc)

theorem proved : Rows.NorErasesSaid :=
  over
#print axioms proved
end Go.Proofs.Ytfneeijadhahlaa.norErases
