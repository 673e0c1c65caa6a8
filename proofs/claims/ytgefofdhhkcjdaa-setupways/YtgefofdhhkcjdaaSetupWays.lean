/- Whatever the two numbers: the law SetupWays returns true (requests that ask for bytes go the other way; each number stands in its bytes), and the arguments read as they did; no condition. -/
import Derived.Test.YtgefofdhhkcjdaaRows
import Derived.Test.YtgefofdhhkcjdaaNorMath
import Derived.Test.YtgefofdhhkcjdaaBytes
import Derived.Test.YtgefofdhhkcjdaaNorWalk
import Derived.Test.YtgefofdhhkcjdaaOpsMath
import Derived.Test.YtgefofdhhkcjdaaOpsRow
import Derived.Test.YtgefofdhhkcjdaaCrcMath
import Derived.Test.YtgefofdhhkcjdaaEntMath
import Derived.Test.YtgefofdhhkcjdaaEntRow
import Derived.Test.YtgefofdhhkcjdaaEntLow
import Derived.Test.YtgefofdhhkcjdaaEntWalk
import Derived.Test.YtgefofdhhkcjdaaSufMath
import Derived.Test.YtgefofdhhkcjdaaSetMath
import Derived.Test.YtgefofdhhkcjdaaSetWalk
import Derived.Test.YtgefofdhhkcjdaaSetAwake
import Derived.Laws.StructEq
import Derived.Deep.Cut
import Derived.Deep.RegionHeld3
import Derived.Deep.DrawnRows
import Derived.ChangeOld
import Derived.Below
import Derived.WalkKit
import Derived.ProofKit
import Derived.OpenShut
import Derived.ShutString
namespace Go.Proofs.Ytgefofdhhkcjdaa.setupWays
open Go.ChangeShapes Go.WideShapes Go.ChangeAt Go.RowKit
open Go.ChangeMaps (open_string shut_string)
set_option linter.unusedVariables false

open Go.Proofs.Ytgefofdhhkcjdaa.Bytes
open Go.Proofs.Ytgefofdhhkcjdaa.Ent
open Go.Proofs.Ytgefofdhhkcjdaa.Sup
open Go.Proofs.Ytgefofdhhkcjdaa.SetWalk
open Go.Proofs.Ytgefofdhhkcjdaa.SetAwake
theorem own : ownKnob Try.prog.godebug = none := by kernel_rfl

open Go.Proofs.Ytgefofdhhkcjdaa.OpsRow (boxM boxB)
/-- A request's bytes, one by one. -/
theorem bytes {c v n : Int} (h : supB c v n = true) : supL c v n = [byteAt (kind c).toNat 0, byteAt c.toNat 0, byteAt v.toNat 0, byteAt v.toNat 1, 0, 0, byteAt n.toNat 0, byteAt n.toNat 1] := rfl
theorem ways {c v : Nat} (hc : c < 7) (hv : v ≤ 65535) : ∃ S : ByteArray, ∃ x y : Nat, S = supS (c : Int) (v : Int) 5 ∧ S.size = 8 ∧ (∃ h : 0 < S.size, (S[0].toNat : Int) = kind (c : Int)) ∧ (∃ h : 1 < S.size, IntKind.i64.wrap (S[1].toNat : Int) = (c : Int)) ∧ (∃ h : 2 < S.size, IntKind.i64.wrap (S[2].toNat : Int) = (x : Int)) ∧ (∃ h : 3 < S.size, IntKind.i64.wrap (S[3].toNat : Int) = (y : Int)) ∧ x < 256 ∧ y < 256 ∧ (x : Int) + 256 * (y : Int) = (v : Int) ∧ ((S.extract 4 S.size).toList == [0, 0, 5, 0]) = true := by
  have k : supB (c : Int) (v : Int) 5 = true := supB_parts.2 (by omega)
  have z := size_supS k
  have hl := list_supS k
  rw [bytes k] at hl
  have at_ : ∀ i (h : i < (supS (c : Int) (v : Int) 5).size), some (supS (c : Int) (v : Int) 5)[i] = [byteAt (kind (c : Int)).toNat 0, byteAt (c : Int).toNat 0, byteAt (v : Int).toNat 0, byteAt (v : Int).toNat 1, 0, 0, byteAt (5 : Int).toNat 0, byteAt (5 : Int).toNat 1][i]? := fun i h => by rw [← hl, Nor.ba_get _ _ h]
  have hk : (kind (c : Int)).toNat < 256 ∧ 0 ≤ kind (c : Int) := by unfold kind; split <;> decide
  refine ⟨supS (c : Int) (v : Int) 5, v % 256, v / 256, rfl, z, ⟨by omega, ?_⟩, ⟨by omega, ?_⟩, ⟨by omega, ?_⟩, ⟨by omega, ?_⟩, by omega, by omega, by omega, ?_⟩
  · have e := Option.some.inj ((at_ 0 (by omega)).trans rfl)
    rw [e, toNat_byteAt, Nat.pow_zero, Nat.div_one]
    omega
  · have e := Option.some.inj ((at_ 1 (by omega)).trans rfl)
    rw [e, toNat_byteAt, Nat.pow_zero, Nat.div_one, IntKind.wrap_i64]
    omega
  · have e := Option.some.inj ((at_ 2 (by omega)).trans rfl)
    rw [e, toNat_byteAt, Nat.pow_zero, Nat.div_one, IntKind.wrap_i64]
    omega
  · have e := Option.some.inj ((at_ 3 (by omega)).trans rfl)
    rw [e, toNat_byteAt, Nat.pow_one, IntKind.wrap_i64]
    omega
  · rw [beq_iff_eq, ByteArray.toList_eq, list_tail, hl]
    rfl
set_option maxRecDepth 100000 in
set_option maxHeartbeats 4000000 in
theorem walk (a0 : Int) (a1 : Int) (w0 : (Lit.int .i64 a0).wf = true) (w1 : (Lit.int .i64 a1).wf = true) (w : World) :
    Calls Try.prog 6 #[.int .i64 a0, .int .i64 a1] w fun e w' => e = .returned (.bool true) ∧ Below w.heap.size w w' := by
  have HA := hide awake_any
  have b1 := build_set
  obtain ⟨c, hc, mc⟩ : ∃ k : Nat, k < 7 ∧ wrap64 ((IntKind.u64.wrap a0).tmod 7) = (k : Int) := mod_u64 a0 7 (by omega) (by omega)
  obtain ⟨v, hv, mv⟩ : ∃ k : Nat, k ≤ 65535 ∧ bits .and .i64 a1 65535 = (k : Int) := mask_i64 a1 65535 (by omega)
  have k1 : supB (c : Int) (v : Int) 5 = true := supB_parts.2 (by omega)
  obtain ⟨S, x, y, hS, z, ⟨h0, q0⟩, ⟨h1, q1⟩, ⟨h2, q2⟩, ⟨h3, q3⟩, hx, hy, hxy, ht⟩ := ways hc hv
  have cB := fun w => sput_yes (c : Int) (v : Int) 5 w k1
  rw [← hS] at cB
  have CB := hide cB
  clear cB hS k1 hv
  have z1 : ((S.size : Int) != 8) = false := by rw [z]; rfl
  have z2 : 8 ≤ S.size := by omega
  clear z
  have y0 : (0 : Int) < (S.size : Int) := by omega
  have y1 : (1 : Int) < (S.size : Int) := by omega
  have y2 : (2 : Int) < (S.size : Int) := by omega
  have y3 : (3 : Int) < (S.size : Int) := by omega
  have y4 : (4 : Int) ≤ (S.size : Int) := by omega
  have p1 : IntKind.i64.wrap (256 * (y : Int)) = 256 * (y : Int) := by rw [IntKind.wrap_i64]; omega
  have p2 : IntKind.i64.wrap (v : Int) = (v : Int) := by rw [IntKind.wrap_i64]; omega
  rcases kind_ways (c : Int) with ⟨e, hk⟩ | ⟨e, hk⟩ | ⟨e, hk⟩ | ⟨k1, k2, k3, hk⟩
  · have hc2 : c = 2 := by omega
    subst hc2
    rw [hk] at q0
    clear hk e hc
    go_enter Try.func6, Try.ntmps6
    go_wp2_with (first | (go_at_call 14; refine (HA.out _).mono ?_; rintro e w1 ⟨rfl, hB⟩) | (go_at_call 7; refine (CB.out _).mono ?_; rintro e w2 ⟨rfl, hb⟩; replace hB := thenB hB hb; clear hb) | (go_at_call 11; refine (num_any _ _).mono ?_; rintro e w' ⟨rfl, rfl⟩))
    go_region_held3 (fun _ => True) (trivial) (fail)
    all_goals go_wp2
    all_goals go_ret
    all_goals exact ⟨rfl, hB.drew⟩
  · have hc2 : c = 3 := by omega
    subst hc2
    rw [hk] at q0
    clear hk e hc
    go_enter Try.func6, Try.ntmps6
    go_wp2_with (first | (go_at_call 14; refine (HA.out _).mono ?_; rintro e w1 ⟨rfl, hB⟩) | (go_at_call 7; refine (CB.out _).mono ?_; rintro e w2 ⟨rfl, hb⟩; replace hB := thenB hB hb; clear hb) | (go_at_call 11; refine (num_any _ _).mono ?_; rintro e w' ⟨rfl, rfl⟩))
    go_region_held3 (fun _ => True) (trivial) (fail)
    all_goals go_wp2
    all_goals go_ret
    all_goals exact ⟨rfl, hB.drew⟩
  · have hc2 : c = 5 := by omega
    subst hc2
    rw [hk] at q0
    clear hk e hc
    go_enter Try.func6, Try.ntmps6
    go_wp2_with (first | (go_at_call 14; refine (HA.out _).mono ?_; rintro e w1 ⟨rfl, hB⟩) | (go_at_call 7; refine (CB.out _).mono ?_; rintro e w2 ⟨rfl, hb⟩; replace hB := thenB hB hb; clear hb) | (go_at_call 11; refine (num_any _ _).mono ?_; rintro e w' ⟨rfl, rfl⟩))
    go_region_held3 (fun _ => True) (trivial) (fail)
    all_goals go_wp2
    all_goals go_ret
    all_goals exact ⟨rfl, hB.drew⟩
  · replace k1 : ((c : Int) == 2) = false := beq_eq_false_iff_ne.2 k1
    replace k2 : ((c : Int) == 3) = false := beq_eq_false_iff_ne.2 k2
    replace k3 : ((c : Int) == 5) = false := beq_eq_false_iff_ne.2 k3
    rw [hk] at q0
    clear hk hc
    go_enter Try.func6, Try.ntmps6
    go_wp2_with (first | (go_at_call 14; refine (HA.out _).mono ?_; rintro e w1 ⟨rfl, hB⟩) | (go_at_call 7; refine (CB.out _).mono ?_; rintro e w2 ⟨rfl, hb⟩; replace hB := thenB hB hb; clear hb) | (go_at_call 11; refine (num_any _ _).mono ?_; rintro e w' ⟨rfl, rfl⟩))
    go_region_held3 (fun _ => True) (trivial) (fail)
    all_goals go_wp2
    all_goals go_ret
    all_goals exact ⟨rfl, hB.drew⟩

set_option maxRecDepth 100000 in
theorem lifted (os : Os) (started : os.Started) (H : Type) (enc : TypeId × Value → H) :
    ReturnsInHanded {} Try.checked os 6 .any (Rows.setupWaysSpec.pre6 enc Try.prog Try.f6 Rows.setupWaysRow.domain false) (Rows.setupWaysSpec.post enc Try.prog Try.f6 false true false false) := by
  refine returnsInHanded_of_change (C := Try.checked) own started (by kernel_rfl) Try.func6
    (ChangeSpec.witness6 (enc := enc) (C := Try.checked) false ⟨#[], #[.int .i64 0, .int .i64 0], []⟩ 8 (by kernel_rfl) (by kernel_rfl) (by kernel_rfl) (by kernel_rfl)) ?_
  intro W base args ds gs before hval0 hW hcnd _
  have hval : ∀ (j : Nat) t v, Try.f6.params[j]? = some t → args[j]? = some v → Value.okWide Try.prog W .any base t v := hval0
  have hW' := hW
  obtain ⟨p, q, hA0, hV, rfl, hfz, hnd⟩ := hW
  have hA : DataW.TrodAll enc Try.prog W 0 (fun _ => true) true Try.f6.params.toList args.toList ds p := hA0
  rw [Try.params6] at hA hval
  obtain ⟨v0, vs0, d0, ds0, p0, q0, hargs, rfl, rfl, h0, r0⟩ := trodAll_cons hA
  obtain ⟨v1, vs1, d1, ds1, p1, q1, rfl, rfl, rfl, h1, r1⟩ := trodAll_cons r0
  obtain ⟨rfl, rfl, rfl⟩ := trodAll_nil r1
  obtain rfl : args = #[v0, v1] := by cases args; simp_all
  obtain ⟨rfl, rfl⟩ := trodVars_none hV
  obtain ⟨a0, rfl, rfl, rfl, w0⟩ := open_int Try.underlying3 (hval 0 3 v0 rfl rfl) h0
  obtain ⟨a1, rfl, rfl, rfl, w1⟩ := open_int Try.underlying3 (hval 1 3 v1 rfl rfl) h1
  clear hA0 hval0
  refine (walk a0 a1 w0 w1 W).mono fun e W' ⟨he, bel⟩ => ?_
  subst he
  exact ⟨_, rfl, _, _, _, [], _, [], hW', (trodAll_cons_mk (shut_bool Try.underlying4 _) trodAll_mk0), (trodAll_cons_mk (shut_int Try.underlying3 w0) (trodAll_cons_mk (shut_int Try.underlying3 w1) trodAll_mk0)), rfl, bel.frame _, fun h => by cases h⟩

theorem over : Rows.setupWaysRow.holds Try.pinned (OpenSpec.ofChange Rows.setupWaysSpec) :=
  OpenClaim.holds_of_wide 6 Try.f6 rfl rfl rfl rfl rfl rfl rfl ⟨rfl, rfl, rfl, rfl, rfl⟩ rfl rfl rfl rfl rfl (by kernel_rfl) Try.func6 (by kernel_rfl)
    (of_decide_eq_true (by kernel_rfl)) (by unfold Func.isWrapper; first | (rw [if_pos (by decide +kernel)]; kernel_rfl) | (rw [if_neg (by decide +kernel)]; exact ⟨rfl, rfl⟩))
    (fun os started H enc _ => lifted os started H enc)

theorem proved : Rows.SetupWaysSaid :=
  over
#print axioms proved
end Go.Proofs.Ytgefofdhhkcjdaa.setupWays
