/- Whatever the two numbers: the law IdentForms returns true (numbers that may not be are refused by their own error, whichever they are and wherever they stand), and the arguments read as they did; no condition. -/
import Derived.Test.YtlffkljnoebciaaRows
import Derived.Test.YtlffkljnoebciaaNorMath
import Derived.Test.YtlffkljnoebciaaBytes
import Derived.Test.YtlffkljnoebciaaNorWalk
import Derived.Test.YtlffkljnoebciaaNorRef
import Derived.Test.YtlffkljnoebciaaOpsMath
import Derived.Test.YtlffkljnoebciaaOpsRow
import Derived.Test.YtlffkljnoebciaaCrcMath
import Derived.Test.YtlffkljnoebciaaEntMath
import Derived.Test.YtlffkljnoebciaaEntRow
import Derived.Test.YtlffkljnoebciaaSufMath
import Derived.Test.YtlffkljnoebciaaIdtMath
import Derived.Test.YtlffkljnoebciaaIdtWalk
import Derived.Test.YtlffkljnoebciaaIdtAwake
import Derived.Deep.Cut
import Derived.Deep.RegionHeld3
import Derived.ChangeOld
import Derived.Below
import Derived.WalkKit
import Derived.ProofKit
import Derived.OpenShut
import Derived.ShutString
namespace Go.Proofs.Ytlffkljnoebciaa.identForms
open Go.ChangeShapes Go.WideShapes Go.ChangeAt Go.RowKit
open Go.ChangeMaps (open_string shut_string)
set_option linter.unusedVariables false

open Go.Proofs.Ytlffkljnoebciaa.Bytes
open Go.Proofs.Ytlffkljnoebciaa.Suf
open Go.Proofs.Ytlffkljnoebciaa.Idt
open Go.Proofs.Ytlffkljnoebciaa.IdtWalk
open Go.Proofs.Ytlffkljnoebciaa.IdtAwake
theorem own : ownKnob Try.prog.godebug = none := by kernel_rfl

open Go.Proofs.Ytlffkljnoebciaa.OpsRow (boxM boxB boxD thenD)
theorem hal (w : World) (o : Obj) : Below w.heap.size w (w.alloc o) := (Below.refl _ w).alloc (Nat.le_refl _) o
/-- The numbers that may not be: whichever is taken. -/
theorem bads (w : World) (e : TypeId) (M E : Int) (hM : M < 0) (hE : 65535 < E) (n : Nat) (hn : n < 6) : ∃ v p r, (w.alloc (.cells #[.int .i64 M, .int .i64 0, .int .i64 0, .int .i64 E, .int .i64 0, .int .i64 0, .int .i64 0, .int .i64 M, .int .i64 0, .int .i64 0, .int .i64 E, .int .i64 0, .int .i64 0, .int .i64 0, .int .i64 M, .int .i64 0, .int .i64 0, .int .i64 E] e)).cell? ⟨w.heap.size, n * 3, none⟩ = some (.int .i64 v) ∧ (w.alloc (.cells #[.int .i64 M, .int .i64 0, .int .i64 0, .int .i64 E, .int .i64 0, .int .i64 0, .int .i64 0, .int .i64 M, .int .i64 0, .int .i64 0, .int .i64 E, .int .i64 0, .int .i64 0, .int .i64 0, .int .i64 M, .int .i64 0, .int .i64 0, .int .i64 E] e)).cell? ⟨w.heap.size, n * 3 + 1, none⟩ = some (.int .i64 p) ∧ (w.alloc (.cells #[.int .i64 M, .int .i64 0, .int .i64 0, .int .i64 E, .int .i64 0, .int .i64 0, .int .i64 0, .int .i64 M, .int .i64 0, .int .i64 0, .int .i64 E, .int .i64 0, .int .i64 0, .int .i64 0, .int .i64 M, .int .i64 0, .int .i64 0, .int .i64 E] e)).cell? ⟨w.heap.size, n * 3 + 2, none⟩ = some (.int .i64 r) ∧ idsB v p r = false := by
  rcases (by omega : n = 0 ∨ n = 1 ∨ n = 2 ∨ n = 3 ∨ n = 4 ∨ n = 5) with rfl | rfl | rfl | rfl | rfl | rfl
  · refine ⟨M, 0, 0, by rw [World.cell?_alloc_at _ e _ _ rfl]; rfl, by rw [World.cell?_alloc_at _ e _ _ rfl]; rfl, by rw [World.cell?_alloc_at _ e _ _ rfl]; rfl, ?_⟩
    cases h : idsB M 0 0 with
    | false => rfl
    | true => have := idsB_parts.1 h; omega
  · refine ⟨E, 0, 0, by rw [World.cell?_alloc_at _ e _ _ rfl]; rfl, by rw [World.cell?_alloc_at _ e _ _ rfl]; rfl, by rw [World.cell?_alloc_at _ e _ _ rfl]; rfl, ?_⟩
    cases h : idsB E 0 0 with
    | false => rfl
    | true => have := idsB_parts.1 h; omega
  · refine ⟨0, M, 0, by rw [World.cell?_alloc_at _ e _ _ rfl]; rfl, by rw [World.cell?_alloc_at _ e _ _ rfl]; rfl, by rw [World.cell?_alloc_at _ e _ _ rfl]; rfl, ?_⟩
    cases h : idsB 0 M 0 with
    | false => rfl
    | true => have := idsB_parts.1 h; omega
  · refine ⟨0, E, 0, by rw [World.cell?_alloc_at _ e _ _ rfl]; rfl, by rw [World.cell?_alloc_at _ e _ _ rfl]; rfl, by rw [World.cell?_alloc_at _ e _ _ rfl]; rfl, ?_⟩
    cases h : idsB 0 E 0 with
    | false => rfl
    | true => have := idsB_parts.1 h; omega
  · refine ⟨0, 0, M, by rw [World.cell?_alloc_at _ e _ _ rfl]; rfl, by rw [World.cell?_alloc_at _ e _ _ rfl]; rfl, by rw [World.cell?_alloc_at _ e _ _ rfl]; rfl, ?_⟩
    cases h : idsB 0 0 M with
    | false => rfl
    | true => have := idsB_parts.1 h; omega
  · refine ⟨0, 0, E, by rw [World.cell?_alloc_at _ e _ _ rfl]; rfl, by rw [World.cell?_alloc_at _ e _ _ rfl]; rfl, by rw [World.cell?_alloc_at _ e _ _ rfl]; rfl, ?_⟩
    cases h : idsB 0 0 E with
    | false => rfl
    | true => have := idsB_parts.1 h; omega
set_option maxRecDepth 100000 in
set_option maxHeartbeats 4000000 in
theorem walk (a0 : Int) (a1 : Int) (w0 : (Lit.int .i64 a0).wf = true) (w1 : (Lit.int .i64 a1).wf = true) (w : World) :
    Calls Try.prog 4 #[.int .i64 a0, .int .i64 a1] w fun e w' => e = .returned (.bool true) ∧ Below w.heap.size w w' := by
  have HA := hide awake_any
  obtain ⟨k, hk, mk⟩ : ∃ k : Nat, k ≤ 1023 ∧ bits .and .i64 a1 1023 = (k : Int) := mask_i64 a1 1023 (by omega)
  obtain ⟨n, hn, mn⟩ : ∃ k : Nat, k < 6 ∧ wrap64 ((IntKind.u64.wrap a0).tmod 6) = (k : Int) := mod_u64 a0 6 (by omega) (by omega)
  obtain ⟨D, hD⟩ : ∃ D : Nat, D = 1 + k := ⟨_, rfl⟩
  have hD1 : (1 : Int) + (k : Int) = (D : Int) := by omega
  obtain ⟨E, hE⟩ : ∃ E : Nat, E = 65535 + D := ⟨_, rfl⟩
  have hE1 : (65535 : Int) + (D : Int) = (E : Int) := by omega
  have hD2 : 1 ≤ D := by omega
  have hD3 : D ≤ 1024 := by omega
  have HE2 : Hid (65535 < (E : Int)) := by show _ < _; omega
  have HM2 : Hid (-(D : Int) < 0) := by show _ < _; omega
  have hM1 : wrap64 (-(D : Int)) = -(D : Int) := by unfold wrap64; omega
  have g1 := build_v
  have g2 := build_p
  have g3 := build_r
  have g4 := build_ids
  clear hD hE hk
  go_enter Try.func4, Try.ntmps4
  go_upto_region 5 with (go_at_call 12; refine (HA.out _).mono ?_; rintro e w1 ⟨rfl, hb1⟩)
  have hX := boxM w1 (.int .i64 1) (.int .i64 2) (.int .i64 3) 23
  have hB := thenB hb1 (hal w1 (.cells #[.int .i64 1, .int .i64 2, .int .i64 3] 23))
  generalize w1.alloc (.cells #[.int .i64 1, .int .i64 2, .int .i64 3] 23) = W1 at *
  generalize w1.heap.size = X at *
  obtain ⟨v, p, r, hc0, hc1, hc2, hno⟩ := bads W1 23 (-(D : Int)) (E : Int) HM2.out HE2.out n hn
  clear hb1 HA HE2 HM2
  have HN := hide hno
  clear hno
  go_upto_region 6 with fail
  have hY := boxM (W1.alloc (.cells #[.int .i64 (-(D : Int)), .int .i64 0, .int .i64 0, .int .i64 (E : Int), .int .i64 0, .int .i64 0, .int .i64 0, .int .i64 (-(D : Int)), .int .i64 0, .int .i64 0, .int .i64 (E : Int), .int .i64 0, .int .i64 0, .int .i64 0, .int .i64 (-(D : Int)), .int .i64 0, .int .i64 0, .int .i64 (E : Int)] 23)) (.int .i64 v) (.int .i64 p) (.int .i64 r) 23
  rw [show (W1.alloc (.cells #[.int .i64 (-(D : Int)), .int .i64 0, .int .i64 0, .int .i64 (E : Int), .int .i64 0, .int .i64 0, .int .i64 0, .int .i64 (-(D : Int)), .int .i64 0, .int .i64 0, .int .i64 (E : Int), .int .i64 0, .int .i64 0, .int .i64 0, .int .i64 (-(D : Int)), .int .i64 0, .int .i64 0, .int .i64 (E : Int)] 23)).heap.size = W1.heap.size + 1 from by simp] at hY
  replace hX := boxB (boxB hX (hal W1 (.cells #[.int .i64 (-(D : Int)), .int .i64 0, .int .i64 0, .int .i64 (E : Int), .int .i64 0, .int .i64 0, .int .i64 0, .int .i64 (-(D : Int)), .int .i64 0, .int .i64 0, .int .i64 (E : Int), .int .i64 0, .int .i64 0, .int .i64 0, .int .i64 (-(D : Int)), .int .i64 0, .int .i64 0, .int .i64 (E : Int)] 23))) (hal _ (.cells #[.int .i64 v, .int .i64 p, .int .i64 r] 23))
  replace hB := thenB (thenB hB (hal W1 (.cells #[.int .i64 (-(D : Int)), .int .i64 0, .int .i64 0, .int .i64 (E : Int), .int .i64 0, .int .i64 0, .int .i64 0, .int .i64 (-(D : Int)), .int .i64 0, .int .i64 0, .int .i64 (E : Int), .int .i64 0, .int .i64 0, .int .i64 0, .int .i64 (-(D : Int)), .int .i64 0, .int .i64 0, .int .i64 (E : Int)] 23))) (hal _ (.cells #[.int .i64 v, .int .i64 p, .int .i64 r] 23))
  generalize (W1.alloc (.cells #[.int .i64 (-(D : Int)), .int .i64 0, .int .i64 0, .int .i64 (E : Int), .int .i64 0, .int .i64 0, .int .i64 0, .int .i64 (-(D : Int)), .int .i64 0, .int .i64 0, .int .i64 (E : Int), .int .i64 0, .int .i64 0, .int .i64 0, .int .i64 (-(D : Int)), .int .i64 0, .int .i64 0, .int .i64 (E : Int)] 23)).alloc (.cells #[.int .i64 v, .int .i64 p, .int .i64 r] 23) = W2 at *
  generalize W1.heap.size + 1 = Y at *
  clear hc0 hc1 hc2 g1 g2 g3 g4 hM1 mn mk hE1 hD1 hD2 hD3 hn
  have i1 : idsB 1 2 3 = true := by decide
  have i2 := HN.out
  have o1 : mtOk 1 2 3 v p r = false := by unfold mtOk; rw [i2]; exact Bool.and_false _
  have o2 : mtOk v p r 1 2 3 = false := by rw [mtOk_comm]; exact o1
  have m1 := mtB_no o1
  have m2 := mtB_no o2
  have e2 : errM false = 1200 := rfl
  clear HN
  go_wp2_with (first | (go_at_call 7; refine (match_any _ _ _ _ _ _ _).mono ?_; rintro e w' ⟨rfl, hb⟩; replace hB := thenB hB hb; replace hX := boxB hX hb; replace hY := boxB hY hb; clear hb) | (go_at_call 9; refine (num_any _ _).mono ?_; rintro e w' ⟨rfl, rfl⟩) | (go_at_call 10; refine (imay_any _ _ _ _).mono ?_; rintro e w' ⟨rfl, hb⟩; replace hB := thenB hB hb; replace hX := boxB hX hb; replace hY := boxB hY hb; clear hb))
  go_ret
  exact ⟨rfl, hB⟩

set_option maxRecDepth 100000 in
theorem lifted (os : Os) (started : os.Started) (H : Type) (enc : TypeId × Value → H) :
    ReturnsInHanded {} Try.checked os 4 .any (Rows.identFormsSpec.pre6 enc Try.prog Try.f4 Rows.identFormsRow.domain false) (Rows.identFormsSpec.post enc Try.prog Try.f4 false true false false) := by
  refine returnsInHanded_of_change (C := Try.checked) own started (by kernel_rfl) Try.func4
    (ChangeSpec.witness6 (enc := enc) (C := Try.checked) false ⟨#[], #[.int .i64 0, .int .i64 0], []⟩ 8 (by kernel_rfl) (by kernel_rfl) (by kernel_rfl) (by kernel_rfl)) ?_
  intro W base args ds gs before hval0 hW hcnd _
  have hval : ∀ (j : Nat) t v, Try.f4.params[j]? = some t → args[j]? = some v → Value.okWide Try.prog W .any base t v := hval0
  have hW' := hW
  obtain ⟨p, q, hA0, hV, rfl, hfz, hnd⟩ := hW
  have hA : DataW.TrodAll enc Try.prog W 0 (fun _ => true) true Try.f4.params.toList args.toList ds p := hA0
  rw [Try.params4] at hA hval
  obtain ⟨v0, vs0, d0, ds0, p0, q0, hargs, rfl, rfl, h0, r0⟩ := trodAll_cons hA
  obtain ⟨v1, vs1, d1, ds1, p1, q1, rfl, rfl, rfl, h1, r1⟩ := trodAll_cons r0
  obtain ⟨rfl, rfl, rfl⟩ := trodAll_nil r1
  obtain rfl : args = #[v0, v1] := by cases args; simp_all
  obtain ⟨rfl, rfl⟩ := trodVars_none hV
  obtain ⟨a0, rfl, rfl, rfl, w0⟩ := open_int Try.underlying3 (hval 0 3 v0 rfl rfl) h0
  obtain ⟨a1, rfl, rfl, rfl, w1⟩ := open_int Try.underlying3 (hval 1 3 v1 rfl rfl) h1
  clear hA0 hval0
  refine (walk a0 a1 w0 w1 W).mono fun e W' ⟨he, bel⟩ => ?_
  subst he
  exact ⟨_, rfl, _, _, _, [], _, [], hW', (trodAll_cons_mk (shut_bool Try.underlying4 _) trodAll_mk0), (trodAll_cons_mk (shut_int Try.underlying3 w0) (trodAll_cons_mk (shut_int Try.underlying3 w1) trodAll_mk0)), rfl, bel.frame _, fun h => by cases h⟩

theorem over : Rows.identFormsRow.holds Try.pinned (OpenSpec.ofChange Rows.identFormsSpec) :=
  OpenClaim.holds_of_wide 4 Try.f4 rfl rfl rfl rfl rfl rfl rfl ⟨rfl, rfl, rfl, rfl, rfl⟩ rfl rfl rfl rfl rfl (by kernel_rfl) Try.func4 (by kernel_rfl)
    (of_decide_eq_true (by kernel_rfl)) (by unfold Func.isWrapper; first | (rw [if_pos (by decide +kernel)]; kernel_rfl) | (rw [if_neg (by decide +kernel)]; exact ⟨rfl, rfl⟩))
    (fun os started H enc _ => lifted os started H enc)

theorem proved : Rows.IdentFormsSaid :=
  over
#print axioms proved
end Go.Proofs.Ytlffkljnoebciaa.identForms
