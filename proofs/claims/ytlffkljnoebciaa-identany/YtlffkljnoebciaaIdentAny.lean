/- Whatever the four numbers: the law IdentAny returns true (each matches its own, any matches all, another one none), and the arguments read as they did; no condition. -/
import Derived.Test.YtlffkljnoebciaaRows
import Derived.Test.YtlffkljnoebciaaNorMath
import Derived.Test.YtlffkljnoebciaaBytes
import Derived.Test.YtlffkljnoebciaaNorWalk
import Derived.Test.YtlffkljnoebciaaNorRef
import Derived.Test.YtlffkljnoebciaaOpsMath
import Derived.Test.YtlffkljnoebciaaOpsRow
import Derived.Test.YtlffkljnoebciaaCrcMath
import Derived.Test.YtlffkljnoebciaaEntMath
import Derived.Test.YtlffkljnoebciaaEntRow
import Derived.Test.YtlffkljnoebciaaSufMath
import Derived.Test.YtlffkljnoebciaaIdtMath
import Derived.Test.YtlffkljnoebciaaIdtWalk
import Derived.Test.YtlffkljnoebciaaIdtAwake
import Derived.Deep.Cut
import Derived.Deep.RegionHeld3
import Derived.ChangeOld
import Derived.Below
import Derived.WalkKit
import Derived.ProofKit
import Derived.OpenShut
import Derived.ShutString
namespace Go.Proofs.Ytlffkljnoebciaa.identAny
open Go.ChangeShapes Go.WideShapes Go.ChangeAt Go.RowKit
open Go.ChangeMaps (open_string shut_string)
set_option linter.unusedVariables false

open Go.Proofs.Ytlffkljnoebciaa.Bytes
open Go.Proofs.Ytlffkljnoebciaa.Suf
open Go.Proofs.Ytlffkljnoebciaa.Idt
open Go.Proofs.Ytlffkljnoebciaa.IdtWalk
open Go.Proofs.Ytlffkljnoebciaa.IdtAwake
theorem own : ownKnob Try.prog.godebug = none := by kernel_rfl

open Go.Proofs.Ytlffkljnoebciaa.OpsRow (boxM boxB boxD thenD)
theorem hal (w : World) (o : Obj) : Below w.heap.size w (w.alloc o) := (Below.refl _ w).alloc (Nat.le_refl _) o
theorem which8 (a : Int) : ∃ m : Nat, m < 8 ∧ bits .and .i64 a 1 = ((m &&& 1 : Nat) : Int) ∧ bits .and .i64 a 2 = ((m &&& 2 : Nat) : Int) ∧ bits .and .i64 a 4 = ((m &&& 4 : Nat) : Int) ∧ bits .and .i64 a 7 = (m : Int) := by
  have key : ∀ k : Nat, k ≤ 7 → bits .and .i64 a (k : Int) = (((BitVec.ofInt 64 a).toNat &&& k : Nat) : Int) := fun k hk => by
    show IntKind.i64.wrap ((BitVec.ofInt 64 a &&& BitVec.ofInt 64 (k : Int)).toNat : Int) = _
    have hl : (BitVec.ofInt 64 a).toNat &&& k ≤ k := Nat.and_le_right
    rw [BitVec.toNat_and, ofInt_u64 k (by omega), IntKind.wrap_i64]
    omega
  have k1 := key 1 (by omega)
  have k2 := key 2 (by omega)
  have k4 := key 4 (by omega)
  have k7 := key 7 (by omega)
  generalize (BitVec.ofInt 64 a).toNat = N at k1 k2 k4 k7
  have a1 : N &&& 1 = (N &&& 7) &&& 1 := by rw [Nat.and_assoc]; rfl
  have a2 : N &&& 2 = (N &&& 7) &&& 2 := by rw [Nat.and_assoc]; rfl
  have a4 : N &&& 4 = (N &&& 7) &&& 4 := by rw [Nat.and_assoc]; rfl
  have hm : N &&& 7 ≤ 7 := Nat.and_le_right
  rw [a1] at k1
  rw [a2] at k2
  rw [a4] at k4
  generalize N &&& 7 = m at *
  exact ⟨m, by omega, k1, k2, k4, k7⟩
theorem match_yes (v p r v' p' r' : Int) (w : World) (h : (0 ≤ v ∧ v ≤ 65535) ∧ (0 ≤ p ∧ p ≤ 65535) ∧ (0 ≤ r ∧ r ≤ 65535) ∧ (0 ≤ v' ∧ v' ≤ 65535) ∧ (0 ≤ p' ∧ p' ≤ 65535) ∧ (0 ≤ r' ∧ r' ≤ 65535) ∧ (v = v' ∨ v = 65535) ∧ (p = p' ∨ p = 65535) ∧ (r = r' ∨ r = 65535)) : Calls Try.prog 7 #[.agg #[.int .i64 v, .int .i64 p, .int .i64 r], .agg #[.int .i64 v', .int .i64 p', .int .i64 r']] w fun e w' => e = .returned (.tuple #[.bool true, .int .i64 0]) ∧ Below w.heap.size w w' := by
  obtain ⟨h1, h2, h3, h4, h5, h6, h7⟩ := h
  have k := mtOk_parts.2 ⟨idsB_parts.2 ⟨h1, h2, h3⟩, idsB_parts.2 ⟨h4, h5, h6⟩⟩
  have g := match_any v p r v' p' r' w
  rw [mtB_ok k, fitsB_iff.2 h7, k] at g
  exact g
theorem match_no (v p r v' p' r' : Int) (w : World) (h : (0 ≤ v ∧ v ≤ 65535) ∧ (0 ≤ p ∧ p ≤ 65535) ∧ (0 ≤ r ∧ r ≤ 65535) ∧ (0 ≤ v' ∧ v' ≤ 65535) ∧ (0 ≤ p' ∧ p' ≤ 65535) ∧ (0 ≤ r' ∧ r' ≤ 65535) ∧ ¬ ((v = v' ∨ v = 65535) ∧ (p = p' ∨ p = 65535) ∧ (r = r' ∨ r = 65535))) : Calls Try.prog 7 #[.agg #[.int .i64 v, .int .i64 p, .int .i64 r], .agg #[.int .i64 v', .int .i64 p', .int .i64 r']] w fun e w' => e = .returned (.tuple #[.bool false, .int .i64 0]) ∧ Below w.heap.size w w' := by
  obtain ⟨h1, h2, h3, h4, h5, h6, h7⟩ := h
  have k := mtOk_parts.2 ⟨idsB_parts.2 ⟨h1, h2, h3⟩, idsB_parts.2 ⟨h4, h5, h6⟩⟩
  have g := match_any v p r v' p' r' w
  have f : fitsB v p r v' p' r' = false := by rw [← Bool.not_eq_true, fitsB_iff]; exact h7
  rw [mtB_ok k, f, k] at g
  exact g
/-- Three structs in memory, one behind the other. -/
theorem boxes_of {w' W : World} {a b c x y z s t u : Value} {e : TypeId} (h : ((w'.alloc (.cells #[a, b, c] e)).alloc (.cells #[x, y, z] e)).alloc (.cells #[s, t, u] e) = W) :
    (w'.heap.size < W.heap.size ∧ W.cell? ⟨w'.heap.size, 0, none⟩ = some a ∧ W.cell? ⟨w'.heap.size, 1, none⟩ = some b ∧ W.cell? ⟨w'.heap.size, 2, none⟩ = some c) ∧
    (w'.heap.size + 1 < W.heap.size ∧ W.cell? ⟨w'.heap.size + 1, 0, none⟩ = some x ∧ W.cell? ⟨w'.heap.size + 1, 1, none⟩ = some y ∧ W.cell? ⟨w'.heap.size + 1, 2, none⟩ = some z) ∧
    (w'.heap.size + 1 + 1 < W.heap.size ∧ W.cell? ⟨w'.heap.size + 1 + 1, 0, none⟩ = some s ∧ W.cell? ⟨w'.heap.size + 1 + 1, 1, none⟩ = some t ∧ W.cell? ⟨w'.heap.size + 1 + 1, 2, none⟩ = some u) ∧
    (∀ w0 : World, Below w0.heap.size w0 w' → Below w0.heap.size w0 W) := by
  subst h
  have hY := boxM (w'.alloc (.cells #[a, b, c] e)) x y z e
  rw [show (w'.alloc (.cells #[a, b, c] e)).heap.size = w'.heap.size + 1 from by simp] at hY
  have hZ := boxM ((w'.alloc (.cells #[a, b, c] e)).alloc (.cells #[x, y, z] e)) s t u e
  rw [show ((w'.alloc (.cells #[a, b, c] e)).alloc (.cells #[x, y, z] e)).heap.size = w'.heap.size + 1 + 1 from by simp] at hZ
  refine ⟨boxB (boxB (boxM w' a b c e) (hal _ _)) (hal _ _), boxB hY (hal _ _), hZ, fun w0 hb => ?_⟩
  exact thenB (thenB (thenB hb (hal _ _)) (hal _ _)) (hal _ _)
set_option maxRecDepth 100000 in
set_option maxHeartbeats 4000000 in
theorem walk (a0 : Int) (a1 : Int) (a2 : Int) (a3 : Int) (w0 : (Lit.int .i64 a0).wf = true) (w1 : (Lit.int .i64 a1).wf = true) (w2 : (Lit.int .i64 a2).wf = true) (w3 : (Lit.int .i64 a3).wf = true) (w : World) :
    Calls Try.prog 5 #[.int .i64 a0, .int .i64 a1, .int .i64 a2, .int .i64 a3] w fun e w' => e = .returned (.bool true) ∧ Below w.heap.size w w' := by
  have HA := hide awake_any
  obtain ⟨x, hx, mx⟩ : ∃ k : Nat, k ≤ 32767 ∧ bits .and .i64 a0 32767 = (k : Int) := mask_i64 a0 32767 (by omega)
  obtain ⟨y, hy, my⟩ : ∃ k : Nat, k ≤ 32767 ∧ bits .and .i64 a1 32767 = (k : Int) := mask_i64 a1 32767 (by omega)
  obtain ⟨z, hz, mz⟩ : ∃ k : Nat, k ≤ 32767 ∧ bits .and .i64 a2 32767 = (k : Int) := mask_i64 a2 32767 (by omega)
  obtain ⟨q, hq, hqy, mq⟩ : ∃ q : Nat, q ≤ 32767 ∧ ¬ q = y ∧ bits .xor .i64 (y : Int) 1 = (q : Int) := by
    refine ⟨y ^^^ 1, ?_, ?_, xor_i64 y 1 (by omega) (by omega)⟩
    · have : y ^^^ 1 < 2 ^ 15 := Nat.xor_lt_two_pow (by omega) (by omega)
      omega
    · intro e
      have := congrArg (y ^^^ ·) e
      simp only [← Nat.xor_assoc, Nat.xor_self, Nat.zero_xor] at this
      omega
  obtain ⟨m, hm, m1, m2, m4, m7⟩ := which8 a3
  have g4 := build_ids
  have H1 := hide hx
  have H2 := hide hy
  have H3 := hide hz
  have H4 := hide hq
  have H5 := hide hqy
  clear hx hy hz hq hqy
  rcases (by omega : m = 0 ∨ m = 1 ∨ m = 2 ∨ m = 3 ∨ m = 4 ∨ m = 5 ∨ m = 6 ∨ m = 7) with rfl | rfl | rfl | rfl | rfl | rfl | rfl | rfl
  all_goals
    clear hm
    go_enter Try.func5, Try.ntmps5
    go_upto_region 13 with (go_at_call 12; refine (HA.out _).mono ?_; rintro e w1 ⟨rfl, hb1⟩)
    generalize hW : World.alloc (World.alloc (World.alloc w1 _) _) _ = W
    obtain ⟨hX, hY, hZ, hF⟩ := boxes_of hW
    have hB := hF w hb1
    clear hW hF hb1 HA g4 mx my mz mq m1 m2 m4
    generalize w1.heap.size = B at *
    have hx := H1.out
    have hy := H2.out
    have hz := H3.out
    have hq := H4.out
    have hqy := H5.out
    clear H1 H2 H3 H4 H5
    go_upto_region 14 with (go_at_call 7; refine (match_yes _ _ _ _ _ _ _ (by omega)).mono ?_; rintro e w2 ⟨rfl, hb⟩; replace hB := thenB hB hb; replace hX := boxB hX hb; replace hY := boxB hY hb; replace hZ := boxB hZ hb; clear hb)
    go_upto_region 15 with (go_at_call 7; refine (match_yes _ _ _ _ _ _ _ (by omega)).mono ?_; rintro e w3 ⟨rfl, hb⟩; replace hB := thenB hB hb; replace hX := boxB hX hb; replace hY := boxB hY hb; replace hZ := boxB hZ hb; clear hb)
    go_upto_region 16 with (go_at_call 7; (first | refine (match_yes _ _ _ _ _ _ _ (by omega)).mono ?_ | refine (match_no _ _ _ _ _ _ _ (by omega)).mono ?_); rintro e w4 ⟨rfl, hb⟩; replace hB := thenB hB hb; replace hX := boxB hX hb; replace hY := boxB hY hb; replace hZ := boxB hZ hb; clear hb)
    go_upto_region 17 with (go_at_call 7; refine (match_no _ _ _ _ _ _ _ (by omega)).mono ?_; rintro e w5 ⟨rfl, hb⟩; replace hB := thenB hB hb; clear hb)
    clear hX hY hZ hx hy hz hq hqy
    go_wp2_with (go_at_call 9; refine (num_any _ _).mono ?_; rintro e w' ⟨rfl, rfl⟩)
    go_ret
    exact ⟨rfl, hB⟩

set_option maxRecDepth 100000 in
theorem lifted (os : Os) (started : os.Started) (H : Type) (enc : TypeId × Value → H) :
    ReturnsInHanded {} Try.checked os 5 .any (Rows.identAnySpec.pre6 enc Try.prog Try.f5 Rows.identAnyRow.domain false) (Rows.identAnySpec.post enc Try.prog Try.f5 false true false false) := by
  refine returnsInHanded_of_change (C := Try.checked) own started (by kernel_rfl) Try.func5
    (ChangeSpec.witness6 (enc := enc) (C := Try.checked) false ⟨#[], #[.int .i64 0, .int .i64 0, .int .i64 0, .int .i64 0], []⟩ 8 (by kernel_rfl) (by kernel_rfl) (by kernel_rfl) (by kernel_rfl)) ?_
  intro W base args ds gs before hval0 hW hcnd _
  have hval : ∀ (j : Nat) t v, Try.f5.params[j]? = some t → args[j]? = some v → Value.okWide Try.prog W .any base t v := hval0
  have hW' := hW
  obtain ⟨p, q, hA0, hV, rfl, hfz, hnd⟩ := hW
  have hA : DataW.TrodAll enc Try.prog W 0 (fun _ => true) true Try.f5.params.toList args.toList ds p := hA0
  rw [Try.params5] at hA hval
  obtain ⟨v0, vs0, d0, ds0, p0, q0, hargs, rfl, rfl, h0, r0⟩ := trodAll_cons hA
  obtain ⟨v1, vs1, d1, ds1, p1, q1, rfl, rfl, rfl, h1, r1⟩ := trodAll_cons r0
  obtain ⟨v2, vs2, d2, ds2, p2, q2, rfl, rfl, rfl, h2, r2⟩ := trodAll_cons r1
  obtain ⟨v3, vs3, d3, ds3, p3, q3, rfl, rfl, rfl, h3, r3⟩ := trodAll_cons r2
  obtain ⟨rfl, rfl, rfl⟩ := trodAll_nil r3
  obtain rfl : args = #[v0, v1, v2, v3] := by cases args; simp_all
  obtain ⟨rfl, rfl⟩ := trodVars_none hV
  obtain ⟨a0, rfl, rfl, rfl, w0⟩ := open_int Try.underlying3 (hval 0 3 v0 rfl rfl) h0
  obtain ⟨a1, rfl, rfl, rfl, w1⟩ := open_int Try.underlying3 (hval 1 3 v1 rfl rfl) h1
  obtain ⟨a2, rfl, rfl, rfl, w2⟩ := open_int Try.underlying3 (hval 2 3 v2 rfl rfl) h2
  obtain ⟨a3, rfl, rfl, rfl, w3⟩ := open_int Try.underlying3 (hval 3 3 v3 rfl rfl) h3
  clear hA0 hval0
  refine (walk a0 a1 a2 a3 w0 w1 w2 w3 W).mono fun e W' ⟨he, bel⟩ => ?_
  subst he
  exact ⟨_, rfl, _, _, _, [], _, [], hW', (trodAll_cons_mk (shut_bool Try.underlying4 _) trodAll_mk0), (trodAll_cons_mk (shut_int Try.underlying3 w0) (trodAll_cons_mk (shut_int Try.underlying3 w1) (trodAll_cons_mk (shut_int Try.underlying3 w2) (trodAll_cons_mk (shut_int Try.underlying3 w3) trodAll_mk0)))), rfl, bel.frame _, fun h => by cases h⟩

theorem over : Rows.identAnyRow.holds Try.pinned (OpenSpec.ofChange Rows.identAnySpec) :=
  OpenClaim.holds_of_wide 5 Try.f5 rfl rfl rfl rfl rfl rfl rfl ⟨rfl, rfl, rfl, rfl, rfl⟩ rfl rfl rfl rfl rfl (by kernel_rfl) Try.func5 (by kernel_rfl)
    (of_decide_eq_true (by kernel_rfl)) (by unfold Func.isWrapper; first | (rw [if_pos (by decide +kernel)]; kernel_rfl) | (rw [if_neg (by decide +kernel)]; exact ⟨rfl, rfl⟩))
    (fun os started H enc _ => lifted os started H enc)

theorem proved : Rows.IdentAnySaid :=
  over
#print axioms proved
end Go.Proofs.Ytlffkljnoebciaa.identAny
