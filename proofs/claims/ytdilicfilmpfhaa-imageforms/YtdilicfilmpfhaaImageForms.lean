/- Whatever the two numbers: the law ImageForms returns true (slots, flashes and records that are none are refused), and the arguments read as they did; no condition. -/
import Derived.Test.YtdilicfilmpfhaaRows
import Derived.Test.YtdilicfilmpfhaaImgAwake
import Derived.Deep.RegionHeld3
import Derived.ChangeOld
import Derived.Below
import Derived.WalkKit
import Derived.ProofKit
import Derived.OpenShut
import Derived.ShutString
namespace Go.Proofs.Ytdilicfilmpfhaa.imageForms
open Go.ChangeShapes Go.WideShapes Go.ChangeAt Go.RowKit
open Go.ChangeMaps (open_string shut_string)
set_option linter.unusedVariables false

open Go.Proofs.Ytdilicfilmpfhaa.Bytes
open Go.Proofs.Ytdilicfilmpfhaa.NorWalk
open Go.Proofs.Ytdilicfilmpfhaa.NorRef
open Go.Proofs.Ytdilicfilmpfhaa.Ent
open Go.Proofs.Ytdilicfilmpfhaa.EntRow
open Go.Proofs.Ytdilicfilmpfhaa.EntWalk
open Go.Proofs.Ytdilicfilmpfhaa.Jou
open Go.Proofs.Ytdilicfilmpfhaa.JouRef
open Go.Proofs.Ytdilicfilmpfhaa.Act
open Go.Proofs.Ytdilicfilmpfhaa.ImgWalk
open Go.Proofs.Ytdilicfilmpfhaa.ImgAwake
theorem own : ownKnob Try.prog.godebug = none := by kernel_rfl

attribute [local go_sem ↓] Go.wp_at_zero Go.wp_at_succ
theorem no_may (q t z m : Int) (h : ¬ (1 ≤ q ∧ q ≤ 1048576 ∧ 0 ≤ t ∧ t ≤ 1 ∧ 1 ≤ z ∧ z ≤ 288 ∧ 0 ≤ m ∧ m ≤ 4294967295)) (f : ByteArray) : imgOk f q t z m = false := by
  cases g : imgOk f q t z m with
  | false => rfl
  | true => exact absurd (recMay_parts.1 (imgOk_parts.1 g).2) h
theorem no_flash {f : ByteArray} (h : ¬ f.size = 768) (q t z m : Int) : imgOk f q t z m = false := by
  cases g : imgOk f q t z m with
  | false => rfl
  | true => exact absurd (imgOk_parts.1 g).1 h
theorem no_good (f : ByteArray) (q t z m : Int) (w : World) (h : imgOk f q t z m = false) : Calls Try.prog 11 #[.string f, .agg #[.int .i64 q, .int .i64 t, .int .i64 z, .int .i64 m]] w fun e w' => e = .returned (.tuple #[.bool false, .int .i64 600]) ∧ Below w.heap.size w w' := by
  have g := good_any f q t z m w
  rw [h, show goodB f q t z m = false from by unfold goodB; rw [h]; rfl] at g
  exact g
theorem no_base (t : Int) (w : World) (h : t < 0 ∨ 1 < t) : Calls Try.prog 7 #[.int .i64 t] w fun e w' => e = .returned (.tuple #[.int .i64 0, .int .i64 600]) ∧ w' = w := by
  have h1 : baseOk t = false := by unfold baseOk; exact decide_eq_false (by omega)
  have g := base_any t w
  rw [h1, show baseI t = 0 from by unfold baseI; rw [h1]; rfl] at g
  exact g
theorem build_r (w : World) : (Instr.build 23 #[(0, .int .i64 1), (2, .int .i64 5)]).run Try.prog w = .ok (.agg #[.int .i64 1, .int .i64 0, .int .i64 5, .int .i64 0]) w := run_build w 23 _ _ (by kernel_rfl)
theorem boxes_of {w' W : World} {a b c d x y z u : Value} {o : Obj} {e : TypeId} (h : ((w'.alloc (.cells #[a, b, c, d] e)).alloc (.cells #[x, y, z, u] e)).alloc o = W) :
    (w'.heap.size < W.heap.size ∧ W.cell? ⟨w'.heap.size, 0, none⟩ = some a ∧ W.cell? ⟨w'.heap.size, 1, none⟩ = some b ∧ W.cell? ⟨w'.heap.size, 2, none⟩ = some c ∧ W.cell? ⟨w'.heap.size, 3, none⟩ = some d) ∧
    (w'.heap.size + 1 < W.heap.size ∧ W.cell? ⟨w'.heap.size + 1, 0, none⟩ = some x ∧ W.cell? ⟨w'.heap.size + 1, 1, none⟩ = some y ∧ W.cell? ⟨w'.heap.size + 1, 2, none⟩ = some z ∧ W.cell? ⟨w'.heap.size + 1, 3, none⟩ = some u) ∧
    (∀ w0 : World, Below w0.heap.size w0 w' → Below w0.heap.size w0 W) := by
  subst h
  have hY := boxM (w'.alloc (.cells #[a, b, c, d] e)) x y z u e
  rw [show (w'.alloc (.cells #[a, b, c, d] e)).heap.size = w'.heap.size + 1 from by simp] at hY
  refine ⟨boxB (boxB (boxM w' a b c d e) ((Below.refl _ _).alloc (Nat.le_refl _) _)) ((Below.refl _ _).alloc (Nat.le_refl _) _), boxB hY ((Below.refl _ _).alloc (Nat.le_refl _) _), fun w0 hb => ?_⟩
  have h0 := hb.size
  exact ((hb.alloc h0 _).alloc (by simp; omega) _).alloc (by simp; omega) _
set_option maxHeartbeats 4000000 in
theorem walk (a0 : Int) (a1 : Int) (w0 : (Lit.int .i64 a0).wf = true) (w1 : (Lit.int .i64 a1).wf = true) (w : World) :
    Calls Try.prog 4 #[.int .i64 a0, .int .i64 a1] w fun e w' => e = .returned (.bool true) ∧ Below w.heap.size w w' := by
  have hB : Below w.heap.size w w := Below.refl _ _
  obtain ⟨d, hd, md⟩ : ∃ k : Nat, k ≤ 1023 ∧ bits .and .i64 a1 1023 = (k : Int) := mask_i64 a1 1023 (by omega)
  obtain ⟨c, hc, mc⟩ : ∃ k : Nat, k ≤ 1 ∧ bits .and .i64 a0 1 = (k : Int) := mask_i64 a0 1 (by omega)
  obtain ⟨n, hn, mn⟩ : ∃ k : Nat, k < 4 ∧ (IntKind.u64.wrap a0).tmod 4 = (k : Int) := by
    have e : IntKind.u64.wrap a0 = a0 % 18446744073709551616 := by simp [IntKind.wrap, IntKind.bits, IntKind.signed]
    rw [e, Int.tmod_eq_emod_of_nonneg (by omega)]
    exact ⟨(a0 % 18446744073709551616 % 4).toNat, by omega, by omega⟩
  have C1 := hide (fun w => refBlank_any w)
  have br := build_r
  have z1 : Nor.blankS.size ≤ 768 := by rw [Nor.size_blankS]; omega
  have z2 : 768 ≤ Nor.blankS.size := by rw [Nor.size_blankS]; omega
  have z3 : (1 : Int) ≤ (Nor.blankS.size : Int) := by omega
  have M1 : Hid (¬ (Nor.blankS.extract 1 Nor.blankS.size).size = 768) := by show ¬ _; rw [ByteArray.size_extract]; omega
  generalize Nor.blankS = F at *
  obtain rfl | rfl : c = 0 ∨ c = 1 := by omega
  all_goals
    obtain rfl | rfl | rfl | rfl : n = 0 ∨ n = 1 ∨ n = 2 ∨ n = 3 := by omega
  all_goals
    clear hn hc
    go_enter Try.func4, Try.ntmps4
    go_wp2_with (first | (go_at_call 14; refine (awake_any _).mono ?_; rintro e w' ⟨rfl, hb⟩; replace hB := hB.trans (hb.mono hB.size); clear hb) | (go_at_call 15; refine (C1.out _).mono ?_; rintro e w' ⟨rfl, hb⟩; replace hB := hB.trans (hb.mono hB.size); clear hb))
    refine (no_base _ _ (by omega)).mono ?_; rintro e w3 ⟨rfl, rfl⟩
    generalize hW : World.alloc (World.alloc (World.alloc w' _) _) _ = W
    obtain ⟨hX, hY, hZ⟩ := boxes_of hW
    replace hB := hZ w hB
    clear hW hZ
    generalize w'.heap.size = B at *
    go_wp2_with (first | (go_at_call 9; refine (of_no _ _ _ _ _ _ (by exact no_may _ _ _ _ (by omega) _)).mono ?_; rintro e w4 ⟨rfl, hb⟩; replace hB := thenB hB hb; replace hX := boxB hX hb; replace hY := boxB hY hb; clear hb) | (go_at_call 11; refine (no_good _ _ _ _ _ _ (by exact no_may _ _ _ _ (by omega) _)).mono ?_; rintro e w4 ⟨rfl, hb⟩; replace hB := thenB hB hb; replace hX := boxB hX hb; replace hY := boxB hY hb; clear hb))
    go_region_held3 (fun W => W.cell? ⟨B, 0, none⟩ = some (.int .i64 1) ∧ W.cell? ⟨B, 1, none⟩ = some (.int .i64 0) ∧ W.cell? ⟨B, 2, none⟩ = some (.int .i64 5) ∧ W.cell? ⟨B, 3, none⟩ = some (.int .i64 0)) (go_keep) ((go_at_call 9; refine (of_no _ _ _ _ _ _ (by exact no_flash M1.out _ _ _ _)).mono ?_; rintro e w4 ⟨rfl, hb⟩; replace hB := thenD hb hB rfl rfl rfl rfl; replace hX := boxD hb hX; clear hb))
    go_wp2_with fail
    go_region_held3 (fun W => W.cell? ⟨B, 0, none⟩ = some (.int .i64 1) ∧ W.cell? ⟨B, 1, none⟩ = some (.int .i64 0) ∧ W.cell? ⟨B, 2, none⟩ = some (.int .i64 5) ∧ W.cell? ⟨B, 3, none⟩ = some (.int .i64 0)) (go_keep) ((go_at_call 11; refine (no_good _ _ _ _ _ _ (by exact no_flash M1.out _ _ _ _)).mono ?_; rintro e w4 ⟨rfl, hb⟩; replace hB := thenD hb hB rfl rfl rfl rfl; replace hX := boxD hb hX; clear hb))
    go_wp2_with (go_at_call 13; refine (numJ_any _ _).mono ?_; rintro e w' ⟨rfl, rfl⟩)
    go_ret
    exact ⟨rfl, hB⟩

set_option maxRecDepth 100000 in
theorem lifted (os : Os) (started : os.Started) (H : Type) (enc : TypeId × Value → H) :
    ReturnsInHanded {} Try.checked os 4 .any (Rows.imageFormsSpec.pre6 enc Try.prog Try.f4 Rows.imageFormsRow.domain false) (Rows.imageFormsSpec.post enc Try.prog Try.f4 false true false false) := by
  refine returnsInHanded_of_change (C := Try.checked) own started (by kernel_rfl) Try.func4
    (ChangeSpec.witness6 (enc := enc) (C := Try.checked) false ⟨#[], #[.int .i64 0, .int .i64 0], []⟩ 8 (by kernel_rfl) (by kernel_rfl) (by kernel_rfl) (by kernel_rfl)) ?_
  intro W base args ds gs before hval0 hW hcnd _
  have hval : ∀ (j : Nat) t v, Try.f4.params[j]? = some t → args[j]? = some v → Value.okWide Try.prog W .any base t v := hval0
  have hW' := hW
  obtain ⟨p, q, hA0, hV, rfl, hfz, hnd⟩ := hW
  have hA : DataW.TrodAll enc Try.prog W 0 (fun _ => true) true Try.f4.params.toList args.toList ds p := hA0
  rw [Try.params4] at hA hval
  obtain ⟨v0, vs0, d0, ds0, p0, q0, hargs, rfl, rfl, h0, r0⟩ := trodAll_cons hA
  obtain ⟨v1, vs1, d1, ds1, p1, q1, rfl, rfl, rfl, h1, r1⟩ := trodAll_cons r0
  obtain ⟨rfl, rfl, rfl⟩ := trodAll_nil r1
  obtain rfl : args = #[v0, v1] := by cases args; simp_all
  obtain ⟨rfl, rfl⟩ := trodVars_none hV
  obtain ⟨a0, rfl, rfl, rfl, w0⟩ := open_int Try.underlying3 (hval 0 3 v0 rfl rfl) h0
  obtain ⟨a1, rfl, rfl, rfl, w1⟩ := open_int Try.underlying3 (hval 1 3 v1 rfl rfl) h1
  clear hA0 hval0
  refine (walk a0 a1 w0 w1 W).mono fun e W' ⟨he, bel⟩ => ?_
  subst he
  exact ⟨_, rfl, _, _, _, [], _, [], hW', (trodAll_cons_mk (shut_bool Try.underlying4 _) trodAll_mk0), (trodAll_cons_mk (shut_int Try.underlying3 w0) (trodAll_cons_mk (shut_int Try.underlying3 w1) trodAll_mk0)), rfl, bel.frame _, fun h => by cases h⟩

theorem over : Rows.imageFormsRow.holds Try.pinned (OpenSpec.ofChange Rows.imageFormsSpec) :=
  OpenClaim.holds_of_wide 4 Try.f4 rfl rfl rfl rfl rfl rfl rfl ⟨rfl, rfl, rfl, rfl, rfl⟩ rfl rfl rfl rfl rfl (by kernel_rfl) Try.func4 (by kernel_rfl)
    (of_decide_eq_true (by kernel_rfl)) (by unfold Func.isWrapper; first | (rw [if_pos (by decide +kernel)]; kernel_rfl) | (rw [if_neg (by decide +kernel)]; exact ⟨rfl, rfl⟩))
    (fun os started H enc _ => lifted os started H enc)

theorem proved : Rows.ImageFormsSaid :=
  over
#print axioms proved
end Go.Proofs.Ytdilicfilmpfhaa.imageForms
