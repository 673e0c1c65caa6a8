/- Whatever the two numbers: the law OpsForms returns true (steps, places, texts and cuts that may not be are refused), and the arguments read as they did; no condition. -/
import Derived.Test.YtdjiifponkclnaaRows
import Derived.Test.YtdjiifponkclnaaNorMath
import Derived.Test.YtdjiifponkclnaaBytes
import Derived.Test.YtdjiifponkclnaaNorWalk
import Derived.Test.YtdjiifponkclnaaNorRef
import Derived.Test.YtdjiifponkclnaaOpsMath
import Derived.Test.YtdjiifponkclnaaOpsRow
import Derived.Test.YtdjiifponkclnaaOpsWalk
import Derived.Test.YtdjiifponkclnaaOpsWords
import Derived.Test.YtdjiifponkclnaaOpsHelp
import Derived.Test.YtdjiifponkclnaaOpsAwake
import Derived.Deep.DeepCutAuto
import Derived.Deep.CutBlock
import Derived.Deep.RegionWith
import Derived.RegionTactic
import Derived.ChangeOld
import Derived.Below
import Derived.WalkKit
import Derived.ProofKit
import Derived.OpenShut
import Derived.ShutString
namespace Go.Proofs.Ytdjiifponkclnaa.opsForms
open Go.ChangeShapes Go.WideShapes Go.ChangeAt Go.RowKit
open Go.ChangeMaps (open_string shut_string)
set_option linter.unusedVariables false

open Go.Proofs.Ytdjiifponkclnaa.Bytes
open Go.Proofs.Ytdjiifponkclnaa.NorRef
open Go.Proofs.Ytdjiifponkclnaa.Ops
open Go.Proofs.Ytdjiifponkclnaa.OpsRow
open Go.Proofs.Ytdjiifponkclnaa.OpsWalk
open Go.Proofs.Ytdjiifponkclnaa.OpsWords
open Go.Proofs.Ytdjiifponkclnaa.OpsHelp
open Go.Proofs.Ytdjiifponkclnaa.OpsAwake
theorem own : ownKnob Try.prog.godebug = none := by kernel_rfl

theorem build_er_tx (t : ByteArray) (w : World) : (Instr.build 23 #[(0, .bool true), (2, .string t)]).run Try.prog w = .ok (.agg #[.bool true, .int .i64 0, .string t]) w := run_build w 23 _ _ (by kernel_rfl)
theorem build_tx (t : ByteArray) (w : World) : (Instr.build 23 #[(2, .string t)]).run Try.prog w = .ok (.agg #[.bool false, .int .i64 0, .string t]) w := run_build w 23 _ _ (by kernel_rfl)
theorem bads (W : World) (d k : Nat) (hk : k < 10) : ∃ (e : Bool) (a : Int) (t : ByteArray), (W.alloc (.cells #[.bool true, .int .i64 (-96 * (1 + (d : Int))), .string ⟨#[]⟩, .bool true, .int .i64 (672 + 96 * (1 + (d : Int))), .string ⟨#[]⟩, .bool true, .int .i64 4, .string ⟨#[]⟩, .bool true, .int .i64 0, .string ⟨#[97, 98, 99, 100]⟩, .bool false, .int .i64 (-4 * (1 + (d : Int))), .string ⟨#[97, 98, 99, 100]⟩, .bool false, .int .i64 (764 + 4 * (1 + (d : Int))), .string ⟨#[97, 98, 99, 100]⟩, .bool false, .int .i64 2, .string ⟨#[97, 98, 99, 100]⟩, .bool false, .int .i64 0, .string ⟨#[97, 98, 99]⟩, .bool false, .int .i64 0, .string ⟨#[]⟩, .bool false, .int .i64 0, .string ⟨#[97, 98, 99, 100, 101]⟩] 23)).cell? ⟨W.heap.size, k * 3, none⟩ = some (.bool e) ∧ (W.alloc (.cells #[.bool true, .int .i64 (-96 * (1 + (d : Int))), .string ⟨#[]⟩, .bool true, .int .i64 (672 + 96 * (1 + (d : Int))), .string ⟨#[]⟩, .bool true, .int .i64 4, .string ⟨#[]⟩, .bool true, .int .i64 0, .string ⟨#[97, 98, 99, 100]⟩, .bool false, .int .i64 (-4 * (1 + (d : Int))), .string ⟨#[97, 98, 99, 100]⟩, .bool false, .int .i64 (764 + 4 * (1 + (d : Int))), .string ⟨#[97, 98, 99, 100]⟩, .bool false, .int .i64 2, .string ⟨#[97, 98, 99, 100]⟩, .bool false, .int .i64 0, .string ⟨#[97, 98, 99]⟩, .bool false, .int .i64 0, .string ⟨#[]⟩, .bool false, .int .i64 0, .string ⟨#[97, 98, 99, 100, 101]⟩] 23)).cell? ⟨W.heap.size, k * 3 + 1, none⟩ = some (.int .i64 a) ∧ (W.alloc (.cells #[.bool true, .int .i64 (-96 * (1 + (d : Int))), .string ⟨#[]⟩, .bool true, .int .i64 (672 + 96 * (1 + (d : Int))), .string ⟨#[]⟩, .bool true, .int .i64 4, .string ⟨#[]⟩, .bool true, .int .i64 0, .string ⟨#[97, 98, 99, 100]⟩, .bool false, .int .i64 (-4 * (1 + (d : Int))), .string ⟨#[97, 98, 99, 100]⟩, .bool false, .int .i64 (764 + 4 * (1 + (d : Int))), .string ⟨#[97, 98, 99, 100]⟩, .bool false, .int .i64 2, .string ⟨#[97, 98, 99, 100]⟩, .bool false, .int .i64 0, .string ⟨#[97, 98, 99]⟩, .bool false, .int .i64 0, .string ⟨#[]⟩, .bool false, .int .i64 0, .string ⟨#[97, 98, 99, 100, 101]⟩] 23)).cell? ⟨W.heap.size, k * 3 + 2, none⟩ = some (.string t) ∧ opMay e a t = false := by
  simp only [World.cell?_alloc_at _ _ _ _ rfl]
  obtain rfl | rfl | rfl | rfl | rfl | rfl | rfl | rfl | rfl | rfl : k = 0 ∨ k = 1 ∨ k = 2 ∨ k = 3 ∨ k = 4 ∨ k = 5 ∨ k = 6 ∨ k = 7 ∨ k = 8 ∨ k = 9 := by omega
  all_goals refine ⟨_, _, _, rfl, rfl, rfl, ?_⟩
  all_goals unfold opMay
  all_goals first | rw [if_pos rfl] | rw [if_neg (by simp)]
  all_goals refine decide_eq_false ?_
  all_goals first | omega | (rintro ⟨_, _, _, h⟩; revert h; decide)
theorem words_empty (w : World) : Calls Try.prog 9 #[.int .i64 768, .string ⟨#[]⟩] w fun e w' => ∃ a cap, e = .returned (.tuple #[.slice a 0 cap, .int .i64 0]) ∧ Below w.heap.size w w' := by
  refine (words_yes 768 _ w (by decide)).mono ?_
  rintro e w' ⟨v, rfl, hown, hb⟩
  obtain ⟨a, cap, rfl, _⟩ := owns_is hown
  exact ⟨a, cap, rfl, hb⟩
set_option maxHeartbeats 4000000 in
set_option maxRecDepth 100000 in
theorem walk (a0 : Int) (a1 : Int) (w0 : (Lit.int .i64 a0).wf = true) (w1 : (Lit.int .i64 a1).wf = true) (w : World) :
    Calls Try.prog 5 #[.int .i64 a0, .int .i64 a1] w fun e w' => e = .returned (.bool true) ∧ Below w.heap.size w w' := by
  have hB : Below w.heap.size w w := Below.refl _ _
  have e0 : errO true = 0 := rfl
  have e2 : errO false = 300 := rfl
  have q1 := build_at
  have q2 := build_er
  have q3 := build_er_at
  have q4 := build_er_tx
  have q5 := build_tx
  obtain ⟨d, hd, md⟩ : ∃ k : Nat, k ≤ 1023 ∧ bits .and .i64 a1 1023 = (k : Int) := mask_i64 a1 1023 (by omega)
  obtain ⟨b, hb1, mb⟩ : ∃ k : Nat, k ≤ 1 ∧ bits .and .i64 a1 1 = (k : Int) := mask_i64 a1 1 (by omega)
  obtain ⟨c, hc1, mc⟩ : ∃ k : Nat, k ≤ 1 ∧ bits .and .i64 a0 1 = (k : Int) := mask_i64 a0 1 (by omega)
  obtain ⟨k, hk, mk⟩ : ∃ k : Nat, k < 10 ∧ wrap64 ((IntKind.u64.wrap a0).tmod 10) = (k : Int) := mod_u64 a0 10 (by omega) (by omega)
  have sz0 := Nor.size_blankS
  go_enter Try.func5, Try.ntmps5
  go_upto_region 6 with (first | (go_at_call 20; refine (awake_any _).mono ?_; rintro e w' ⟨rfl, hb⟩; replace hB := hB.trans (hb.mono hB.size); clear hb) | (go_at_call 21; refine (refBlank_any _).mono ?_; rintro e w' ⟨rfl, hb⟩; replace hB := hB.trans (hb.mono hB.size); clear hb))
  obtain ⟨E, A, T, c0, c1, c2, hm⟩ := bads w' d k hk
  have s1 := size_alloc1 w' (.cells #[.bool true, .int .i64 (-96 * (1 + (d : Int))), .string ⟨#[]⟩, .bool true, .int .i64 (672 + 96 * (1 + (d : Int))), .string ⟨#[]⟩, .bool true, .int .i64 4, .string ⟨#[]⟩, .bool true, .int .i64 0, .string ⟨#[97, 98, 99, 100]⟩, .bool false, .int .i64 (-4 * (1 + (d : Int))), .string ⟨#[97, 98, 99, 100]⟩, .bool false, .int .i64 (764 + 4 * (1 + (d : Int))), .string ⟨#[97, 98, 99, 100]⟩, .bool false, .int .i64 2, .string ⟨#[97, 98, 99, 100]⟩, .bool false, .int .i64 0, .string ⟨#[97, 98, 99]⟩, .bool false, .int .i64 0, .string ⟨#[]⟩, .bool false, .int .i64 0, .string ⟨#[97, 98, 99, 100, 101]⟩] 23)
  replace hB := hB.alloc hB.size (.cells #[.bool true, .int .i64 (-96 * (1 + (d : Int))), .string ⟨#[]⟩, .bool true, .int .i64 (672 + 96 * (1 + (d : Int))), .string ⟨#[]⟩, .bool true, .int .i64 4, .string ⟨#[]⟩, .bool true, .int .i64 0, .string ⟨#[97, 98, 99, 100]⟩, .bool false, .int .i64 (-4 * (1 + (d : Int))), .string ⟨#[97, 98, 99, 100]⟩, .bool false, .int .i64 (764 + 4 * (1 + (d : Int))), .string ⟨#[97, 98, 99, 100]⟩, .bool false, .int .i64 2, .string ⟨#[97, 98, 99, 100]⟩, .bool false, .int .i64 0, .string ⟨#[97, 98, 99]⟩, .bool false, .int .i64 0, .string ⟨#[]⟩, .bool false, .int .i64 0, .string ⟨#[97, 98, 99, 100, 101]⟩] 23)
  generalize w'.alloc (.cells #[.bool true, .int .i64 (-96 * (1 + (d : Int))), .string ⟨#[]⟩, .bool true, .int .i64 (672 + 96 * (1 + (d : Int))), .string ⟨#[]⟩, .bool true, .int .i64 4, .string ⟨#[]⟩, .bool true, .int .i64 0, .string ⟨#[97, 98, 99, 100]⟩, .bool false, .int .i64 (-4 * (1 + (d : Int))), .string ⟨#[97, 98, 99, 100]⟩, .bool false, .int .i64 (764 + 4 * (1 + (d : Int))), .string ⟨#[97, 98, 99, 100]⟩, .bool false, .int .i64 2, .string ⟨#[97, 98, 99, 100]⟩, .bool false, .int .i64 0, .string ⟨#[97, 98, 99]⟩, .bool false, .int .i64 0, .string ⟨#[]⟩, .bool false, .int .i64 0, .string ⟨#[97, 98, 99, 100, 101]⟩] 23) = W1 at *
  generalize w'.heap.size = G at *
  have n0 : ∀ f k, cutOk f E A T k = false := fun f k => cutOk_mayF hm
  have n1 : wordsOk (-4 * (1 + (d : Int))) ⟨#[]⟩ = false := decide_eq_false (by omega)
  have n2 : wordsOk (768 + 4 * (1 + (d : Int))) ⟨#[]⟩ = false := decide_eq_false (by omega)
  have n3 : wordsOk (1 + (b : Int)) ⟨#[97, 98, 99, 100]⟩ = false := decide_eq_false (by omega)
  have n4 : wordsOk 764 ⟨#[97, 98, 99, 100, 101]⟩ = false := by decide
  have n5 : ∀ k, cutOk (Nor.blankS.extract 1 768) true 0 ⟨#[]⟩ k = false := fun k => cutOk_sizeF (by rw [ByteArray.size_extract, Nor.size_blankS]; decide)
  have n6 : cutOk Nor.blankS true 0 ⟨#[]⟩ (-(1 + (d : Int))) = false := cutOk_cutF (by omega)
  have n7 : cutOk Nor.blankS true 0 ⟨#[]⟩ (96 + (1 + (d : Int))) = false := cutOk_cutF (by omega)
  replace hB := hB.alloc hB.size (.cells #[.bool E, .int .i64 A, .string T] 23)
  go_wp2_with fail
  have hX := boxM W1 (.bool E) (.int .i64 A) (.string T) 23
  clear c0 c1 c2 s1 q1 q3 q4 q5 md mk
  generalize W1.alloc (.cells #[.bool E, .int .i64 A, .string T] 23) = W2 at *
  generalize W1.heap.size = G2 at *
  have hc : bits .and .i64 a0 1 = 0 ∨ bits .and .i64 a0 1 = 1 := by omega
  clear mc
  rcases hc with mc | mc
  all_goals
    go_wp2_with (first | (go_at_call 11; refine (do_any _ _ _ _ _).mono ?_; rintro e w9 ⟨rfl, hb⟩; first | (replace hB := thenB hB hb; replace hX := boxB hX hb; clear hb) | (replace hB := thenB (hB.alloc hB.size _) hb; replace hX := boxB (boxB hX ((Below.refl _ _).alloc (Nat.le_refl _) _)) hb; clear hb)) | (go_at_call 14; refine (cut_any _ _ _ _ _ _).mono ?_; rintro e w9 ⟨rfl, hb⟩; first | (replace hB := thenB hB hb; replace hX := boxB hX hb; clear hb) | (replace hB := thenB (hB.alloc hB.size _) hb; replace hX := boxB (boxB hX ((Below.refl _ _).alloc (Nat.le_refl _) _)) hb; clear hb)))
    refine (words_no _ _ _ (by unfold wordsOk; exact decide_eq_false (by omega))).mono ?_
    rintro e w8 ⟨rfl, rfl⟩
    replace hB := hB.alloc hB.size (.cells #[.int .i64 (-4 * (1 + (d : Int))), .int .i64 (768 + 4 * (1 + (d : Int)))] 3)
    replace hX := boxB hX ((Below.refl _ _).alloc (Nat.le_refl _) (.cells #[.int .i64 (-4 * (1 + (d : Int))), .int .i64 (768 + 4 * (1 + (d : Int)))] 3))
    generalize w9.alloc (.cells #[.int .i64 (-4 * (1 + (d : Int))), .int .i64 (768 + 4 * (1 + (d : Int)))] 3) = W3 at *
    go_wp2_with fail
    refine (words_no _ _ _ n3).mono ?_
    rintro e w8 ⟨rfl, rfl⟩
    go_wp2_with fail
    refine (words_no _ _ _ n4).mono ?_
    rintro e w8 ⟨rfl, rfl⟩
    go_wp2_with fail
    refine (words_empty _).mono ?_
    rintro e w8 ⟨z, zc, rfl, hb⟩
    replace hB := thenB hB hb; replace hX := boxB hX hb; clear hb
    go_wp2_with (first | (go_at_call 17; refine (num_any _ _).mono ?_; rintro e w' ⟨rfl, rfl⟩) | (go_at_call 18; refine (opMay_any _ _ _ _).mono ?_; rintro e w' ⟨rfl, hb⟩; replace hB := hB.trans (hb.mono hB.size); replace hX := boxB hX hb; clear hb))
    go_ret
    exact ⟨rfl, hB⟩

set_option maxRecDepth 100000 in
theorem lifted (os : Os) (started : os.Started) (H : Type) (enc : TypeId × Value → H) :
    ReturnsInHanded {} Try.checked os 5 .any (Rows.opsFormsSpec.pre6 enc Try.prog Try.f5 Rows.opsFormsRow.domain false) (Rows.opsFormsSpec.post enc Try.prog Try.f5 false true false false) := by
  refine returnsInHanded_of_change (C := Try.checked) own started (by kernel_rfl) Try.func5
    (ChangeSpec.witness6 (enc := enc) (C := Try.checked) false ⟨#[], #[.int .i64 0, .int .i64 0], []⟩ 8 (by kernel_rfl) (by kernel_rfl) (by kernel_rfl) (by kernel_rfl)) ?_
  intro W base args ds gs before hval0 hW hcnd _
  have hval : ∀ (j : Nat) t v, Try.f5.params[j]? = some t → args[j]? = some v → Value.okWide Try.prog W .any base t v := hval0
  have hW' := hW
  obtain ⟨p, q, hA0, hV, rfl, hfz, hnd⟩ := hW
  have hA : DataW.TrodAll enc Try.prog W 0 (fun _ => true) true Try.f5.params.toList args.toList ds p := hA0
  rw [Try.params5] at hA hval
  obtain ⟨v0, vs0, d0, ds0, p0, q0, hargs, rfl, rfl, h0, r0⟩ := trodAll_cons hA
  obtain ⟨v1, vs1, d1, ds1, p1, q1, rfl, rfl, rfl, h1, r1⟩ := trodAll_cons r0
  obtain ⟨rfl, rfl, rfl⟩ := trodAll_nil r1
  obtain rfl : args = #[v0, v1] := by cases args; simp_all
  obtain ⟨rfl, rfl⟩ := trodVars_none hV
  obtain ⟨a0, rfl, rfl, rfl, w0⟩ := open_int Try.underlying3 (hval 0 3 v0 rfl rfl) h0
  obtain ⟨a1, rfl, rfl, rfl, w1⟩ := open_int Try.underlying3 (hval 1 3 v1 rfl rfl) h1
  clear hA0 hval0
  refine (walk a0 a1 w0 w1 W).mono fun e W' ⟨he, bel⟩ => ?_
  subst he
  exact ⟨_, rfl, _, _, _, [], _, [], hW', (trodAll_cons_mk (shut_bool Try.underlying4 _) trodAll_mk0), (trodAll_cons_mk (shut_int Try.underlying3 w0) (trodAll_cons_mk (shut_int Try.underlying3 w1) trodAll_mk0)), rfl, bel.frame _, fun h => by cases h⟩

theorem over : Rows.opsFormsRow.holds Try.pinned (OpenSpec.ofChange Rows.opsFormsSpec) :=
  OpenClaim.holds_of_wide 5 Try.f5 rfl rfl rfl rfl rfl rfl rfl ⟨rfl, rfl, rfl, rfl, rfl⟩ rfl rfl rfl rfl rfl (by kernel_rfl) Try.func5 (by kernel_rfl)
    (of_decide_eq_true (by kernel_rfl)) (by unfold Func.isWrapper; first | (rw [if_pos (by decide +kernel)]; kernel_rfl) | (rw [if_neg (by decide +kernel)]; exact ⟨rfl, rfl⟩))
    (fun os started H enc _ => lifted os started H enc)

theorem proved : Rows.OpsFormsSaid :=
  over
#print axioms proved
end Go.Proofs.Ytdjiifponkclnaa.opsForms
