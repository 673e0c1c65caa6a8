/- Whatever the two numbers: the law JournalForms returns true (flashes and sectors that are none are refused; the first place of a blank flash's sector is free), and the arguments read as they did; no condition. -/
import Derived.Test.YtinclijbmjaccaaRows
import Derived.Test.YtinclijbmjaccaaJouAwake
import Derived.ChangeOld
import Derived.Below
import Derived.WalkKit
import Derived.ProofKit
import Derived.OpenShut
import Derived.ShutString
namespace Go.Proofs.Ytinclijbmjaccaa.journalForms
open Go.ChangeShapes Go.WideShapes Go.ChangeAt Go.RowKit
open Go.ChangeMaps (open_string shut_string)
set_option linter.unusedVariables false

open Go.Proofs.Ytinclijbmjaccaa.Bytes
open Go.Proofs.Ytinclijbmjaccaa.NorWalk
open Go.Proofs.Ytinclijbmjaccaa.NorRef
open Go.Proofs.Ytinclijbmjaccaa.Jou
open Go.Proofs.Ytinclijbmjaccaa.JouRow
open Go.Proofs.Ytinclijbmjaccaa.JouWalk
open Go.Proofs.Ytinclijbmjaccaa.JouRef
open Go.Proofs.Ytinclijbmjaccaa.Held
open Go.Proofs.Ytinclijbmjaccaa.JouAwake
theorem own : ownKnob Try.prog.godebug = none := by kernel_rfl

theorem blank_slot (j : Nat) (h : j < 32) : slotS Nor.blankS j = full24 := slot_full fun i hi => blank_get _ (by omega)
theorem blank_free (c : Nat) (hc : c ≤ 1) (w : World) : Calls Try.prog 10 #[.string Nor.blankS, .int .i64 (c : Int)] w fun e w' => e = .returned (.tuple #[.int .i64 (96 * (c : Int)), .bool true, .int .i64 0]) ∧ w' = w := by
  have h0 : freeOk Nor.blankS (c : Int) = true := freeOk_parts.2 ⟨Nor.size_blankS, by omega, by omega⟩
  obtain ⟨h1, h2⟩ := free_at (j := 4 * c) h0 (fun i g1 g2 => by omega) (blankP_t (blank_slot _ (by omega))) (Nat.le_refl _) (by omega)
  have h := free_any Nor.blankS (c : Int) w
  rw [h0, h1, h2, show 24 * (((4 * c : Nat)) : Int) = 96 * (c : Int) from by omega] at h
  exact h
theorem no_free {f : ByteArray} (s : Int) (h : mayF f = false) : freeOk f s = false := by
  unfold freeOk
  exact decide_eq_false (fun g => by rw [mayF_t g.1] at h; cases h)
theorem no_sector (f : ByteArray) {s : Int} (h : s < 0 ∨ 1 < s) : freeOk f s = false := by unfold freeOk; exact decide_eq_false (fun g => by omega)
set_option maxHeartbeats 4000000 in
theorem walk (a0 : Int) (a1 : Int) (w0 : (Lit.int .i64 a0).wf = true) (w1 : (Lit.int .i64 a1).wf = true) (w : World) :
    Calls Try.prog 6 #[.int .i64 a0, .int .i64 a1] w fun e w' => e = .returned (.bool true) ∧ Below w.heap.size w w' := by
  have hB : Below w.heap.size w w := Below.refl _ _
  obtain ⟨d, hd, md⟩ : ∃ k : Nat, k ≤ 1023 ∧ bits .and .i64 a1 1023 = (k : Int) := mask_i64 a1 1023 (by omega)
  obtain ⟨c, hc, mc⟩ : ∃ k : Nat, k ≤ 1 ∧ bits .and .i64 a0 1 = (k : Int) := mask_i64 a0 1 (by omega)
  obtain ⟨n, hn, mn⟩ : ∃ k : Nat, k < 3 ∧ wrap64 ((IntKind.u64.wrap a0).tmod 3) = (k : Int) := mod_u64 a0 3 (by omega) (by omega)
  have C1 := hide (fun w => refBlank_any w)
  have C2 := hide (fun w => blank_free c hc w)
  have z1 : Nor.blankS.size ≤ 768 := by rw [Nor.size_blankS]; omega
  have z2 : 768 ≤ Nor.blankS.size := by rw [Nor.size_blankS]; omega
  have M0 : Hid (mayF ⟨#[]⟩ = false) := by show mayF ⟨#[]⟩ = false; decide
  have M1 : Hid (mayF (Nor.blankS.extract 1 Nor.blankS.size) = false) := mayF_f (by rw [ByteArray.size_extract]; omega)
  have M2 : Hid (mayF (Nor.blankS ++ ⟨#[120]⟩) = false) := mayF_f (by rw [ByteArray.size_append]; have : (ByteArray.mk #[120]).size = 1 := rfl; omega)
  generalize Nor.blankS = F at *
  obtain rfl | rfl : c = 0 ∨ c = 1 := by omega
  all_goals
    obtain rfl | rfl | rfl : n = 0 ∨ n = 1 ∨ n = 2 := by omega
  all_goals
    clear hn hc
    go_enter Try.func6, Try.ntmps6
    go_wp2_with (first | (go_at_call 15; refine (awake_any _).mono ?_; rintro e w' ⟨rfl, hb⟩; replace hB := hB.trans (hb.mono hB.size); clear hb) | (go_at_call 17; refine (C1.out _).mono ?_; rintro e w' ⟨rfl, hb⟩; replace hB := hB.trans (hb.mono hB.size); clear hb) | (go_at_call 8; refine (JouWalk.scan_no _ _ (by first | exact M0.out | exact M1.out | exact M2.out)).mono ?_; rintro e w' ⟨rfl, rfl⟩) | (go_at_call 10; refine (free_refused _ _ _ (by first | exact no_free _ M0.out | exact no_free _ M1.out | exact no_free _ M2.out | exact no_sector _ (by omega))).mono ?_; rintro e w' ⟨rfl, rfl⟩) | (go_at_call 10; refine (C2.out _).mono ?_; rintro e w' ⟨rfl, rfl⟩) | (go_at_call 13; refine (numJ_any _ _).mono ?_; rintro e w' ⟨rfl, rfl⟩))
    go_ret
    exact ⟨rfl, (hB.alloc hB.size _).alloc (by have := hB.size; simp; omega) _⟩

set_option maxRecDepth 100000 in
theorem lifted (os : Os) (started : os.Started) (H : Type) (enc : TypeId × Value → H) :
    ReturnsInHanded {} Try.checked os 6 .any (Rows.journalFormsSpec.pre6 enc Try.prog Try.f6 Rows.journalFormsRow.domain false) (Rows.journalFormsSpec.post enc Try.prog Try.f6 false true false false) := by
  refine returnsInHanded_of_change (C := Try.checked) own started (by kernel_rfl) Try.func6
    (ChangeSpec.witness6 (enc := enc) (C := Try.checked) false ⟨#[], #[.int .i64 0, .int .i64 0], []⟩ 8 (by kernel_rfl) (by kernel_rfl) (by kernel_rfl) (by kernel_rfl)) ?_
  intro W base args ds gs before hval0 hW hcnd _
  have hval : ∀ (j : Nat) t v, Try.f6.params[j]? = some t → args[j]? = some v → Value.okWide Try.prog W .any base t v := hval0
  have hW' := hW
  obtain ⟨p, q, hA0, hV, rfl, hfz, hnd⟩ := hW
  have hA : DataW.TrodAll enc Try.prog W 0 (fun _ => true) true Try.f6.params.toList args.toList ds p := hA0
  rw [Try.params6] at hA hval
  obtain ⟨v0, vs0, d0, ds0, p0, q0, hargs, rfl, rfl, h0, r0⟩ := trodAll_cons hA
  obtain ⟨v1, vs1, d1, ds1, p1, q1, rfl, rfl, rfl, h1, r1⟩ := trodAll_cons r0
  obtain ⟨rfl, rfl, rfl⟩ := trodAll_nil r1
  obtain rfl : args = #[v0, v1] := by cases args; simp_all
  obtain ⟨rfl, rfl⟩ := trodVars_none hV
  obtain ⟨a0, rfl, rfl, rfl, w0⟩ := open_int Try.underlying3 (hval 0 3 v0 rfl rfl) h0
  obtain ⟨a1, rfl, rfl, rfl, w1⟩ := open_int Try.underlying3 (hval 1 3 v1 rfl rfl) h1
  clear hA0 hval0
  refine (walk a0 a1 w0 w1 W).mono fun e W' ⟨he, bel⟩ => ?_
  subst he
  exact ⟨_, rfl, _, _, _, [], _, [], hW', (trodAll_cons_mk (shut_bool Try.underlying4 _) trodAll_mk0), (trodAll_cons_mk (shut_int Try.underlying3 w0) (trodAll_cons_mk (shut_int Try.underlying3 w1) trodAll_mk0)), rfl, bel.frame _, fun h => by cases h⟩

theorem over : Rows.journalFormsRow.holds Try.pinned (OpenSpec.ofChange Rows.journalFormsSpec) :=
  OpenClaim.holds_of_wide 6 Try.f6 rfl rfl rfl rfl rfl rfl rfl ⟨rfl, rfl, rfl, rfl, rfl⟩ rfl rfl rfl rfl rfl (by kernel_rfl) Try.func6 (by kernel_rfl)
    (of_decide_eq_true (by kernel_rfl)) (by unfold Func.isWrapper; first | (rw [if_pos (by decide +kernel)]; kernel_rfl) | (rw [if_neg (by decide +kernel)]; exact ⟨rfl, rfl⟩))
    (fun os started H enc _ => lifted os started H enc)

theorem proved : Rows.JournalFormsSaid :=
  over
#print axioms proved
end Go.Proofs.Ytinclijbmjaccaa.journalForms
