/- Whatever the two numbers: the law AnswerForms returns true (answers that may not be are refused, and texts that are none), and the arguments read as they did; no condition. -/
import Derived.Test.YtddelbjnnkhgbaaRows
import Derived.Test.YtddelbjnnkhgbaaNorMath
import Derived.Test.YtddelbjnnkhgbaaBytes
import Derived.Test.YtddelbjnnkhgbaaNorWalk
import Derived.Test.YtddelbjnnkhgbaaOpsMath
import Derived.Test.YtddelbjnnkhgbaaOpsRow
import Derived.Test.YtddelbjnnkhgbaaCrcMath
import Derived.Test.YtddelbjnnkhgbaaEntMath
import Derived.Test.YtddelbjnnkhgbaaEntRow
import Derived.Test.YtddelbjnnkhgbaaEntLow
import Derived.Test.YtddelbjnnkhgbaaEntWalk
import Derived.Test.YtddelbjnnkhgbaaSufMath
import Derived.Test.YtddelbjnnkhgbaaAnsMath
import Derived.Test.YtddelbjnnkhgbaaAnsWalk
import Derived.Test.YtddelbjnnkhgbaaAnsAwake
import Derived.Laws.StructEq
import Derived.Deep.Cut
import Derived.ChangeOld
import Derived.Below
import Derived.WalkKit
import Derived.ProofKit
import Derived.OpenShut
import Derived.ShutString
namespace Go.Proofs.Ytddelbjnnkhgbaa.answerForms
open Go.ChangeShapes Go.WideShapes Go.ChangeAt Go.RowKit
open Go.ChangeMaps (open_string shut_string)
set_option linter.unusedVariables false

open Go.Proofs.Ytddelbjnnkhgbaa.Bytes
open Go.Proofs.Ytddelbjnnkhgbaa.Ans
open Go.Proofs.Ytddelbjnnkhgbaa.AnsWalk
open Go.Proofs.Ytddelbjnnkhgbaa.AnsAwake
theorem own : ownKnob Try.prog.godebug = none := by kernel_rfl

open Go.Proofs.Ytddelbjnnkhgbaa.OpsRow (boxM boxB)
theorem hal (w : World) (o : Obj) : Below w.heap.size w (w.alloc o) := (Below.refl _ w).alloc (Nat.le_refl _) o
/-- The answers that may not be: whichever is taken. -/
theorem bads (w : World) (e : TypeId) (M A E B : Int) (hM : M < 0) (hA : 6 < A) (hE : 255 < E) (hB : 7 < B) (n : Nat) (hn : n < 6) : ∃ c v l, (w.alloc (.cells #[.int .i64 M, .int .i64 0, .int .i64 0, .int .i64 A, .int .i64 0, .int .i64 0, .int .i64 0, .int .i64 M, .int .i64 0, .int .i64 0, .int .i64 E, .int .i64 0, .int .i64 0, .int .i64 0, .int .i64 M, .int .i64 0, .int .i64 0, .int .i64 B] e)).cell? ⟨w.heap.size, n * 3, none⟩ = some (.int .i64 c) ∧ (w.alloc (.cells #[.int .i64 M, .int .i64 0, .int .i64 0, .int .i64 A, .int .i64 0, .int .i64 0, .int .i64 0, .int .i64 M, .int .i64 0, .int .i64 0, .int .i64 E, .int .i64 0, .int .i64 0, .int .i64 0, .int .i64 M, .int .i64 0, .int .i64 0, .int .i64 B] e)).cell? ⟨w.heap.size, n * 3 + 1, none⟩ = some (.int .i64 v) ∧ (w.alloc (.cells #[.int .i64 M, .int .i64 0, .int .i64 0, .int .i64 A, .int .i64 0, .int .i64 0, .int .i64 0, .int .i64 M, .int .i64 0, .int .i64 0, .int .i64 E, .int .i64 0, .int .i64 0, .int .i64 0, .int .i64 M, .int .i64 0, .int .i64 0, .int .i64 B] e)).cell? ⟨w.heap.size, n * 3 + 2, none⟩ = some (.int .i64 l) ∧ ansB c v l = false := by
  rcases (by omega : n = 0 ∨ n = 1 ∨ n = 2 ∨ n = 3 ∨ n = 4 ∨ n = 5) with rfl | rfl | rfl | rfl | rfl | rfl
  · exact ⟨M, 0, 0, by rw [World.cell?_alloc_at _ e _ _ rfl]; rfl, by rw [World.cell?_alloc_at _ e _ _ rfl]; rfl, by rw [World.cell?_alloc_at _ e _ _ rfl]; rfl, ansB_no (by omega)⟩
  · exact ⟨A, 0, 0, by rw [World.cell?_alloc_at _ e _ _ rfl]; rfl, by rw [World.cell?_alloc_at _ e _ _ rfl]; rfl, by rw [World.cell?_alloc_at _ e _ _ rfl]; rfl, ansB_no (by omega)⟩
  · exact ⟨0, M, 0, by rw [World.cell?_alloc_at _ e _ _ rfl]; rfl, by rw [World.cell?_alloc_at _ e _ _ rfl]; rfl, by rw [World.cell?_alloc_at _ e _ _ rfl]; rfl, ansB_no (by omega)⟩
  · exact ⟨0, E, 0, by rw [World.cell?_alloc_at _ e _ _ rfl]; rfl, by rw [World.cell?_alloc_at _ e _ _ rfl]; rfl, by rw [World.cell?_alloc_at _ e _ _ rfl]; rfl, ansB_no (by omega)⟩
  · exact ⟨0, 0, M, by rw [World.cell?_alloc_at _ e _ _ rfl]; rfl, by rw [World.cell?_alloc_at _ e _ _ rfl]; rfl, by rw [World.cell?_alloc_at _ e _ _ rfl]; rfl, ansB_no (by omega)⟩
  · exact ⟨0, 0, B, by rw [World.cell?_alloc_at _ e _ _ rfl]; rfl, by rw [World.cell?_alloc_at _ e _ _ rfl]; rfl, by rw [World.cell?_alloc_at _ e _ _ rfl]; rfl, ansB_no (by omega)⟩
/-- The texts that are no answer: whichever is taken. -/
theorem texts (w : World) (e : TypeId) (m : Nat) (hm : m ≤ 7) : ∃ t, (w.alloc (.cells #[.string ⟨#[]⟩, .string ⟨#[0, 0, 0, 0, 0]⟩, .string ⟨#[0, 0, 0, 0, 0, 0, 0]⟩, .string ⟨#[7, 0, 0, 0, 0, 0]⟩, .string ⟨#[0, 0, 1, 0, 0, 0]⟩, .string ⟨#[0, 0, 0, 1, 0, 0]⟩, .string ⟨#[0, 0, 0, 0, 8, 0]⟩, .string ⟨#[0, 0, 0, 0, 0, 1]⟩] e)).cell? ⟨w.heap.size, m, none⟩ = some (.string t) ∧ isAns t = false := by
  rcases (by omega : m = 0 ∨ m = 1 ∨ m = 2 ∨ m = 3 ∨ m = 4 ∨ m = 5 ∨ m = 6 ∨ m = 7) with rfl | rfl | rfl | rfl | rfl | rfl | rfl | rfl
  · exact ⟨⟨#[]⟩, by rw [World.cell?_alloc_at _ e _ _ rfl]; rfl, by decide +kernel⟩
  · exact ⟨⟨#[0, 0, 0, 0, 0]⟩, by rw [World.cell?_alloc_at _ e _ _ rfl]; rfl, by decide +kernel⟩
  · exact ⟨⟨#[0, 0, 0, 0, 0, 0, 0]⟩, by rw [World.cell?_alloc_at _ e _ _ rfl]; rfl, by decide +kernel⟩
  · exact ⟨⟨#[7, 0, 0, 0, 0, 0]⟩, by rw [World.cell?_alloc_at _ e _ _ rfl]; rfl, by decide +kernel⟩
  · exact ⟨⟨#[0, 0, 1, 0, 0, 0]⟩, by rw [World.cell?_alloc_at _ e _ _ rfl]; rfl, by decide +kernel⟩
  · exact ⟨⟨#[0, 0, 0, 1, 0, 0]⟩, by rw [World.cell?_alloc_at _ e _ _ rfl]; rfl, by decide +kernel⟩
  · exact ⟨⟨#[0, 0, 0, 0, 8, 0]⟩, by rw [World.cell?_alloc_at _ e _ _ rfl]; rfl, by decide +kernel⟩
  · exact ⟨⟨#[0, 0, 0, 0, 0, 1]⟩, by rw [World.cell?_alloc_at _ e _ _ rfl]; rfl, by decide +kernel⟩
set_option maxRecDepth 100000 in
set_option maxHeartbeats 4000000 in
theorem walk (a0 : Int) (a1 : Int) (w0 : (Lit.int .i64 a0).wf = true) (w1 : (Lit.int .i64 a1).wf = true) (w : World) :
    Calls Try.prog 4 #[.int .i64 a0, .int .i64 a1] w fun e w' => e = .returned (.bool true) ∧ Below w.heap.size w w' := by
  have HA := hide awake_any
  obtain ⟨k, hk, mk⟩ : ∃ k : Nat, k ≤ 1023 ∧ bits .and .i64 a1 1023 = (k : Int) := mask_i64 a1 1023 (by omega)
  obtain ⟨n, hn, mn⟩ : ∃ k : Nat, k < 6 ∧ wrap64 ((IntKind.u64.wrap a0).tmod 6) = (k : Int) := mod_u64 a0 6 (by omega) (by omega)
  obtain ⟨m, hm, mm⟩ : ∃ k : Nat, k ≤ 7 ∧ bits .and .i64 (a0 / 8) 7 = (k : Int) := mask_i64 (a0 / 8) 7 (by omega)
  obtain ⟨D, hD⟩ : ∃ D : Nat, D = 1 + k := ⟨_, rfl⟩
  have hD1 : (1 : Int) + (k : Int) = (D : Int) := by omega
  obtain ⟨A, hA⟩ : ∃ A : Nat, A = 6 + D := ⟨_, rfl⟩
  have hA1 : (6 : Int) + (D : Int) = (A : Int) := by omega
  obtain ⟨E, hE⟩ : ∃ E : Nat, E = 255 + D := ⟨_, rfl⟩
  have hE1 : (255 : Int) + (D : Int) = (E : Int) := by omega
  obtain ⟨B, hBd⟩ : ∃ B : Nat, B = 7 + D := ⟨_, rfl⟩
  have hB1 : (7 : Int) + (D : Int) = (B : Int) := by omega
  have hD2 : 1 ≤ D := by omega
  have hD3 : D ≤ 1024 := by omega
  have HBD : Hid (-(D : Int) < 0 ∧ 6 < (A : Int) ∧ 255 < (E : Int) ∧ 7 < (B : Int)) := by show _ ∧ _; omega
  have hM1 : wrap64 (-(D : Int)) = -(D : Int) := by unfold wrap64; omega
  have g1 := build_c
  have g2 := build_v
  have g3 := build_n
  clear hD hE hk hA hBd
  go_enter Try.func4, Try.ntmps4
  go_upto_region 4 with (go_at_call 14; refine (HA.out _).mono ?_; rintro e w1 ⟨rfl, hb1⟩)
  obtain ⟨c, v, l, hc0, hc1, hc2, hno⟩ := bads w1 23 (-(D : Int)) (A : Int) (E : Int) (B : Int) HBD.out.1 HBD.out.2.1 HBD.out.2.2.1 HBD.out.2.2.2 n hn
  clear HA HBD
  have HN := hide hno
  clear hno
  go_upto_region 5 with fail
  have hX := boxM (w1.alloc (.cells #[.int .i64 (-(D : Int)), .int .i64 0, .int .i64 0, .int .i64 (A : Int), .int .i64 0, .int .i64 0, .int .i64 0, .int .i64 (-(D : Int)), .int .i64 0, .int .i64 0, .int .i64 (E : Int), .int .i64 0, .int .i64 0, .int .i64 0, .int .i64 (-(D : Int)), .int .i64 0, .int .i64 0, .int .i64 (B : Int)] 23)) (.int .i64 c) (.int .i64 v) (.int .i64 l) 23
  rw [show (w1.alloc (.cells #[.int .i64 (-(D : Int)), .int .i64 0, .int .i64 0, .int .i64 (A : Int), .int .i64 0, .int .i64 0, .int .i64 0, .int .i64 (-(D : Int)), .int .i64 0, .int .i64 0, .int .i64 (E : Int), .int .i64 0, .int .i64 0, .int .i64 0, .int .i64 (-(D : Int)), .int .i64 0, .int .i64 0, .int .i64 (B : Int)] 23)).heap.size = w1.heap.size + 1 from by simp] at hX
  have hB := thenB (thenB hb1 (hal w1 (.cells #[.int .i64 (-(D : Int)), .int .i64 0, .int .i64 0, .int .i64 (A : Int), .int .i64 0, .int .i64 0, .int .i64 0, .int .i64 (-(D : Int)), .int .i64 0, .int .i64 0, .int .i64 (E : Int), .int .i64 0, .int .i64 0, .int .i64 0, .int .i64 (-(D : Int)), .int .i64 0, .int .i64 0, .int .i64 (B : Int)] 23))) (hal _ (.cells #[.int .i64 c, .int .i64 v, .int .i64 l] 23))
  generalize (w1.alloc (.cells #[.int .i64 (-(D : Int)), .int .i64 0, .int .i64 0, .int .i64 (A : Int), .int .i64 0, .int .i64 0, .int .i64 0, .int .i64 (-(D : Int)), .int .i64 0, .int .i64 0, .int .i64 (E : Int), .int .i64 0, .int .i64 0, .int .i64 0, .int .i64 (-(D : Int)), .int .i64 0, .int .i64 0, .int .i64 (B : Int)] 23)).alloc (.cells #[.int .i64 c, .int .i64 v, .int .i64 l] 23) = W1 at *
  generalize w1.heap.size + 1 = X at *
  clear hc0 hc1 hc2 g1 g2 g3 hM1 mn mk hE1 hA1 hB1 hD1 hD2 hD3 hn hb1
  have CP := hide fun w => aput_no c v l w HN.out
  have CM := hide fun w => amay_any c v l w
  have i1 := HN.out
  clear HN
  go_upto_region 6 with (go_at_call 7; refine (CP.out _).mono ?_; rintro e w2 ⟨rfl, hb⟩; replace hB := thenB hB hb; replace hX := boxB hX hb; clear hb)
  obtain ⟨t, ht, hn⟩ := texts w2 9 m hm
  have CG := hide fun w => aget_no hn w
  clear hn
  replace hX := boxB hX (hal w2 (.cells #[.string ⟨#[]⟩, .string ⟨#[0, 0, 0, 0, 0]⟩, .string ⟨#[0, 0, 0, 0, 0, 0, 0]⟩, .string ⟨#[7, 0, 0, 0, 0, 0]⟩, .string ⟨#[0, 0, 1, 0, 0, 0]⟩, .string ⟨#[0, 0, 0, 1, 0, 0]⟩, .string ⟨#[0, 0, 0, 0, 8, 0]⟩, .string ⟨#[0, 0, 0, 0, 0, 1]⟩] 9))
  replace hB := thenB hB (hal w2 (.cells #[.string ⟨#[]⟩, .string ⟨#[0, 0, 0, 0, 0]⟩, .string ⟨#[0, 0, 0, 0, 0, 0, 0]⟩, .string ⟨#[7, 0, 0, 0, 0, 0]⟩, .string ⟨#[0, 0, 1, 0, 0, 0]⟩, .string ⟨#[0, 0, 0, 1, 0, 0]⟩, .string ⟨#[0, 0, 0, 0, 8, 0]⟩, .string ⟨#[0, 0, 0, 0, 0, 1]⟩] 9))
  go_upto_region 7 with fail
  generalize w2.alloc (.cells #[.string ⟨#[]⟩, .string ⟨#[0, 0, 0, 0, 0]⟩, .string ⟨#[0, 0, 0, 0, 0, 0, 0]⟩, .string ⟨#[7, 0, 0, 0, 0, 0]⟩, .string ⟨#[0, 0, 1, 0, 0, 0]⟩, .string ⟨#[0, 0, 0, 1, 0, 0]⟩, .string ⟨#[0, 0, 0, 0, 8, 0]⟩, .string ⟨#[0, 0, 0, 0, 0, 1]⟩] 9) = W2 at *
  generalize w2.heap.size = Y at *
  go_upto_region 8 with (go_at_call 9; refine (CG.out _).mono ?_; rintro e w3 ⟨rfl, hb⟩; replace hB := thenB hB hb; replace hX := boxB hX hb; clear hb)
  replace hX := boxB hX (hal w3 (.cells #[.int .i64 0, .int .i64 0, .int .i64 0] 23))
  replace hB := thenB hB (hal w3 (.cells #[.int .i64 0, .int .i64 0, .int .i64 0] 23))
  go_wp2_with (first | (go_at_call 11; refine (num_any _ _).mono ?_; rintro e w' ⟨rfl, rfl⟩) | (go_at_call 12; refine (CM.out _).mono ?_; rintro e w' ⟨rfl, hb⟩; replace hB := thenB hB hb; clear hb))
  go_ret
  exact ⟨rfl, hB⟩

set_option maxRecDepth 100000 in
theorem lifted (os : Os) (started : os.Started) (H : Type) (enc : TypeId × Value → H) :
    ReturnsInHanded {} Try.checked os 4 .any (Rows.answerFormsSpec.pre6 enc Try.prog Try.f4 Rows.answerFormsRow.domain false) (Rows.answerFormsSpec.post enc Try.prog Try.f4 false true false false) := by
  refine returnsInHanded_of_change (C := Try.checked) own started (by kernel_rfl) Try.func4
    (ChangeSpec.witness6 (enc := enc) (C := Try.checked) false ⟨#[], #[.int .i64 0, .int .i64 0], []⟩ 8 (by kernel_rfl) (by kernel_rfl) (by kernel_rfl) (by kernel_rfl)) ?_
  intro W base args ds gs before hval0 hW hcnd _
  have hval : ∀ (j : Nat) t v, Try.f4.params[j]? = some t → args[j]? = some v → Value.okWide Try.prog W .any base t v := hval0
  have hW' := hW
  obtain ⟨p, q, hA0, hV, rfl, hfz, hnd⟩ := hW
  have hA : DataW.TrodAll enc Try.prog W 0 (fun _ => true) true Try.f4.params.toList args.toList ds p := hA0
  rw [Try.params4] at hA hval
  obtain ⟨v0, vs0, d0, ds0, p0, q0, hargs, rfl, rfl, h0, r0⟩ := trodAll_cons hA
  obtain ⟨v1, vs1, d1, ds1, p1, q1, rfl, rfl, rfl, h1, r1⟩ := trodAll_cons r0
  obtain ⟨rfl, rfl, rfl⟩ := trodAll_nil r1
  obtain rfl : args = #[v0, v1] := by cases args; simp_all
  obtain ⟨rfl, rfl⟩ := trodVars_none hV
  obtain ⟨a0, rfl, rfl, rfl, w0⟩ := open_int Try.underlying3 (hval 0 3 v0 rfl rfl) h0
  obtain ⟨a1, rfl, rfl, rfl, w1⟩ := open_int Try.underlying3 (hval 1 3 v1 rfl rfl) h1
  clear hA0 hval0
  refine (walk a0 a1 w0 w1 W).mono fun e W' ⟨he, bel⟩ => ?_
  subst he
  exact ⟨_, rfl, _, _, _, [], _, [], hW', (trodAll_cons_mk (shut_bool Try.underlying4 _) trodAll_mk0), (trodAll_cons_mk (shut_int Try.underlying3 w0) (trodAll_cons_mk (shut_int Try.underlying3 w1) trodAll_mk0)), rfl, bel.frame _, fun h => by cases h⟩

theorem over : Rows.answerFormsRow.holds Try.pinned (OpenSpec.ofChange Rows.answerFormsSpec) :=
  OpenClaim.holds_of_wide 4 Try.f4 rfl rfl rfl rfl rfl rfl rfl ⟨rfl, rfl, rfl, rfl, rfl⟩ rfl rfl rfl rfl rfl (by kernel_rfl) Try.func4 (by kernel_rfl)
    (of_decide_eq_true (by kernel_rfl)) (by unfold Func.isWrapper; first | (rw [if_pos (by decide +kernel)]; kernel_rfl) | (rw [if_neg (by decide +kernel)]; exact ⟨rfl, rfl⟩))
    (fun os started H enc _ => lifted os started H enc)

theorem proved : Rows.AnswerFormsSaid :=
  over
#print axioms proved
end Go.Proofs.Ytddelbjnnkhgbaa.answerForms
