/- The contracts of the document's own answers to package ops, and of the laws' helpers on rows of steps. -/
import Derived.Test.YtebbficaolommaaOpsWords
import Derived.Test.YtebbficaolommaaNorRef
namespace Go.Proofs.Ytebbficaolommaa.OpsRef
open Go.Proofs.Ytebbficaolommaa Go.RowKit Go.Proofs.Ytebbficaolommaa.Bytes Go.Proofs.Ytebbficaolommaa.NorWalk Go.Proofs.Ytebbficaolommaa.NorRef Go.Proofs.Ytebbficaolommaa.Ops Go.Proofs.Ytebbficaolommaa.OpsRow Go.Proofs.Ytebbficaolommaa.OpsWalk

theorem may_ref (e : Bool) (a : Int) (t : ByteArray) : opMay e a t = if e then (upToB a 0 672 && decide (a % 96 = 0) && decide (t.size = 0)) else (wordB a && decide (t.size = 4)) := by
  unfold opMay upToB wordB
  cases e
  · rw [if_neg (by simp), if_neg (by simp), Bool.eq_iff_iff, Bool.and_eq_true, decide_eq_true_iff, decide_eq_true_iff, decide_eq_true_iff, and_assoc, and_assoc]
  · rw [if_pos rfl, if_pos rfl, Bool.eq_iff_iff, Bool.and_eq_true, Bool.and_eq_true, decide_eq_true_iff, decide_eq_true_iff, decide_eq_true_iff, decide_eq_true_iff]
    omega
set_option maxHeartbeats 400000 in
theorem refMay_any (e : Bool) (a : Int) (t : ByteArray) (w : World) : Calls Try.prog 24 #[.agg #[.bool e, .int .i64 a, .string t]] w fun r w' => r = .returned (.bool (opMay e a t)) ∧ Below w.heap.size w w' := by
  rw [may_ref]
  cases e
  · go_enter Try.func24, Try.ntmps24
    go_wp2_with (go_at_call 33; refine (wordAt_any _ _).mono ?_; rintro e w' ⟨rfl, rfl⟩)
    · go_ret
      exact ⟨ret_bool (size_four t), (Below.refl _ _).alloc (Nat.le_refl _) _⟩
    · go_ret
      exact ⟨rfl, (Below.refl _ _).alloc (Nat.le_refl _) _⟩
  · cases h : upToB a 0 672 with
    | false =>
      go_enter Try.func24, Try.ntmps24
      go_wp2_with (go_at_call 27; refine (upTo_any _ _ _ _).mono ?_; rintro e w' ⟨rfl, rfl⟩)
      go_ret
      exact ⟨rfl, (Below.refl _ _).alloc (Nat.le_refl _) _⟩
    | true =>
      have h0 : 0 ≤ a := by unfold upToB at h; exact (of_decide_eq_true h).1
      have h1 : a ≤ 672 := by unfold upToB at h; exact (of_decide_eq_true h).2
      by_cases h2 : a % 96 = 0
      · have h2' : (a % 96 == 0) = true := beq_iff_eq.2 h2
        go_enter Try.func24, Try.ntmps24
        go_wp2_with (go_at_call 27; refine (upTo_any _ _ _ _).mono ?_; rintro e w' ⟨rfl, rfl⟩)
        go_ret
        exact ⟨ret_bool (by first | exact (decide_eq_emptyBytes t).symm | simp [decide_eq_emptyBytes]), (Below.refl _ _).alloc (Nat.le_refl _) _⟩
      · have h2' : (a % 96 == 0) = false := beq_eq_false_iff_ne.2 h2
        go_enter Try.func24, Try.ntmps24
        go_wp2_with (go_at_call 27; refine (upTo_any _ _ _ _).mono ?_; rintro e w' ⟨rfl, rfl⟩)
        go_ret
        exact ⟨rfl, (Below.refl _ _).alloc (Nat.le_refl _) _⟩

theorem cutOk_f2 {f : ByteArray} {e : Bool} {a : Int} {t : ByteArray} {k : Int} (h : cutOk f e a t k = false) : mayB f = false ∨ mayB f = true ∧ opMay e a t = false ∨ mayB f = true ∧ opMay e a t = true ∧ upToB k 0 96 = false := by
  unfold cutOk at h
  unfold mayB upToB
  by_cases h1 : f.size = 768 <;> cases h2 : opMay e a t <;> by_cases h3 : 0 ≤ k ∧ k ≤ 96
  all_goals simp [h1, h2, h3] at h ⊢
end Go.Proofs.Ytebbficaolommaa.OpsRef
