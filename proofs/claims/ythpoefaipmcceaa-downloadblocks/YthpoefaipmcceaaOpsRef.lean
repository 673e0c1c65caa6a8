/- The contracts of the document's own answers to package ops, and of the laws' helpers on rows of steps. -/
import Derived.Test.YthpoefaipmcceaaOpsWords
import Derived.Test.YthpoefaipmcceaaNorRef
namespace Go.Proofs.Ythpoefaipmcceaa.OpsRef
open Go.Proofs.Ythpoefaipmcceaa Go.RowKit Go.Proofs.Ythpoefaipmcceaa.Bytes Go.Proofs.Ythpoefaipmcceaa.NorWalk Go.Proofs.Ythpoefaipmcceaa.NorRef Go.Proofs.Ythpoefaipmcceaa.Ops Go.Proofs.Ythpoefaipmcceaa.OpsRow Go.Proofs.Ythpoefaipmcceaa.OpsWalk

theorem may_ref (e : Bool) (a : Int) (t : ByteArray) : opMay e a t = if e then (upToB a 0 672 && decide (a % 96 = 0) && decide (t.size = 0)) else (wordB a && decide (t.size = 4)) := by
  unfold opMay upToB wordB
  cases e
  · rw [if_neg (by simp), if_neg (by simp), Bool.eq_iff_iff, Bool.and_eq_true, decide_eq_true_iff, decide_eq_true_iff, decide_eq_true_iff, and_assoc, and_assoc]
  · rw [if_pos rfl, if_pos rfl, Bool.eq_iff_iff, Bool.and_eq_true, Bool.and_eq_true, decide_eq_true_iff, decide_eq_true_iff, decide_eq_true_iff, decide_eq_true_iff]
    omega
set_option maxHeartbeats 400000 in
theorem refMay_any (e : Bool) (a : Int) (t : ByteArray) (w : World) : Calls Try.prog 48 #[.agg #[.bool e, .int .i64 a, .string t]] w fun r w' => r = .returned (.bool (opMay e a t)) ∧ Below w.heap.size w w' := by
  rw [may_ref]
  cases e
  · go_enter Try.func48, Try.ntmps48
    go_wp2_with (go_at_call 66; refine (wordAt_any _ _).mono ?_; rintro e w' ⟨rfl, rfl⟩)
    · go_ret
      exact ⟨ret_bool (size_four t), (Below.refl _ _).alloc (Nat.le_refl _) _⟩
    · go_ret
      exact ⟨rfl, (Below.refl _ _).alloc (Nat.le_refl _) _⟩
  · cases h : upToB a 0 672 with
    | false =>
      go_enter Try.func48, Try.ntmps48
      go_wp2_with (go_at_call 36; refine (upTo_any _ _ _ _).mono ?_; rintro e w' ⟨rfl, rfl⟩)
      go_ret
      exact ⟨rfl, (Below.refl _ _).alloc (Nat.le_refl _) _⟩
    | true =>
      have h0 : 0 ≤ a := by unfold upToB at h; exact (of_decide_eq_true h).1
      have h1 : a ≤ 672 := by unfold upToB at h; exact (of_decide_eq_true h).2
      by_cases h2 : a % 96 = 0
      · have h2' : (a % 96 == 0) = true := beq_iff_eq.2 h2
        go_enter Try.func48, Try.ntmps48
        go_wp2_with (go_at_call 36; refine (upTo_any _ _ _ _).mono ?_; rintro e w' ⟨rfl, rfl⟩)
        go_ret
        exact ⟨ret_bool (by first | exact (decide_eq_emptyBytes t).symm | simp [decide_eq_emptyBytes]), (Below.refl _ _).alloc (Nat.le_refl _) _⟩
      · have h2' : (a % 96 == 0) = false := beq_eq_false_iff_ne.2 h2
        go_enter Try.func48, Try.ntmps48
        go_wp2_with (go_at_call 36; refine (upTo_any _ _ _ _).mono ?_; rintro e w' ⟨rfl, rfl⟩)
        go_ret
        exact ⟨rfl, (Below.refl _ _).alloc (Nat.le_refl _) _⟩

theorem cutOk_f2 {f : ByteArray} {e : Bool} {a : Int} {t : ByteArray} {k : Int} (h : cutOk f e a t k = false) : mayB f = false ∨ mayB f = true ∧ opMay e a t = false ∨ mayB f = true ∧ opMay e a t = true ∧ upToB k 0 96 = false := by
  unfold cutOk at h
  unfold mayB upToB
  by_cases h1 : f.size = 768 <;> cases h2 : opMay e a t <;> by_cases h3 : 0 ≤ k ∧ k ≤ 96
  all_goals simp [h1, h2, h3] at h ⊢
set_option maxHeartbeats 400000 in
theorem refCut_no (f : ByteArray) (e : Bool) (a : Int) (t : ByteArray) (k : Int) (w : World) (h : cutOk f e a t k = false) :
    Calls Try.prog 33 #[.string f, .agg #[.bool e, .int .i64 a, .string t], .int .i64 k] w fun r w' => r = .returned (.tuple #[.string ⟨#[]⟩, .int .i64 300]) ∧ Below w.heap.size w w' := by
  rcases cutOk_f2 h with h1 | ⟨h1, h2⟩ | ⟨h1, h2, h3⟩
  · go_enter Try.func33, Try.ntmps33
    go_wp2_with (go_at_call 46; refine (flashMay_any _ _).mono ?_; rintro e w' ⟨rfl, rfl⟩)
    go_ret2
    exact ⟨rfl, (Below.refl _ _).alloc (Nat.le_refl _) _⟩
  all_goals
    go_enter Try.func33, Try.ntmps33
    go_wp2_with (first | (go_at_call 46; refine (flashMay_any _ _).mono ?_; rintro e w' ⟨rfl, rfl⟩) | (go_at_call 48; refine (refMay_any _ _ _ _).mono ?_; rintro e w2 ⟨rfl, hb⟩) | (go_at_call 36; refine (upTo_any _ _ _ _).mono ?_; rintro e w' ⟨rfl, rfl⟩))
    go_ret2
    exact ⟨rfl, ((Below.refl _ _).alloc (Nat.le_refl _) _).trans (hb.mono (by simp))⟩
set_option maxHeartbeats 400000 in
theorem refCut_yes (f : ByteArray) (e : Bool) (a : Int) (t : ByteArray) (k : Int) (w : World) (h : cutOk f e a t k = true) :
    Calls Try.prog 33 #[.string f, .agg #[.bool e, .int .i64 a, .string t], .int .i64 k] w fun r w' => r = .returned (.tuple #[.string (cutS f e a t k), .int .i64 0]) ∧ Below w.heap.size w w' := by
  obtain ⟨g1, g2, g3, g4⟩ := cutOk_parts.1 h
  have h1 : mayB f = true := by unfold mayB; exact decide_eq_true g1
  have h5 : upToB k 0 96 = true := by unfold upToB; exact decide_eq_true ⟨g3, g4⟩
  clear g1
  have e0 : Nor.errN true = 0 := rfl
  cases e
  · obtain ⟨k1, k2⟩ := cut_pr h
    rw [k2]
    clear h k2
    have hm : min k 32 = if k ≤ 32 then k else 32 := by omega
    by_cases hk : k ≤ 32
    · rw [if_pos hk] at hm
      rw [hm] at k1 ⊢
      clear hm
      go_enter Try.func33, Try.ntmps33
      go_wp2_with (first | (go_at_call 46; refine (flashMay_any _ _).mono ?_; rintro e w' ⟨rfl, rfl⟩) | (go_at_call 48; refine (refMay_any _ _ _ _).mono ?_; rintro e w2 ⟨rfl, hb⟩; have oc := old_cells hb) | (go_at_call 36; refine (upTo_any _ _ _ _).mono ?_; rintro e w' ⟨rfl, rfl⟩) | (go_at_call 50; refine (refTorn_any _ _ _ _ _).mono ?_; rintro e w3 ⟨rfl, hb3⟩))
      go_ret2
      exact ⟨rfl, thenB (((Below.refl _ _).alloc (Nat.le_refl _) _).trans (hb.mono (by simp))) hb3⟩
    · rw [if_neg hk] at hm
      rw [hm] at k1 ⊢
      clear hm
      go_enter Try.func33, Try.ntmps33
      go_wp2_with (first | (go_at_call 46; refine (flashMay_any _ _).mono ?_; rintro e w' ⟨rfl, rfl⟩) | (go_at_call 48; refine (refMay_any _ _ _ _).mono ?_; rintro e w2 ⟨rfl, hb⟩; have oc := old_cells hb) | (go_at_call 36; refine (upTo_any _ _ _ _).mono ?_; rintro e w' ⟨rfl, rfl⟩) | (go_at_call 50; refine (refTorn_any _ _ _ _ _).mono ?_; rintro e w3 ⟨rfl, hb3⟩))
      go_ret2
      exact ⟨rfl, thenB (((Below.refl _ _).alloc (Nat.le_refl _) _).trans (hb.mono (by simp))) hb3⟩
  · obtain ⟨k1, k2⟩ := cut_er h
    rw [k2]
    have ha := (may_er.1 g2).1
    have ha2 := (may_er.1 g2).2.1
    clear h k2
    go_enter Try.func33, Try.ntmps33
    go_wp2_with (first | (go_at_call 46; refine (flashMay_any _ _).mono ?_; rintro e w' ⟨rfl, rfl⟩) | (go_at_call 48; refine (refMay_any _ _ _ _).mono ?_; rintro e w2 ⟨rfl, hb⟩; have oc := old_cells hb) | (go_at_call 36; refine (upTo_any _ _ _ _).mono ?_; rintro e w' ⟨rfl, rfl⟩) | (go_at_call 49; refine (refWorn_any _ _ _ _).mono ?_; rintro e w3 ⟨rfl, hb3⟩))
    go_ret2
    exact ⟨rfl, thenB (((Below.refl _ _).alloc (Nat.le_refl _) _).trans (hb.mono (by simp))) hb3⟩
theorem refCut_any (f : ByteArray) (e : Bool) (a : Int) (t : ByteArray) (k : Int) (w : World) :
    Calls Try.prog 33 #[.string f, .agg #[.bool e, .int .i64 a, .string t], .int .i64 k] w fun r w' => r = .returned (.tuple #[.string (cutS f e a t k), .int .i64 (errO (cutOk f e a t k))]) ∧ Below w.heap.size w w' := by
  cases h : cutOk f e a t k with
  | false => rw [cutS_no h]; exact refCut_no f e a t k w h
  | true => exact refCut_yes f e a t k w h
set_option maxHeartbeats 400000 in
theorem refDo_any (f : ByteArray) (e : Bool) (a : Int) (t : ByteArray) (w : World) :
    Calls Try.prog 16 #[.string f, .agg #[.bool e, .int .i64 a, .string t]] w fun r w' => r = .returned (.tuple #[.string (cutS f e a t 96), .int .i64 (errO (cutOk f e a t 96))]) ∧ Below w.heap.size w w' := by
  go_enter Try.func16, Try.ntmps16
  go_wp2_with (go_at_call 33; refine (refCut_any _ _ _ _ _ _).mono ?_; rintro e w' ⟨rfl, hb⟩)
  go_ret2
  exact ⟨rfl, by first | exact hb | exact ((Below.refl _ _).alloc (Nat.le_refl _) _).trans (hb.mono (by simp))⟩
end Go.Proofs.Ythpoefaipmcceaa.OpsRef
