/- The contracts of package ident, and of the document's own answers to it: each call returns what the plain functions give, whatever its arguments; of what was there nothing has turned. -/
import Derived.Test.YtlffkljnoebciaaNorRef
import Derived.Test.YtlffkljnoebciaaOpsRow
import Derived.Test.YtlffkljnoebciaaEntRow
import Derived.Test.YtlffkljnoebciaaIdtMath
namespace Go.Proofs.Ytlffkljnoebciaa.IdtWalk
open Go.Proofs.Ytlffkljnoebciaa Go.RowKit Go.Proofs.Ytlffkljnoebciaa.Bytes Go.Proofs.Ytlffkljnoebciaa.NorWalk Go.Proofs.Ytlffkljnoebciaa.NorRef Go.Proofs.Ytlffkljnoebciaa.Suf Go.Proofs.Ytlffkljnoebciaa.Idt
open Go.Proofs.Ytlffkljnoebciaa.EntRow (size_alloc1)
open Go.Proofs.Ytlffkljnoebciaa.OpsRow (boxM boxB boxD thenD)

theorem num_any (n : Int) (w : World) : Calls Try.prog 9 #[.int .i64 n] w fun e w' => e = .returned (.int .i64 n) ∧ w' = w := by
  go_enter Try.func9, Try.ntmps9
  go_wp2
  go_ret
  exact ⟨rfl, rfl⟩
theorem imayId_any (n : Int) (w : World) : Calls Try.prog 14 #[.int .i64 n] w fun e w' => e = .returned (.bool (idB n)) ∧ w' = w := by
  go_enter Try.func14, Try.ntmps14
  go_wp2
  all_goals
    go_ret
    exact ⟨ret_bool (by unfold idB; rw [Bool.eq_iff_iff]; simp; try omega), rfl⟩
theorem fits_any (a b : Int) (w : World) : Calls Try.prog 13 #[.int .i64 a, .int .i64 b] w fun e w' => e = .returned (.bool (fitB a b)) ∧ w' = w := by
  go_enter Try.func13, Try.ntmps13
  go_wp2
  all_goals
    go_ret
    exact ⟨ret_bool (by unfold fitB; rw [Bool.eq_iff_iff]; simp; try omega), rfl⟩
set_option maxRecDepth 100000 in
theorem imay_any (v p r : Int) (w : World) : Calls Try.prog 10 #[.agg #[.int .i64 v, .int .i64 p, .int .i64 r]] w fun e w' => e = .returned (.bool (idsB v p r)) ∧ Below w.heap.size w w' := by
  have hX := boxM w (.int .i64 v) (.int .i64 p) (.int .i64 r) 23
  unfold idsB
  cases h1 : idB v <;> cases h2 : idB p <;> cases h3 : idB r
  all_goals
    go_enter Try.func10, Try.ntmps10
    go_wp2_with (go_at_call 14; refine (imayId_any _ _).mono ?_; rintro e w' ⟨rfl, rfl⟩)
    go_ret
    exact ⟨rfl, (Below.refl _ _).alloc (Nat.le_refl _) _⟩
/-- The boxes of two structs that come in. -/
theorem two_box (w : World) (v p r v' p' r' : Value) (t : TypeId) : Below w.heap.size w ((w.alloc (.cells #[v, p, r] t)).alloc (.cells #[v', p', r'] t)) ∧ (w.heap.size < ((w.alloc (.cells #[v, p, r] t)).alloc (.cells #[v', p', r'] t)).heap.size ∧ ((w.alloc (.cells #[v, p, r] t)).alloc (.cells #[v', p', r'] t)).cell? ⟨w.heap.size, 0, none⟩ = some v ∧ ((w.alloc (.cells #[v, p, r] t)).alloc (.cells #[v', p', r'] t)).cell? ⟨w.heap.size, 1, none⟩ = some p ∧ ((w.alloc (.cells #[v, p, r] t)).alloc (.cells #[v', p', r'] t)).cell? ⟨w.heap.size, 2, none⟩ = some r) ∧ (w.heap.size + 1 < ((w.alloc (.cells #[v, p, r] t)).alloc (.cells #[v', p', r'] t)).heap.size ∧ ((w.alloc (.cells #[v, p, r] t)).alloc (.cells #[v', p', r'] t)).cell? ⟨w.heap.size + 1, 0, none⟩ = some v' ∧ ((w.alloc (.cells #[v, p, r] t)).alloc (.cells #[v', p', r'] t)).cell? ⟨w.heap.size + 1, 1, none⟩ = some p' ∧ ((w.alloc (.cells #[v, p, r] t)).alloc (.cells #[v', p', r'] t)).cell? ⟨w.heap.size + 1, 2, none⟩ = some r') := by
  have hY := boxM (w.alloc (.cells #[v, p, r] t)) v' p' r' t
  rw [show (w.alloc (.cells #[v, p, r] t)).heap.size = w.heap.size + 1 from by simp] at hY
  exact ⟨((Below.refl w.heap.size w).alloc (Nat.le_refl _) _).alloc (Nat.le_of_lt (size_alloc1 _ _)) _, boxB (boxM w v p r t) ((Below.refl _ _).alloc (Nat.le_refl _) _), hY⟩
/-- The ways of a match: one that may not be; or which of the three is the first that does not fit. -/
theorem mways (v p r v' p' r' : Int) : (idsB v p r = false ∧ mtOk v p r v' p' r' = false ∧ mtB v p r v' p' r' = false) ∨ (idsB v p r = true ∧ idsB v' p' r' = false ∧ mtOk v p r v' p' r' = false ∧ mtB v p r v' p' r' = false) ∨ (idsB v p r = true ∧ idsB v' p' r' = true ∧ mtOk v p r v' p' r' = true ∧ fitB v v' = false ∧ mtB v p r v' p' r' = false) ∨ (idsB v p r = true ∧ idsB v' p' r' = true ∧ mtOk v p r v' p' r' = true ∧ fitB v v' = true ∧ fitB p p' = false ∧ mtB v p r v' p' r' = false) ∨ (idsB v p r = true ∧ idsB v' p' r' = true ∧ mtOk v p r v' p' r' = true ∧ fitB v v' = true ∧ fitB p p' = true ∧ fitB r r' = false ∧ mtB v p r v' p' r' = false) ∨ (idsB v p r = true ∧ idsB v' p' r' = true ∧ mtOk v p r v' p' r' = true ∧ fitB v v' = true ∧ fitB p p' = true ∧ fitB r r' = true ∧ mtB v p r v' p' r' = true) := by
  unfold mtB mtOk fitsB
  cases idsB v p r <;> cases idsB v' p' r' <;> cases fitB v v' <;> cases fitB p p' <;> cases fitB r r' <;> simp
set_option maxRecDepth 100000 in
set_option maxHeartbeats 1000000 in
theorem match_any (v p r v' p' r' : Int) (w : World) : Calls Try.prog 7 #[.agg #[.int .i64 v, .int .i64 p, .int .i64 r], .agg #[.int .i64 v', .int .i64 p', .int .i64 r']] w fun e w' => e = .returned (.tuple #[.bool (mtB v p r v' p' r'), .int .i64 (errM (mtOk v p r v' p' r'))]) ∧ Below w.heap.size w w' := by
  obtain ⟨hB, hX, hY⟩ := two_box w (.int .i64 v) (.int .i64 p) (.int .i64 r) (.int .i64 v') (.int .i64 p') (.int .i64 r') 23
  rcases mways v p r v' p' r' with ⟨h1, h2, h3⟩ | ⟨h1, h4, h2, h3⟩ | ⟨h1, h4, h2, h5, h3⟩ | ⟨h1, h4, h2, h5, h6, h3⟩ | ⟨h1, h4, h2, h5, h6, h7, h3⟩ | ⟨h1, h4, h2, h5, h6, h7, h3⟩
  all_goals
    rw [h2, h3]
    clear h2 h3
    go_enter Try.func7, Try.ntmps7
    go_wp2_with (first | (go_at_call 10; refine (imay_any _ _ _ _).mono ?_; rintro e w' ⟨rfl, hb⟩; replace hB := thenB hB hb; replace hX := boxB hX hb; replace hY := boxB hY hb; clear hb) | (go_at_call 13; refine (fits_any _ _ _).mono ?_; rintro e w' ⟨rfl, rfl⟩))
    go_ret2
    exact ⟨rfl, hB⟩
theorem ridMay_any (n : Int) (w : World) : Calls Try.prog 15 #[.int .i64 n] w fun e w' => e = .returned (.bool (idB n)) ∧ w' = w := by
  go_enter Try.func15, Try.ntmps15
  go_wp2_with (go_at_call 16; refine (upTo_any _ _ _ _).mono ?_; rintro e w' ⟨rfl, rfl⟩)
  go_ret
  exact ⟨rfl, rfl⟩
set_option maxRecDepth 100000 in
theorem ridsMay_any (v p r : Int) (w : World) : Calls Try.prog 11 #[.agg #[.int .i64 v, .int .i64 p, .int .i64 r]] w fun e w' => e = .returned (.bool (idsB v p r)) ∧ Below w.heap.size w w' := by
  have hX := boxM w (.int .i64 v) (.int .i64 p) (.int .i64 r) 23
  unfold idsB
  cases h1 : idB v <;> cases h2 : idB p <;> cases h3 : idB r
  all_goals
    go_enter Try.func11, Try.ntmps11
    go_wp2_with (go_at_call 15; refine (ridMay_any _ _).mono ?_; rintro e w' ⟨rfl, rfl⟩)
    go_ret
    exact ⟨rfl, (Below.refl _ _).alloc (Nat.le_refl _) _⟩
theorem fit_ways {a b : Int} (h : fitB a b = true) : a = b ∨ (¬ a = b ∧ a = 65535) := by
  rw [fitB_iff] at h
  by_cases e : a = b
  · exact .inl e
  · exact .inr ⟨e, h.resolve_left e⟩
theorem fit_no {a b : Int} (h : fitB a b = false) : (a == b) = false ∧ (a == 65535) = false := by
  rw [← Bool.not_eq_true, fitB_iff] at h
  exact ⟨beq_eq_false_iff_ne.2 fun e => h (.inl e), beq_eq_false_iff_ne.2 fun e => h (.inr e)⟩
set_option maxRecDepth 100000 in
set_option maxHeartbeats 4000000 in
theorem refMatch_any (v p r v' p' r' : Int) (w : World) : Calls Try.prog 8 #[.agg #[.int .i64 v, .int .i64 p, .int .i64 r], .agg #[.int .i64 v', .int .i64 p', .int .i64 r']] w fun e w' => e = .returned (.tuple #[.bool (mtB v p r v' p' r'), .int .i64 (errM (mtOk v p r v' p' r'))]) ∧ Below w.heap.size w w' := by
  obtain ⟨hB, hX, hY⟩ := two_box w (.int .i64 v) (.int .i64 p) (.int .i64 r) (.int .i64 v') (.int .i64 p') (.int .i64 r') 23
  rcases mways v p r v' p' r' with ⟨h1, h2, h3⟩ | ⟨h1, h4, h2, h3⟩ | ⟨h1, h4, h2, h5, h3⟩ | ⟨h1, h4, h2, h5, h6, h3⟩ | ⟨h1, h4, h2, h5, h6, h7, h3⟩ | ⟨h1, h4, h2, h5, h6, h7, h3⟩
  all_goals
    rw [h2, h3]
    clear h2 h3
    try replace h5 := fit_no h5
    try replace h6 := fit_no h6
    try replace h7 := fit_no h7
    try replace h5 := fit_ways h5
    try replace h6 := fit_ways h6
    try replace h7 := fit_ways h7
  rotate_left 2
  · obtain ⟨h5, h5'⟩ := h5
    go_enter Try.func8, Try.ntmps8
    go_wp2_with (go_at_call 11; refine (ridsMay_any _ _ _ _).mono ?_; rintro e w' ⟨rfl, hb⟩; replace hB := thenB hB hb; replace hX := boxB hX hb; replace hY := boxB hY hb; clear hb)
    go_ret2
    exact ⟨rfl, hB⟩
  · obtain ⟨h6, h6'⟩ := h6
    rcases h5 with rfl | ⟨h5, rfl⟩
    all_goals
      go_enter Try.func8, Try.ntmps8
      go_wp2_with (go_at_call 11; refine (ridsMay_any _ _ _ _).mono ?_; rintro e w' ⟨rfl, hb⟩; replace hB := thenB hB hb; replace hX := boxB hX hb; replace hY := boxB hY hb; clear hb)
      go_ret2
      exact ⟨rfl, hB⟩
  · obtain ⟨h7, h7'⟩ := h7
    rcases h5 with rfl | ⟨h5, rfl⟩ <;> rcases h6 with rfl | ⟨h6, rfl⟩
    all_goals
      go_enter Try.func8, Try.ntmps8
      go_wp2_with (go_at_call 11; refine (ridsMay_any _ _ _ _).mono ?_; rintro e w' ⟨rfl, hb⟩; replace hB := thenB hB hb; replace hX := boxB hX hb; replace hY := boxB hY hb; clear hb)
      go_ret2
      exact ⟨rfl, hB⟩
  · rcases h5 with rfl | ⟨h5, rfl⟩ <;> rcases h6 with rfl | ⟨h6, rfl⟩ <;> rcases h7 with rfl | ⟨h7, rfl⟩
    all_goals
      go_enter Try.func8, Try.ntmps8
      go_wp2_with (go_at_call 11; refine (ridsMay_any _ _ _ _).mono ?_; rintro e w' ⟨rfl, hb⟩; replace hB := thenB hB hb; replace hX := boxB hX hb; replace hY := boxB hY hb; clear hb)
      go_ret2
      exact ⟨rfl, hB⟩
  all_goals
    go_enter Try.func8, Try.ntmps8
    go_wp2_with (go_at_call 11; refine (ridsMay_any _ _ _ _).mono ?_; rintro e w' ⟨rfl, hb⟩; replace hB := thenB hB hb; replace hX := boxB hX hb; replace hY := boxB hY hb; clear hb)
    go_ret2
    exact ⟨rfl, hB⟩
end Go.Proofs.Ytlffkljnoebciaa.IdtWalk
