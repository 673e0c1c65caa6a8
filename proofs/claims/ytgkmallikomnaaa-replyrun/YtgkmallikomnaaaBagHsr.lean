/- The document's own answers to package host: may a host be, what it begins with, what it asks; of what was there nothing has turned. -/
import Derived.Test.YtgkmallikomnaaaBagHst
import Derived.Test.YtgkmallikomnaaaSufRef
import Derived.Test.YtgkmallikomnaaaSetRef
import Derived.Lib.BufferWrite
namespace Go.Proofs.Ytgkmallikomnaaa.HstRef
open Go.Proofs.Ytgkmallikomnaaa Go.RowKit Go.Proofs.Ytgkmallikomnaaa.Bytes Go.Proofs.Ytgkmallikomnaaa.NorWalk Go.Proofs.Ytgkmallikomnaaa.Suf Go.Proofs.Ytgkmallikomnaaa.Idt Go.Proofs.Ytgkmallikomnaaa.Sup Go.Proofs.Ytgkmallikomnaaa.Hst Go.Proofs.Ytgkmallikomnaaa.HstWalk Go.Proofs.Ytgkmallikomnaaa.HstAsk Go.Proofs.Ytgkmallikomnaaa.HstHost
open Go.Proofs.Ytgkmallikomnaaa.EntRow (text_ne)
open Go.Proofs.Ytgkmallikomnaaa.SetWalk (resM resB set3)
open Go.Proofs.Ytgkmallikomnaaa.OpsRow (boxM boxB boxD thenD)
open Go.Proofs.Ytgkmallikomnaaa.SufRef (refParse_any)
open Go.Proofs.Ytgkmallikomnaaa.IdtWalk (refMatch_any ridsMay_any)

open Go.Proofs.Ytgkmallikomnaaa.Blo (nP pieceS)
open Go.Proofs.Ytgkmallikomnaaa.Take
open List (setIfInBounds_toArray set_cons_zero set_cons_succ)
attribute [local go_sem ↓] Go.wp_at_zero Go.wp_at_succ

theorem upH_any (x a k : Int) (w : World) : Calls Try.prog 30 #[.int .i64 x, .int .i64 a, .int .i64 k] w fun e w' => e = .returned (.bool (decide (a ≤ x ∧ x ≤ k))) ∧ w' = w := by
  go_enter Try.func30, Try.ntmps30
  go_wp2
  all_goals
    go_ret
    exact ⟨ret_bool (by rw [Bool.eq_iff_iff]; simp; try omega), rfl⟩
set_option maxRecDepth 100000 in
theorem rests_any (ph : Int) (im : ByteArray) (bl : Int) (ag : Bool) (tr : Int) (rd : ByteArray) (rp : Int) (w : World) : Calls Try.prog 19 #[.agg #[.int .i64 ph, .string im, .int .i64 bl, .bool ag, .int .i64 tr, .string rd, .int .i64 rp]] w fun e w' => e = .returned (.bool (restB ph)) ∧ Below w.heap.size w w' := by
  have hX := sevM w (.int .i64 ph) (.string im) (.int .i64 bl) (.bool ag) (.int .i64 tr) (.string rd) (.int .i64 rp) 23
  have hB := hal w (.cells #[.int .i64 ph, .string im, .int .i64 bl, .bool ag, .int .i64 tr, .string rd, .int .i64 rp] 23)
  by_cases h : ph = 0
  · subst h
    go_enter Try.func19, Try.ntmps19
    go_upto_region 1 with fail
    generalize w.alloc _ = W at *
    go_wp2
    go_ret
    exact ⟨rfl, hB⟩
  · have e : restB ph = decide (ph = 7) := by unfold restB; rw [Bool.eq_iff_iff]; simp; omega
    rw [e]
    go_enter Try.func19, Try.ntmps19
    go_upto_region 1 with fail
    generalize w.alloc _ = W at *
    go_wp2
    go_ret
    exact ⟨ret_bool (by rw [Bool.eq_iff_iff]; simp [h]), hB⟩
theorem rpieces_any (s : ByteArray) (w : World) (hs : s.size ≤ 288) : Calls Try.prog 31 #[.string s] w fun e w' => e = .returned (.int .i64 (nP s : Int)) ∧ w' = w := by
  go_enter Try.func31, Try.ntmps31
  go_wp2
  go_ret
  refine ⟨?_, rfl⟩
  show Ending.returned (.int .i64 (((s.size : Int) + 32 - 1) / 32)) = _
  rw [show ((s.size : Int) + 32 - 1) / 32 = (nP s : Int) from by unfold nP; omega]
theorem not_empty {s : ByteArray} (h : ¬ s = ⟨#[]⟩) : s.toList.isEmpty = false := by
  rw [List.isEmpty_eq_false_iff, ByteArray.toList_eq]
  exact fun e => h (ba_ext e)
theorem size_pos {s : ByteArray} (h : ¬ s = ⟨#[]⟩) : 1 ≤ s.size := by
  rcases Nat.eq_zero_or_pos s.size with h0 | h0
  · exact absurd (ba_ext (List.eq_nil_of_length_eq_zero h0)) h
  · exact h0
theorem refHMay_ways (ph : Int) (im : ByteArray) (bl tr : Int) (rd : ByteArray) (rp : Int) :
    (decide (0 ≤ ph ∧ ph ≤ 7) = false ∧ hostB ph im bl tr rd rp = false) ∨
    (decide (0 ≤ ph ∧ ph ≤ 7) = true ∧ decide (0 ≤ rp ∧ rp ≤ 3) = false ∧ hostB ph im bl tr rd rp = false) ∨
    (decide (0 ≤ ph ∧ ph ≤ 7) = true ∧ decide (0 ≤ rp ∧ rp ≤ 3) = true ∧ decide ((im.size : Int) ≤ 288) = false ∧ hostB ph im bl tr rd rp = false) ∨
    (decide (0 ≤ ph ∧ ph ≤ 7) = true ∧ decide (0 ≤ rp ∧ rp ≤ 3) = true ∧ decide ((im.size : Int) ≤ 288) = true ∧ restB ph = false ∧ im = ⟨#[]⟩ ∧ hostB ph im bl tr rd rp = false) ∨
    (decide (0 ≤ ph ∧ ph ≤ 7) = true ∧ decide (0 ≤ rp ∧ rp ≤ 3) = true ∧ decide ((im.size : Int) ≤ 288) = true ∧ im.size ≤ 288 ∧ (restB ph = true ∨ restB ph = false ∧ ¬ im = ⟨#[]⟩) ∧
      hostB ph im bl tr rd rp = (decide (0 ≤ bl ∧ bl ≤ (nP im : Int)) && (decide (0 ≤ tr ∧ tr ≤ 8) && decide ((rd.size : Int) ≤ 320)))) := by
  cases h1 : decide (0 ≤ ph ∧ ph ≤ 7) with
  | false =>
    have := of_decide_eq_false h1
    exact .inl ⟨rfl, host_no (by omega)⟩
  | true => cases h2 : decide (0 ≤ rp ∧ rp ≤ 3) with
    | false =>
      have := of_decide_eq_false h2
      exact .inr (.inl ⟨rfl, rfl, host_no (by omega)⟩)
    | true => cases h3 : decide ((im.size : Int) ≤ 288) with
      | false =>
        have := of_decide_eq_false h3
        exact .inr (.inr (.inl ⟨rfl, rfl, rfl, host_no (by omega)⟩))
      | true =>
        have p1 := of_decide_eq_true h1
        have p2 := of_decide_eq_true h2
        have p3 := of_decide_eq_true h3
        have fin : (1 ≤ im.size ∨ ph = 0 ∨ ph = 7) → hostB ph im bl tr rd rp = (decide (0 ≤ bl ∧ bl ≤ (nP im : Int)) && (decide (0 ≤ tr ∧ tr ≤ 8) && decide ((rd.size : Int) ≤ 320))) := fun h => by
          rw [Bool.eq_iff_iff, host_parts]
          simp only [Bool.and_eq_true, decide_eq_true_iff]
          omega
        cases h4 : restB ph with
        | true =>
          have h5 := of_decide_eq_true h4
          exact .inr (.inr (.inr (.inr ⟨rfl, rfl, rfl, by omega, .inl rfl, fin (by omega)⟩)))
        | false =>
          have h5 := of_decide_eq_false h4
          by_cases h6 : im = ⟨#[]⟩
          · refine .inr (.inr (.inr (.inl ⟨rfl, rfl, rfl, rfl, h6, host_no (fun h => ?_)⟩)))
            have h7 := h.2.2.2.2.2.1
            rw [h6] at h7
            rcases h7 with h7 | h7
            · exact absurd h7 (by decide)
            · exact h5 h7
          · exact .inr (.inr (.inr (.inr ⟨rfl, rfl, rfl, by omega, .inr ⟨rfl, h6⟩, fin (.inl (size_pos h6))⟩)))
set_option maxRecDepth 100000 in
set_option maxHeartbeats 4000000 in
theorem refHMay_any (ph : Int) (im : ByteArray) (bl : Int) (ag : Bool) (tr : Int) (rd : ByteArray) (rp : Int) (w : World) : Calls Try.prog 14 #[.agg #[.int .i64 ph, .string im, .int .i64 bl, .bool ag, .int .i64 tr, .string rd, .int .i64 rp]] w fun e w' => e = .returned (.bool (hostB ph im bl tr rd rp)) ∧ Below w.heap.size w w' := by
  have hB := hal w (.cells #[.int .i64 ph, .string im, .int .i64 bl, .bool ag, .int .i64 tr, .string rd, .int .i64 rp] 23)
  have hX := sevM w (.int .i64 ph) (.string im) (.int .i64 bl) (.bool ag) (.int .i64 tr) (.string rd) (.int .i64 rp) 23
  have C1 := hide (fun w => upH_any ph 0 7 w)
  have C2 := hide (fun w => upH_any rp 0 3 w)
  have CR := hide (fun w => rests_any ph im bl ag tr rd rp w)
  have CP0 : im.size ≤ 288 → ∀ w, Calls Try.prog 31 #[.string im] w fun e w' => e = .returned (.int .i64 (nP im : Int)) ∧ w' = w := fun h w => rpieces_any im w h
  have C5 := hide (fun w => upH_any bl 0 (nP im : Int) w)
  have C6 := hide (fun w => upH_any tr 0 8 w)
  have hw := refHMay_ways ph im bl tr rd rp
  generalize hostB ph im bl tr rd rp = Y at *
  generalize nP im = N at *
  generalize restB ph = R at *
  rcases hw with ⟨h1, h⟩ | ⟨h1, h2, h⟩ | ⟨h1, h2, h3, h⟩ | ⟨h1, h2, h3, h4, rfl, h⟩ | ⟨h1, h2, h3, h8, h4, h⟩
  · rw [h]
    rw [h1] at C1
    clear h CP0 C2 C5 C6 CR h1
    go_enter Try.func14, Try.ntmps14
    go_upto_region 1 with fail
    generalize w.alloc _ = W at *
    -- REF c1
    refine wp_region_held_drew (S := fun W => W.cell? ⟨w.heap.size, 0, none⟩ = some (.int .i64 ph) ∧ W.cell? ⟨w.heap.size, 1, none⟩ = some (.string im) ∧ W.cell? ⟨w.heap.size, 2, none⟩ = some (.int .i64 bl) ∧ W.cell? ⟨w.heap.size, 3, none⟩ = some (.bool ag) ∧ W.cell? ⟨w.heap.size, 4, none⟩ = some (.int .i64 tr) ∧ W.cell? ⟨w.heap.size, 5, none⟩ = some (.string rd) ∧ W.cell? ⟨w.heap.size, 6, none⟩ = some (.int .i64 rp)) (by kernel_rfl) (by go_keep) (fun hHeld => ?_)
    refine tk 0 ?_; simp only [Act.put, setIfInBounds_toArray, set_cons_zero, set_cons_succ]
    refine tk 1 ?_; simp only [Act.put, setIfInBounds_toArray, set_cons_zero, set_cons_succ]
    refine wpAnyH_ready (rs := [2]) (by kernel_rfl) (by simp) ?_
    refine AllReadyH.cons rfl (fun K hK => ?_) AllReadyH.nil
    go_simp
    ((go_at_call 30; (first | with_reducible refine (C1.out _).mono ?_ | with_reducible refine (C2.out _).mono ?_ | with_reducible refine (C5.out _).mono ?_ | with_reducible refine (C6.out _).mono ?_); rintro e w' ⟨rfl, rfl⟩))
    refine hK.out _ _ (by go_keep) (fun hHeld => ?_)
    clear hK K
    (try simp only [Act.put, setIfInBounds_toArray, set_cons_zero, set_cons_succ])
    refine tk 3 ?_; simp only [Act.put, setIfInBounds_toArray, set_cons_zero, set_cons_succ]
    refine ts 4 ?_; simp only [Act.put, setIfInBounds_toArray, set_cons_zero, set_cons_succ]
    refine ts 5 ?_; simp only [Act.put, setIfInBounds_toArray, set_cons_zero, set_cons_succ]
    refine ts 6 ?_; simp only [Act.put, setIfInBounds_toArray, set_cons_zero, set_cons_succ]
    refine tk 7 ?_; simp only [Act.put, setIfInBounds_toArray, set_cons_zero, set_cons_succ]
    refine tk 8 ?_; simp only [Act.put, setIfInBounds_toArray, set_cons_zero, set_cons_succ]
    refine ts 9 ?_; simp only [Act.put, setIfInBounds_toArray, set_cons_zero, set_cons_succ]
    refine ts 10 ?_; simp only [Act.put, setIfInBounds_toArray, set_cons_zero, set_cons_succ]
    refine ts 11 ?_; simp only [Act.put, setIfInBounds_toArray, set_cons_zero, set_cons_succ]
    refine ts 12 ?_; simp only [Act.put, setIfInBounds_toArray, set_cons_zero, set_cons_succ]
    refine tk 13 ?_; simp only [Act.put, setIfInBounds_toArray, set_cons_zero, set_cons_succ]
    refine tk 14 ?_; simp only [Act.put, setIfInBounds_toArray, set_cons_zero, set_cons_succ]
    refine ts 15 ?_; simp only [Act.put, setIfInBounds_toArray, set_cons_zero, set_cons_succ]
    refine ts 16 ?_; simp only [Act.put, setIfInBounds_toArray, set_cons_zero, set_cons_succ]
    refine ts 17 ?_; simp only [Act.put, setIfInBounds_toArray, set_cons_zero, set_cons_succ]
    refine ts 18 ?_; simp only [Act.put, setIfInBounds_toArray, set_cons_zero, set_cons_succ]
    refine ts 19 ?_; simp only [Act.put, setIfInBounds_toArray, set_cons_zero, set_cons_succ]
    refine ts 20 ?_; simp only [Act.put, setIfInBounds_toArray, set_cons_zero, set_cons_succ]
    refine ts 21 ?_; simp only [Act.put, setIfInBounds_toArray, set_cons_zero, set_cons_succ]
    refine tk 22 ?_; simp only [Act.put, setIfInBounds_toArray, set_cons_zero, set_cons_succ]
    refine tk 23 ?_; simp only [Act.put, setIfInBounds_toArray, set_cons_zero, set_cons_succ]
    refine ts 24 ?_; simp only [Act.put, setIfInBounds_toArray, set_cons_zero, set_cons_succ]
    refine ts 25 ?_; simp only [Act.put, setIfInBounds_toArray, set_cons_zero, set_cons_succ]
    refine ts 26 ?_; simp only [Act.put, setIfInBounds_toArray, set_cons_zero, set_cons_succ]
    refine ts 27 ?_; simp only [Act.put, setIfInBounds_toArray, set_cons_zero, set_cons_succ]
    refine ts 28 ?_; simp only [Act.put, setIfInBounds_toArray, set_cons_zero, set_cons_succ]
    refine ts 29 ?_; simp only [Act.put, setIfInBounds_toArray, set_cons_zero, set_cons_succ]
    refine tk 30 ?_; simp only [Act.put, setIfInBounds_toArray, set_cons_zero, set_cons_succ]
    refine tk 31 ?_; simp only [Act.put, setIfInBounds_toArray, set_cons_zero, set_cons_succ]
    refine ts 32 ?_; simp only [Act.put, setIfInBounds_toArray, set_cons_zero, set_cons_succ]
    refine ts 33 ?_; simp only [Act.put, setIfInBounds_toArray, set_cons_zero, set_cons_succ]
    refine ts 34 ?_; simp only [Act.put, setIfInBounds_toArray, set_cons_zero, set_cons_succ]
    refine tk 35 ?_; simp only [Act.put, setIfInBounds_toArray, set_cons_zero, set_cons_succ]
    refine tk 36 ?_; simp only [Act.put, setIfInBounds_toArray, set_cons_zero, set_cons_succ]
    refine ts 37 ?_; simp only [Act.put, setIfInBounds_toArray, set_cons_zero, set_cons_succ]
    refine ts 38 ?_; simp only [Act.put, setIfInBounds_toArray, set_cons_zero, set_cons_succ]
    refine ts 39 ?_; simp only [Act.put, setIfInBounds_toArray, set_cons_zero, set_cons_succ]
    refine ts 40 ?_; simp only [Act.put, setIfInBounds_toArray, set_cons_zero, set_cons_succ]
    refine tk 41 ?_; simp only [Act.put, setIfInBounds_toArray, set_cons_zero, set_cons_succ]
    refine tk 42 ?_; simp only [Act.put, setIfInBounds_toArray, set_cons_zero, set_cons_succ]
    refine wpAnyH_done (by kernel_rfl) ?_ _
    -- END
    go_wp2
    go_ret
    first | exact ⟨rfl, hB⟩ | exact ⟨rfl, ⟨hB.os, hB.tape, hB.output, hB.size, hB.block⟩⟩
  · rw [h]
    rw [h1] at C1
    rw [h2] at C2
    clear h CP0 C5 C6 CR h1 h2
    go_enter Try.func14, Try.ntmps14
    go_upto_region 1 with fail
    generalize w.alloc _ = W at *
    -- REF c2
    refine wp_region_held_drew (S := fun W => W.cell? ⟨w.heap.size, 0, none⟩ = some (.int .i64 ph) ∧ W.cell? ⟨w.heap.size, 1, none⟩ = some (.string im) ∧ W.cell? ⟨w.heap.size, 2, none⟩ = some (.int .i64 bl) ∧ W.cell? ⟨w.heap.size, 3, none⟩ = some (.bool ag) ∧ W.cell? ⟨w.heap.size, 4, none⟩ = some (.int .i64 tr) ∧ W.cell? ⟨w.heap.size, 5, none⟩ = some (.string rd) ∧ W.cell? ⟨w.heap.size, 6, none⟩ = some (.int .i64 rp)) (by kernel_rfl) (by go_keep) (fun hHeld => ?_)
    refine tk 0 ?_; simp only [Act.put, setIfInBounds_toArray, set_cons_zero, set_cons_succ]
    refine tk 1 ?_; simp only [Act.put, setIfInBounds_toArray, set_cons_zero, set_cons_succ]
    refine wpAnyH_ready (rs := [2]) (by kernel_rfl) (by simp) ?_
    refine AllReadyH.cons rfl (fun K hK => ?_) AllReadyH.nil
    go_simp
    ((go_at_call 30; (first | with_reducible refine (C1.out _).mono ?_ | with_reducible refine (C2.out _).mono ?_ | with_reducible refine (C5.out _).mono ?_ | with_reducible refine (C6.out _).mono ?_); rintro e w' ⟨rfl, rfl⟩))
    refine hK.out _ _ (by go_keep) (fun hHeld => ?_)
    clear hK K
    (try simp only [Act.put, setIfInBounds_toArray, set_cons_zero, set_cons_succ])
    refine tk 3 ?_; simp only [Act.put, setIfInBounds_toArray, set_cons_zero, set_cons_succ]
    refine tk 4 ?_; simp only [Act.put, setIfInBounds_toArray, set_cons_zero, set_cons_succ]
    refine tk 5 ?_; simp only [Act.put, setIfInBounds_toArray, set_cons_zero, set_cons_succ]
    refine wpAnyH_ready (rs := [6]) (by kernel_rfl) (by simp) ?_
    refine AllReadyH.cons rfl (fun K hK => ?_) AllReadyH.nil
    go_simp
    ((go_at_call 30; (first | with_reducible refine (C1.out _).mono ?_ | with_reducible refine (C2.out _).mono ?_ | with_reducible refine (C5.out _).mono ?_ | with_reducible refine (C6.out _).mono ?_); rintro e w' ⟨rfl, rfl⟩))
    refine hK.out _ _ (by go_keep) (fun hHeld => ?_)
    clear hK K
    (try simp only [Act.put, setIfInBounds_toArray, set_cons_zero, set_cons_succ])
    refine tk 7 ?_; simp only [Act.put, setIfInBounds_toArray, set_cons_zero, set_cons_succ]
    refine tk 8 ?_; simp only [Act.put, setIfInBounds_toArray, set_cons_zero, set_cons_succ]
    refine ts 9 ?_; simp only [Act.put, setIfInBounds_toArray, set_cons_zero, set_cons_succ]
    refine ts 10 ?_; simp only [Act.put, setIfInBounds_toArray, set_cons_zero, set_cons_succ]
    refine ts 11 ?_; simp only [Act.put, setIfInBounds_toArray, set_cons_zero, set_cons_succ]
    refine ts 12 ?_; simp only [Act.put, setIfInBounds_toArray, set_cons_zero, set_cons_succ]
    refine tk 13 ?_; simp only [Act.put, setIfInBounds_toArray, set_cons_zero, set_cons_succ]
    refine tk 14 ?_; simp only [Act.put, setIfInBounds_toArray, set_cons_zero, set_cons_succ]
    refine ts 15 ?_; simp only [Act.put, setIfInBounds_toArray, set_cons_zero, set_cons_succ]
    refine ts 16 ?_; simp only [Act.put, setIfInBounds_toArray, set_cons_zero, set_cons_succ]
    refine ts 17 ?_; simp only [Act.put, setIfInBounds_toArray, set_cons_zero, set_cons_succ]
    refine ts 18 ?_; simp only [Act.put, setIfInBounds_toArray, set_cons_zero, set_cons_succ]
    refine ts 19 ?_; simp only [Act.put, setIfInBounds_toArray, set_cons_zero, set_cons_succ]
    refine ts 20 ?_; simp only [Act.put, setIfInBounds_toArray, set_cons_zero, set_cons_succ]
    refine ts 21 ?_; simp only [Act.put, setIfInBounds_toArray, set_cons_zero, set_cons_succ]
    refine tk 22 ?_; simp only [Act.put, setIfInBounds_toArray, set_cons_zero, set_cons_succ]
    refine tk 23 ?_; simp only [Act.put, setIfInBounds_toArray, set_cons_zero, set_cons_succ]
    refine ts 24 ?_; simp only [Act.put, setIfInBounds_toArray, set_cons_zero, set_cons_succ]
    refine ts 25 ?_; simp only [Act.put, setIfInBounds_toArray, set_cons_zero, set_cons_succ]
    refine ts 26 ?_; simp only [Act.put, setIfInBounds_toArray, set_cons_zero, set_cons_succ]
    refine ts 27 ?_; simp only [Act.put, setIfInBounds_toArray, set_cons_zero, set_cons_succ]
    refine ts 28 ?_; simp only [Act.put, setIfInBounds_toArray, set_cons_zero, set_cons_succ]
    refine ts 29 ?_; simp only [Act.put, setIfInBounds_toArray, set_cons_zero, set_cons_succ]
    refine tk 30 ?_; simp only [Act.put, setIfInBounds_toArray, set_cons_zero, set_cons_succ]
    refine tk 31 ?_; simp only [Act.put, setIfInBounds_toArray, set_cons_zero, set_cons_succ]
    refine ts 32 ?_; simp only [Act.put, setIfInBounds_toArray, set_cons_zero, set_cons_succ]
    refine ts 33 ?_; simp only [Act.put, setIfInBounds_toArray, set_cons_zero, set_cons_succ]
    refine ts 34 ?_; simp only [Act.put, setIfInBounds_toArray, set_cons_zero, set_cons_succ]
    refine tk 35 ?_; simp only [Act.put, setIfInBounds_toArray, set_cons_zero, set_cons_succ]
    refine tk 36 ?_; simp only [Act.put, setIfInBounds_toArray, set_cons_zero, set_cons_succ]
    refine ts 37 ?_; simp only [Act.put, setIfInBounds_toArray, set_cons_zero, set_cons_succ]
    refine ts 38 ?_; simp only [Act.put, setIfInBounds_toArray, set_cons_zero, set_cons_succ]
    refine ts 39 ?_; simp only [Act.put, setIfInBounds_toArray, set_cons_zero, set_cons_succ]
    refine ts 40 ?_; simp only [Act.put, setIfInBounds_toArray, set_cons_zero, set_cons_succ]
    refine tk 41 ?_; simp only [Act.put, setIfInBounds_toArray, set_cons_zero, set_cons_succ]
    refine tk 42 ?_; simp only [Act.put, setIfInBounds_toArray, set_cons_zero, set_cons_succ]
    refine wpAnyH_done (by kernel_rfl) ?_ _
    -- END
    go_wp2
    go_ret
    first | exact ⟨rfl, hB⟩ | exact ⟨rfl, ⟨hB.os, hB.tape, hB.output, hB.size, hB.block⟩⟩
  · rw [h]
    rw [h1] at C1
    rw [h2] at C2
    clear h CP0 C5 C6 CR h1 h2
    go_enter Try.func14, Try.ntmps14
    go_upto_region 1 with fail
    generalize w.alloc _ = W at *
    -- REF c3
    refine wp_region_held_drew (S := fun W => W.cell? ⟨w.heap.size, 0, none⟩ = some (.int .i64 ph) ∧ W.cell? ⟨w.heap.size, 1, none⟩ = some (.string im) ∧ W.cell? ⟨w.heap.size, 2, none⟩ = some (.int .i64 bl) ∧ W.cell? ⟨w.heap.size, 3, none⟩ = some (.bool ag) ∧ W.cell? ⟨w.heap.size, 4, none⟩ = some (.int .i64 tr) ∧ W.cell? ⟨w.heap.size, 5, none⟩ = some (.string rd) ∧ W.cell? ⟨w.heap.size, 6, none⟩ = some (.int .i64 rp)) (by kernel_rfl) (by go_keep) (fun hHeld => ?_)
    refine tk 0 ?_; simp only [Act.put, setIfInBounds_toArray, set_cons_zero, set_cons_succ]
    refine tk 1 ?_; simp only [Act.put, setIfInBounds_toArray, set_cons_zero, set_cons_succ]
    refine wpAnyH_ready (rs := [2]) (by kernel_rfl) (by simp) ?_
    refine AllReadyH.cons rfl (fun K hK => ?_) AllReadyH.nil
    go_simp
    ((go_at_call 30; (first | with_reducible refine (C1.out _).mono ?_ | with_reducible refine (C2.out _).mono ?_ | with_reducible refine (C5.out _).mono ?_ | with_reducible refine (C6.out _).mono ?_); rintro e w' ⟨rfl, rfl⟩))
    refine hK.out _ _ (by go_keep) (fun hHeld => ?_)
    clear hK K
    (try simp only [Act.put, setIfInBounds_toArray, set_cons_zero, set_cons_succ])
    refine tk 3 ?_; simp only [Act.put, setIfInBounds_toArray, set_cons_zero, set_cons_succ]
    refine tk 4 ?_; simp only [Act.put, setIfInBounds_toArray, set_cons_zero, set_cons_succ]
    refine tk 5 ?_; simp only [Act.put, setIfInBounds_toArray, set_cons_zero, set_cons_succ]
    refine wpAnyH_ready (rs := [6]) (by kernel_rfl) (by simp) ?_
    refine AllReadyH.cons rfl (fun K hK => ?_) AllReadyH.nil
    go_simp
    ((go_at_call 30; (first | with_reducible refine (C1.out _).mono ?_ | with_reducible refine (C2.out _).mono ?_ | with_reducible refine (C5.out _).mono ?_ | with_reducible refine (C6.out _).mono ?_); rintro e w' ⟨rfl, rfl⟩))
    refine hK.out _ _ (by go_keep) (fun hHeld => ?_)
    clear hK K
    (try simp only [Act.put, setIfInBounds_toArray, set_cons_zero, set_cons_succ])
    refine tk 7 ?_; simp only [Act.put, setIfInBounds_toArray, set_cons_zero, set_cons_succ]
    refine tk 8 ?_; simp only [Act.put, setIfInBounds_toArray, set_cons_zero, set_cons_succ]
    refine tk 9 ?_; simp only [Act.put, setIfInBounds_toArray, set_cons_zero, set_cons_succ]
    refine tk 10 ?_; simp only [Act.put, setIfInBounds_toArray, set_cons_zero, set_cons_succ]
    refine tk 11 ?_; simp only [Act.put, setIfInBounds_toArray, set_cons_zero, set_cons_succ]
    refine tk 12 ?_; simp only [Act.put, setIfInBounds_toArray, set_cons_zero, set_cons_succ]
    refine tk 13 ?_; simp only [Act.put, setIfInBounds_toArray, set_cons_zero, set_cons_succ]
    refine tk 14 ?_; simp only [Act.put, setIfInBounds_toArray, set_cons_zero, set_cons_succ]
    refine ts 15 ?_; simp only [Act.put, setIfInBounds_toArray, set_cons_zero, set_cons_succ]
    refine ts 16 ?_; simp only [Act.put, setIfInBounds_toArray, set_cons_zero, set_cons_succ]
    refine ts 17 ?_; simp only [Act.put, setIfInBounds_toArray, set_cons_zero, set_cons_succ]
    refine ts 18 ?_; simp only [Act.put, setIfInBounds_toArray, set_cons_zero, set_cons_succ]
    refine ts 19 ?_; simp only [Act.put, setIfInBounds_toArray, set_cons_zero, set_cons_succ]
    refine ts 20 ?_; simp only [Act.put, setIfInBounds_toArray, set_cons_zero, set_cons_succ]
    refine ts 21 ?_; simp only [Act.put, setIfInBounds_toArray, set_cons_zero, set_cons_succ]
    refine tk 22 ?_; simp only [Act.put, setIfInBounds_toArray, set_cons_zero, set_cons_succ]
    refine tk 23 ?_; simp only [Act.put, setIfInBounds_toArray, set_cons_zero, set_cons_succ]
    refine ts 24 ?_; simp only [Act.put, setIfInBounds_toArray, set_cons_zero, set_cons_succ]
    refine ts 25 ?_; simp only [Act.put, setIfInBounds_toArray, set_cons_zero, set_cons_succ]
    refine ts 26 ?_; simp only [Act.put, setIfInBounds_toArray, set_cons_zero, set_cons_succ]
    refine ts 27 ?_; simp only [Act.put, setIfInBounds_toArray, set_cons_zero, set_cons_succ]
    refine ts 28 ?_; simp only [Act.put, setIfInBounds_toArray, set_cons_zero, set_cons_succ]
    refine ts 29 ?_; simp only [Act.put, setIfInBounds_toArray, set_cons_zero, set_cons_succ]
    refine tk 30 ?_; simp only [Act.put, setIfInBounds_toArray, set_cons_zero, set_cons_succ]
    refine tk 31 ?_; simp only [Act.put, setIfInBounds_toArray, set_cons_zero, set_cons_succ]
    refine ts 32 ?_; simp only [Act.put, setIfInBounds_toArray, set_cons_zero, set_cons_succ]
    refine ts 33 ?_; simp only [Act.put, setIfInBounds_toArray, set_cons_zero, set_cons_succ]
    refine ts 34 ?_; simp only [Act.put, setIfInBounds_toArray, set_cons_zero, set_cons_succ]
    refine tk 35 ?_; simp only [Act.put, setIfInBounds_toArray, set_cons_zero, set_cons_succ]
    refine tk 36 ?_; simp only [Act.put, setIfInBounds_toArray, set_cons_zero, set_cons_succ]
    refine ts 37 ?_; simp only [Act.put, setIfInBounds_toArray, set_cons_zero, set_cons_succ]
    refine ts 38 ?_; simp only [Act.put, setIfInBounds_toArray, set_cons_zero, set_cons_succ]
    refine ts 39 ?_; simp only [Act.put, setIfInBounds_toArray, set_cons_zero, set_cons_succ]
    refine ts 40 ?_; simp only [Act.put, setIfInBounds_toArray, set_cons_zero, set_cons_succ]
    refine tk 41 ?_; simp only [Act.put, setIfInBounds_toArray, set_cons_zero, set_cons_succ]
    refine tk 42 ?_; simp only [Act.put, setIfInBounds_toArray, set_cons_zero, set_cons_succ]
    refine wpAnyH_done (by kernel_rfl) ?_ _
    -- END
    go_wp2
    go_ret
    first | exact ⟨rfl, hB⟩ | exact ⟨rfl, ⟨hB.os, hB.tape, hB.output, hB.size, hB.block⟩⟩
  · rw [h]
    rw [h1] at C1
    rw [h2] at C2
    rw [h4] at CR
    clear h CP0 C5 C6 h1 h2 h4 h3
    go_enter Try.func14, Try.ntmps14
    go_upto_region 1 with fail
    generalize w.alloc _ = W at *
    -- REF c4
    refine wp_region_held_drew (S := fun W => W.cell? ⟨w.heap.size, 0, none⟩ = some (.int .i64 ph) ∧ W.cell? ⟨w.heap.size, 1, none⟩ = some (.string ⟨#[]⟩) ∧ W.cell? ⟨w.heap.size, 2, none⟩ = some (.int .i64 bl) ∧ W.cell? ⟨w.heap.size, 3, none⟩ = some (.bool ag) ∧ W.cell? ⟨w.heap.size, 4, none⟩ = some (.int .i64 tr) ∧ W.cell? ⟨w.heap.size, 5, none⟩ = some (.string rd) ∧ W.cell? ⟨w.heap.size, 6, none⟩ = some (.int .i64 rp)) (by kernel_rfl) (by go_keep) (fun hHeld => ?_)
    refine tk 0 ?_; simp only [Act.put, setIfInBounds_toArray, set_cons_zero, set_cons_succ]
    refine tk 1 ?_; simp only [Act.put, setIfInBounds_toArray, set_cons_zero, set_cons_succ]
    refine wpAnyH_ready (rs := [2]) (by kernel_rfl) (by simp) ?_
    refine AllReadyH.cons rfl (fun K hK => ?_) AllReadyH.nil
    go_simp
    ((go_at_call 30; (first | with_reducible refine (C1.out _).mono ?_ | with_reducible refine (C2.out _).mono ?_ | with_reducible refine (C5.out _).mono ?_ | with_reducible refine (C6.out _).mono ?_); rintro e w' ⟨rfl, rfl⟩))
    refine hK.out _ _ (by go_keep) (fun hHeld => ?_)
    clear hK K
    (try simp only [Act.put, setIfInBounds_toArray, set_cons_zero, set_cons_succ])
    refine tk 3 ?_; simp only [Act.put, setIfInBounds_toArray, set_cons_zero, set_cons_succ]
    refine tk 4 ?_; simp only [Act.put, setIfInBounds_toArray, set_cons_zero, set_cons_succ]
    refine tk 5 ?_; simp only [Act.put, setIfInBounds_toArray, set_cons_zero, set_cons_succ]
    refine wpAnyH_ready (rs := [6]) (by kernel_rfl) (by simp) ?_
    refine AllReadyH.cons rfl (fun K hK => ?_) AllReadyH.nil
    go_simp
    ((go_at_call 30; (first | with_reducible refine (C1.out _).mono ?_ | with_reducible refine (C2.out _).mono ?_ | with_reducible refine (C5.out _).mono ?_ | with_reducible refine (C6.out _).mono ?_); rintro e w' ⟨rfl, rfl⟩))
    refine hK.out _ _ (by go_keep) (fun hHeld => ?_)
    clear hK K
    (try simp only [Act.put, setIfInBounds_toArray, set_cons_zero, set_cons_succ])
    refine tk 7 ?_; simp only [Act.put, setIfInBounds_toArray, set_cons_zero, set_cons_succ]
    refine tk 8 ?_; simp only [Act.put, setIfInBounds_toArray, set_cons_zero, set_cons_succ]
    refine tk 9 ?_; simp only [Act.put, setIfInBounds_toArray, set_cons_zero, set_cons_succ]
    refine tk 10 ?_; simp only [Act.put, setIfInBounds_toArray, set_cons_zero, set_cons_succ]
    refine tk 11 ?_; simp only [Act.put, setIfInBounds_toArray, set_cons_zero, set_cons_succ]
    refine tk 12 ?_; simp only [Act.put, setIfInBounds_toArray, set_cons_zero, set_cons_succ]
    refine tk 13 ?_; simp only [Act.put, setIfInBounds_toArray, set_cons_zero, set_cons_succ]
    refine tk 14 ?_; simp only [Act.put, setIfInBounds_toArray, set_cons_zero, set_cons_succ]
    refine tk 15 ?_; simp only [Act.put, setIfInBounds_toArray, set_cons_zero, set_cons_succ]
    refine wpAnyH_ready (rs := [16]) (by kernel_rfl) (by simp) ?_
    refine AllReadyH.cons rfl (fun K hK => ?_) AllReadyH.nil
    go_simp
    ((go_at_call 19; refine (CR.out _).mono ?_; rintro e w' ⟨rfl, hb⟩; replace hB := thenD hb hB rfl rfl rfl rfl; replace hX := sevD hb hX; clear hb))
    refine hK.out _ _ (by go_keep) (fun hHeld => ?_)
    clear hK K
    (try simp only [Act.put, setIfInBounds_toArray, set_cons_zero, set_cons_succ])
    refine tk 17 ?_; simp only [Act.put, setIfInBounds_toArray, set_cons_zero, set_cons_succ]
    refine tk 18 ?_; simp only [Act.put, setIfInBounds_toArray, set_cons_zero, set_cons_succ]
    refine tk 19 ?_; simp only [Act.put, setIfInBounds_toArray, set_cons_zero, set_cons_succ]
    refine tk 20 ?_; simp only [Act.put, setIfInBounds_toArray, set_cons_zero, set_cons_succ]
    refine tk 21 ?_; simp only [Act.put, setIfInBounds_toArray, set_cons_zero, set_cons_succ]
    refine tk 22 ?_; simp only [Act.put, setIfInBounds_toArray, set_cons_zero, set_cons_succ]
    refine tk 23 ?_; simp only [Act.put, setIfInBounds_toArray, set_cons_zero, set_cons_succ]
    refine ts 24 ?_; simp only [Act.put, setIfInBounds_toArray, set_cons_zero, set_cons_succ]
    refine ts 25 ?_; simp only [Act.put, setIfInBounds_toArray, set_cons_zero, set_cons_succ]
    refine ts 26 ?_; simp only [Act.put, setIfInBounds_toArray, set_cons_zero, set_cons_succ]
    refine ts 27 ?_; simp only [Act.put, setIfInBounds_toArray, set_cons_zero, set_cons_succ]
    refine ts 28 ?_; simp only [Act.put, setIfInBounds_toArray, set_cons_zero, set_cons_succ]
    refine ts 29 ?_; simp only [Act.put, setIfInBounds_toArray, set_cons_zero, set_cons_succ]
    refine tk 30 ?_; simp only [Act.put, setIfInBounds_toArray, set_cons_zero, set_cons_succ]
    refine tk 31 ?_; simp only [Act.put, setIfInBounds_toArray, set_cons_zero, set_cons_succ]
    refine ts 32 ?_; simp only [Act.put, setIfInBounds_toArray, set_cons_zero, set_cons_succ]
    refine ts 33 ?_; simp only [Act.put, setIfInBounds_toArray, set_cons_zero, set_cons_succ]
    refine ts 34 ?_; simp only [Act.put, setIfInBounds_toArray, set_cons_zero, set_cons_succ]
    refine tk 35 ?_; simp only [Act.put, setIfInBounds_toArray, set_cons_zero, set_cons_succ]
    refine tk 36 ?_; simp only [Act.put, setIfInBounds_toArray, set_cons_zero, set_cons_succ]
    refine ts 37 ?_; simp only [Act.put, setIfInBounds_toArray, set_cons_zero, set_cons_succ]
    refine ts 38 ?_; simp only [Act.put, setIfInBounds_toArray, set_cons_zero, set_cons_succ]
    refine ts 39 ?_; simp only [Act.put, setIfInBounds_toArray, set_cons_zero, set_cons_succ]
    refine ts 40 ?_; simp only [Act.put, setIfInBounds_toArray, set_cons_zero, set_cons_succ]
    refine tk 41 ?_; simp only [Act.put, setIfInBounds_toArray, set_cons_zero, set_cons_succ]
    refine tk 42 ?_; simp only [Act.put, setIfInBounds_toArray, set_cons_zero, set_cons_succ]
    refine wpAnyH_done (by kernel_rfl) ?_ _
    -- END
    go_wp2
    go_ret
    first | exact ⟨rfl, hB⟩ | exact ⟨rfl, ⟨hB.os, hB.tape, hB.output, hB.size, hB.block⟩⟩
  · rw [h]
    rw [h1] at C1
    rw [h2] at C2
    have CP := hide (CP0 h8)
    clear h CP0 h1 h2 h8
    generalize decide (0 ≤ bl ∧ bl ≤ (N : Int)) = b5 at *
    generalize decide (0 ≤ tr ∧ tr ≤ 8) = b6 at *
    rcases h4 with rfl | ⟨rfl, h5⟩
    · cases b5
      · clear C6
        go_enter Try.func14, Try.ntmps14
        go_upto_region 1 with fail
        generalize w.alloc _ = W at *
        -- REF a5
        refine wp_region_held_drew (S := fun W => W.cell? ⟨w.heap.size, 0, none⟩ = some (.int .i64 ph) ∧ W.cell? ⟨w.heap.size, 1, none⟩ = some (.string im) ∧ W.cell? ⟨w.heap.size, 2, none⟩ = some (.int .i64 bl) ∧ W.cell? ⟨w.heap.size, 3, none⟩ = some (.bool ag) ∧ W.cell? ⟨w.heap.size, 4, none⟩ = some (.int .i64 tr) ∧ W.cell? ⟨w.heap.size, 5, none⟩ = some (.string rd) ∧ W.cell? ⟨w.heap.size, 6, none⟩ = some (.int .i64 rp)) (by kernel_rfl) (by go_keep) (fun hHeld => ?_)
        refine tk 0 ?_; simp only [Act.put, setIfInBounds_toArray, set_cons_zero, set_cons_succ]
        refine tk 1 ?_; simp only [Act.put, setIfInBounds_toArray, set_cons_zero, set_cons_succ]
        refine wpAnyH_ready (rs := [2]) (by kernel_rfl) (by simp) ?_
        refine AllReadyH.cons rfl (fun K hK => ?_) AllReadyH.nil
        go_simp
        ((go_at_call 30; (first | with_reducible refine (C1.out _).mono ?_ | with_reducible refine (C2.out _).mono ?_ | with_reducible refine (C5.out _).mono ?_ | with_reducible refine (C6.out _).mono ?_); rintro e w' ⟨rfl, rfl⟩))
        refine hK.out _ _ (by go_keep) (fun hHeld => ?_)
        clear hK K
        (try simp only [Act.put, setIfInBounds_toArray, set_cons_zero, set_cons_succ])
        refine tk 3 ?_; simp only [Act.put, setIfInBounds_toArray, set_cons_zero, set_cons_succ]
        refine tk 4 ?_; simp only [Act.put, setIfInBounds_toArray, set_cons_zero, set_cons_succ]
        refine tk 5 ?_; simp only [Act.put, setIfInBounds_toArray, set_cons_zero, set_cons_succ]
        refine wpAnyH_ready (rs := [6]) (by kernel_rfl) (by simp) ?_
        refine AllReadyH.cons rfl (fun K hK => ?_) AllReadyH.nil
        go_simp
        ((go_at_call 30; (first | with_reducible refine (C1.out _).mono ?_ | with_reducible refine (C2.out _).mono ?_ | with_reducible refine (C5.out _).mono ?_ | with_reducible refine (C6.out _).mono ?_); rintro e w' ⟨rfl, rfl⟩))
        refine hK.out _ _ (by go_keep) (fun hHeld => ?_)
        clear hK K
        (try simp only [Act.put, setIfInBounds_toArray, set_cons_zero, set_cons_succ])
        refine tk 7 ?_; simp only [Act.put, setIfInBounds_toArray, set_cons_zero, set_cons_succ]
        refine tk 8 ?_; simp only [Act.put, setIfInBounds_toArray, set_cons_zero, set_cons_succ]
        refine tk 9 ?_; simp only [Act.put, setIfInBounds_toArray, set_cons_zero, set_cons_succ]
        refine tk 10 ?_; simp only [Act.put, setIfInBounds_toArray, set_cons_zero, set_cons_succ]
        refine tk 11 ?_; simp only [Act.put, setIfInBounds_toArray, set_cons_zero, set_cons_succ]
        refine tk 12 ?_; simp only [Act.put, setIfInBounds_toArray, set_cons_zero, set_cons_succ]
        refine tk 13 ?_; simp only [Act.put, setIfInBounds_toArray, set_cons_zero, set_cons_succ]
        refine tk 14 ?_; simp only [Act.put, setIfInBounds_toArray, set_cons_zero, set_cons_succ]
        refine tk 15 ?_; simp only [Act.put, setIfInBounds_toArray, set_cons_zero, set_cons_succ]
        refine wpAnyH_ready (rs := [16]) (by kernel_rfl) (by simp) ?_
        refine AllReadyH.cons rfl (fun K hK => ?_) AllReadyH.nil
        go_simp
        ((go_at_call 19; refine (CR.out _).mono ?_; rintro e w' ⟨rfl, hb⟩; replace hB := thenD hb hB rfl rfl rfl rfl; replace hX := sevD hb hX; clear hb))
        refine hK.out _ _ (by go_keep) (fun hHeld => ?_)
        clear hK K
        (try simp only [Act.put, setIfInBounds_toArray, set_cons_zero, set_cons_succ])
        refine tk 17 ?_; simp only [Act.put, setIfInBounds_toArray, set_cons_zero, set_cons_succ]
        refine ts 18 ?_; simp only [Act.put, setIfInBounds_toArray, set_cons_zero, set_cons_succ]
        refine ts 19 ?_; simp only [Act.put, setIfInBounds_toArray, set_cons_zero, set_cons_succ]
        refine ts 20 ?_; simp only [Act.put, setIfInBounds_toArray, set_cons_zero, set_cons_succ]
        refine tk 21 ?_; simp only [Act.put, setIfInBounds_toArray, set_cons_zero, set_cons_succ]
        refine tk 22 ?_; simp only [Act.put, setIfInBounds_toArray, set_cons_zero, set_cons_succ]
        refine tk 23 ?_; simp only [Act.put, setIfInBounds_toArray, set_cons_zero, set_cons_succ]
        refine tk 24 ?_; simp only [Act.put, setIfInBounds_toArray, set_cons_zero, set_cons_succ]
        refine tk 25 ?_; simp only [Act.put, setIfInBounds_toArray, set_cons_zero, set_cons_succ]
        refine tk 26 ?_; simp only [Act.put, setIfInBounds_toArray, set_cons_zero, set_cons_succ]
        refine tk 27 ?_; simp only [Act.put, setIfInBounds_toArray, set_cons_zero, set_cons_succ]
        refine wpAnyH_ready (rs := [28]) (by kernel_rfl) (by simp) ?_
        refine AllReadyH.cons rfl (fun K hK => ?_) AllReadyH.nil
        go_simp
        ((go_at_call 31; refine (CP.out _).mono ?_; rintro e w' ⟨rfl, rfl⟩))
        refine hK.out _ _ (by go_keep) (fun hHeld => ?_)
        clear hK K
        (try simp only [Act.put, setIfInBounds_toArray, set_cons_zero, set_cons_succ])
        refine wpAnyH_ready (rs := [29]) (by kernel_rfl) (by simp) ?_
        refine AllReadyH.cons rfl (fun K hK => ?_) AllReadyH.nil
        go_simp
        ((go_at_call 30; (first | with_reducible refine (C1.out _).mono ?_ | with_reducible refine (C2.out _).mono ?_ | with_reducible refine (C5.out _).mono ?_ | with_reducible refine (C6.out _).mono ?_); rintro e w' ⟨rfl, rfl⟩))
        refine hK.out _ _ (by go_keep) (fun hHeld => ?_)
        clear hK K
        (try simp only [Act.put, setIfInBounds_toArray, set_cons_zero, set_cons_succ])
        refine tk 30 ?_; simp only [Act.put, setIfInBounds_toArray, set_cons_zero, set_cons_succ]
        refine tk 31 ?_; simp only [Act.put, setIfInBounds_toArray, set_cons_zero, set_cons_succ]
        refine ts 32 ?_; simp only [Act.put, setIfInBounds_toArray, set_cons_zero, set_cons_succ]
        refine ts 33 ?_; simp only [Act.put, setIfInBounds_toArray, set_cons_zero, set_cons_succ]
        refine ts 34 ?_; simp only [Act.put, setIfInBounds_toArray, set_cons_zero, set_cons_succ]
        refine tk 35 ?_; simp only [Act.put, setIfInBounds_toArray, set_cons_zero, set_cons_succ]
        refine tk 36 ?_; simp only [Act.put, setIfInBounds_toArray, set_cons_zero, set_cons_succ]
        refine ts 37 ?_; simp only [Act.put, setIfInBounds_toArray, set_cons_zero, set_cons_succ]
        refine ts 38 ?_; simp only [Act.put, setIfInBounds_toArray, set_cons_zero, set_cons_succ]
        refine ts 39 ?_; simp only [Act.put, setIfInBounds_toArray, set_cons_zero, set_cons_succ]
        refine ts 40 ?_; simp only [Act.put, setIfInBounds_toArray, set_cons_zero, set_cons_succ]
        refine tk 41 ?_; simp only [Act.put, setIfInBounds_toArray, set_cons_zero, set_cons_succ]
        refine tk 42 ?_; simp only [Act.put, setIfInBounds_toArray, set_cons_zero, set_cons_succ]
        refine wpAnyH_done (by kernel_rfl) ?_ _
        -- END
        go_wp2
        go_ret
        first | exact ⟨rfl, hB⟩ | exact ⟨rfl, ⟨hB.os, hB.tape, hB.output, hB.size, hB.block⟩⟩
      · cases b6
        · go_enter Try.func14, Try.ntmps14
          go_upto_region 1 with fail
          generalize w.alloc _ = W at *
          -- REF a6
          refine wp_region_held_drew (S := fun W => W.cell? ⟨w.heap.size, 0, none⟩ = some (.int .i64 ph) ∧ W.cell? ⟨w.heap.size, 1, none⟩ = some (.string im) ∧ W.cell? ⟨w.heap.size, 2, none⟩ = some (.int .i64 bl) ∧ W.cell? ⟨w.heap.size, 3, none⟩ = some (.bool ag) ∧ W.cell? ⟨w.heap.size, 4, none⟩ = some (.int .i64 tr) ∧ W.cell? ⟨w.heap.size, 5, none⟩ = some (.string rd) ∧ W.cell? ⟨w.heap.size, 6, none⟩ = some (.int .i64 rp)) (by kernel_rfl) (by go_keep) (fun hHeld => ?_)
          refine tk 0 ?_; simp only [Act.put, setIfInBounds_toArray, set_cons_zero, set_cons_succ]
          refine tk 1 ?_; simp only [Act.put, setIfInBounds_toArray, set_cons_zero, set_cons_succ]
          refine wpAnyH_ready (rs := [2]) (by kernel_rfl) (by simp) ?_
          refine AllReadyH.cons rfl (fun K hK => ?_) AllReadyH.nil
          go_simp
          ((go_at_call 30; (first | with_reducible refine (C1.out _).mono ?_ | with_reducible refine (C2.out _).mono ?_ | with_reducible refine (C5.out _).mono ?_ | with_reducible refine (C6.out _).mono ?_); rintro e w' ⟨rfl, rfl⟩))
          refine hK.out _ _ (by go_keep) (fun hHeld => ?_)
          clear hK K
          (try simp only [Act.put, setIfInBounds_toArray, set_cons_zero, set_cons_succ])
          refine tk 3 ?_; simp only [Act.put, setIfInBounds_toArray, set_cons_zero, set_cons_succ]
          refine tk 4 ?_; simp only [Act.put, setIfInBounds_toArray, set_cons_zero, set_cons_succ]
          refine tk 5 ?_; simp only [Act.put, setIfInBounds_toArray, set_cons_zero, set_cons_succ]
          refine wpAnyH_ready (rs := [6]) (by kernel_rfl) (by simp) ?_
          refine AllReadyH.cons rfl (fun K hK => ?_) AllReadyH.nil
          go_simp
          ((go_at_call 30; (first | with_reducible refine (C1.out _).mono ?_ | with_reducible refine (C2.out _).mono ?_ | with_reducible refine (C5.out _).mono ?_ | with_reducible refine (C6.out _).mono ?_); rintro e w' ⟨rfl, rfl⟩))
          refine hK.out _ _ (by go_keep) (fun hHeld => ?_)
          clear hK K
          (try simp only [Act.put, setIfInBounds_toArray, set_cons_zero, set_cons_succ])
          refine tk 7 ?_; simp only [Act.put, setIfInBounds_toArray, set_cons_zero, set_cons_succ]
          refine tk 8 ?_; simp only [Act.put, setIfInBounds_toArray, set_cons_zero, set_cons_succ]
          refine tk 9 ?_; simp only [Act.put, setIfInBounds_toArray, set_cons_zero, set_cons_succ]
          refine tk 10 ?_; simp only [Act.put, setIfInBounds_toArray, set_cons_zero, set_cons_succ]
          refine tk 11 ?_; simp only [Act.put, setIfInBounds_toArray, set_cons_zero, set_cons_succ]
          refine tk 12 ?_; simp only [Act.put, setIfInBounds_toArray, set_cons_zero, set_cons_succ]
          refine tk 13 ?_; simp only [Act.put, setIfInBounds_toArray, set_cons_zero, set_cons_succ]
          refine tk 14 ?_; simp only [Act.put, setIfInBounds_toArray, set_cons_zero, set_cons_succ]
          refine tk 15 ?_; simp only [Act.put, setIfInBounds_toArray, set_cons_zero, set_cons_succ]
          refine wpAnyH_ready (rs := [16]) (by kernel_rfl) (by simp) ?_
          refine AllReadyH.cons rfl (fun K hK => ?_) AllReadyH.nil
          go_simp
          ((go_at_call 19; refine (CR.out _).mono ?_; rintro e w' ⟨rfl, hb⟩; replace hB := thenD hb hB rfl rfl rfl rfl; replace hX := sevD hb hX; clear hb))
          refine hK.out _ _ (by go_keep) (fun hHeld => ?_)
          clear hK K
          (try simp only [Act.put, setIfInBounds_toArray, set_cons_zero, set_cons_succ])
          refine tk 17 ?_; simp only [Act.put, setIfInBounds_toArray, set_cons_zero, set_cons_succ]
          refine ts 18 ?_; simp only [Act.put, setIfInBounds_toArray, set_cons_zero, set_cons_succ]
          refine ts 19 ?_; simp only [Act.put, setIfInBounds_toArray, set_cons_zero, set_cons_succ]
          refine ts 20 ?_; simp only [Act.put, setIfInBounds_toArray, set_cons_zero, set_cons_succ]
          refine tk 21 ?_; simp only [Act.put, setIfInBounds_toArray, set_cons_zero, set_cons_succ]
          refine tk 22 ?_; simp only [Act.put, setIfInBounds_toArray, set_cons_zero, set_cons_succ]
          refine tk 23 ?_; simp only [Act.put, setIfInBounds_toArray, set_cons_zero, set_cons_succ]
          refine tk 24 ?_; simp only [Act.put, setIfInBounds_toArray, set_cons_zero, set_cons_succ]
          refine tk 25 ?_; simp only [Act.put, setIfInBounds_toArray, set_cons_zero, set_cons_succ]
          refine tk 26 ?_; simp only [Act.put, setIfInBounds_toArray, set_cons_zero, set_cons_succ]
          refine tk 27 ?_; simp only [Act.put, setIfInBounds_toArray, set_cons_zero, set_cons_succ]
          refine wpAnyH_ready (rs := [28]) (by kernel_rfl) (by simp) ?_
          refine AllReadyH.cons rfl (fun K hK => ?_) AllReadyH.nil
          go_simp
          ((go_at_call 31; refine (CP.out _).mono ?_; rintro e w' ⟨rfl, rfl⟩))
          refine hK.out _ _ (by go_keep) (fun hHeld => ?_)
          clear hK K
          (try simp only [Act.put, setIfInBounds_toArray, set_cons_zero, set_cons_succ])
          refine wpAnyH_ready (rs := [29]) (by kernel_rfl) (by simp) ?_
          refine AllReadyH.cons rfl (fun K hK => ?_) AllReadyH.nil
          go_simp
          ((go_at_call 30; (first | with_reducible refine (C1.out _).mono ?_ | with_reducible refine (C2.out _).mono ?_ | with_reducible refine (C5.out _).mono ?_ | with_reducible refine (C6.out _).mono ?_); rintro e w' ⟨rfl, rfl⟩))
          refine hK.out _ _ (by go_keep) (fun hHeld => ?_)
          clear hK K
          (try simp only [Act.put, setIfInBounds_toArray, set_cons_zero, set_cons_succ])
          refine tk 30 ?_; simp only [Act.put, setIfInBounds_toArray, set_cons_zero, set_cons_succ]
          refine tk 31 ?_; simp only [Act.put, setIfInBounds_toArray, set_cons_zero, set_cons_succ]
          refine tk 32 ?_; simp only [Act.put, setIfInBounds_toArray, set_cons_zero, set_cons_succ]
          refine tk 33 ?_; simp only [Act.put, setIfInBounds_toArray, set_cons_zero, set_cons_succ]
          refine wpAnyH_ready (rs := [34]) (by kernel_rfl) (by simp) ?_
          refine AllReadyH.cons rfl (fun K hK => ?_) AllReadyH.nil
          go_simp
          ((go_at_call 30; (first | with_reducible refine (C1.out _).mono ?_ | with_reducible refine (C2.out _).mono ?_ | with_reducible refine (C5.out _).mono ?_ | with_reducible refine (C6.out _).mono ?_); rintro e w' ⟨rfl, rfl⟩))
          refine hK.out _ _ (by go_keep) (fun hHeld => ?_)
          clear hK K
          (try simp only [Act.put, setIfInBounds_toArray, set_cons_zero, set_cons_succ])
          refine tk 35 ?_; simp only [Act.put, setIfInBounds_toArray, set_cons_zero, set_cons_succ]
          refine tk 36 ?_; simp only [Act.put, setIfInBounds_toArray, set_cons_zero, set_cons_succ]
          refine ts 37 ?_; simp only [Act.put, setIfInBounds_toArray, set_cons_zero, set_cons_succ]
          refine ts 38 ?_; simp only [Act.put, setIfInBounds_toArray, set_cons_zero, set_cons_succ]
          refine ts 39 ?_; simp only [Act.put, setIfInBounds_toArray, set_cons_zero, set_cons_succ]
          refine ts 40 ?_; simp only [Act.put, setIfInBounds_toArray, set_cons_zero, set_cons_succ]
          refine tk 41 ?_; simp only [Act.put, setIfInBounds_toArray, set_cons_zero, set_cons_succ]
          refine tk 42 ?_; simp only [Act.put, setIfInBounds_toArray, set_cons_zero, set_cons_succ]
          refine wpAnyH_done (by kernel_rfl) ?_ _
          -- END
          go_wp2
          go_ret
          first | exact ⟨rfl, hB⟩ | exact ⟨rfl, ⟨hB.os, hB.tape, hB.output, hB.size, hB.block⟩⟩
        · go_enter Try.func14, Try.ntmps14
          go_upto_region 1 with fail
          generalize w.alloc _ = W at *
          -- REF a7
          refine wp_region_held_drew (S := fun W => W.cell? ⟨w.heap.size, 0, none⟩ = some (.int .i64 ph) ∧ W.cell? ⟨w.heap.size, 1, none⟩ = some (.string im) ∧ W.cell? ⟨w.heap.size, 2, none⟩ = some (.int .i64 bl) ∧ W.cell? ⟨w.heap.size, 3, none⟩ = some (.bool ag) ∧ W.cell? ⟨w.heap.size, 4, none⟩ = some (.int .i64 tr) ∧ W.cell? ⟨w.heap.size, 5, none⟩ = some (.string rd) ∧ W.cell? ⟨w.heap.size, 6, none⟩ = some (.int .i64 rp)) (by kernel_rfl) (by go_keep) (fun hHeld => ?_)
          refine tk 0 ?_; simp only [Act.put, setIfInBounds_toArray, set_cons_zero, set_cons_succ]
          refine tk 1 ?_; simp only [Act.put, setIfInBounds_toArray, set_cons_zero, set_cons_succ]
          refine wpAnyH_ready (rs := [2]) (by kernel_rfl) (by simp) ?_
          refine AllReadyH.cons rfl (fun K hK => ?_) AllReadyH.nil
          go_simp
          ((go_at_call 30; (first | with_reducible refine (C1.out _).mono ?_ | with_reducible refine (C2.out _).mono ?_ | with_reducible refine (C5.out _).mono ?_ | with_reducible refine (C6.out _).mono ?_); rintro e w' ⟨rfl, rfl⟩))
          refine hK.out _ _ (by go_keep) (fun hHeld => ?_)
          clear hK K
          (try simp only [Act.put, setIfInBounds_toArray, set_cons_zero, set_cons_succ])
          refine tk 3 ?_; simp only [Act.put, setIfInBounds_toArray, set_cons_zero, set_cons_succ]
          refine tk 4 ?_; simp only [Act.put, setIfInBounds_toArray, set_cons_zero, set_cons_succ]
          refine tk 5 ?_; simp only [Act.put, setIfInBounds_toArray, set_cons_zero, set_cons_succ]
          refine wpAnyH_ready (rs := [6]) (by kernel_rfl) (by simp) ?_
          refine AllReadyH.cons rfl (fun K hK => ?_) AllReadyH.nil
          go_simp
          ((go_at_call 30; (first | with_reducible refine (C1.out _).mono ?_ | with_reducible refine (C2.out _).mono ?_ | with_reducible refine (C5.out _).mono ?_ | with_reducible refine (C6.out _).mono ?_); rintro e w' ⟨rfl, rfl⟩))
          refine hK.out _ _ (by go_keep) (fun hHeld => ?_)
          clear hK K
          (try simp only [Act.put, setIfInBounds_toArray, set_cons_zero, set_cons_succ])
          refine tk 7 ?_; simp only [Act.put, setIfInBounds_toArray, set_cons_zero, set_cons_succ]
          refine tk 8 ?_; simp only [Act.put, setIfInBounds_toArray, set_cons_zero, set_cons_succ]
          refine tk 9 ?_; simp only [Act.put, setIfInBounds_toArray, set_cons_zero, set_cons_succ]
          refine tk 10 ?_; simp only [Act.put, setIfInBounds_toArray, set_cons_zero, set_cons_succ]
          refine tk 11 ?_; simp only [Act.put, setIfInBounds_toArray, set_cons_zero, set_cons_succ]
          refine tk 12 ?_; simp only [Act.put, setIfInBounds_toArray, set_cons_zero, set_cons_succ]
          refine tk 13 ?_; simp only [Act.put, setIfInBounds_toArray, set_cons_zero, set_cons_succ]
          refine tk 14 ?_; simp only [Act.put, setIfInBounds_toArray, set_cons_zero, set_cons_succ]
          refine tk 15 ?_; simp only [Act.put, setIfInBounds_toArray, set_cons_zero, set_cons_succ]
          refine wpAnyH_ready (rs := [16]) (by kernel_rfl) (by simp) ?_
          refine AllReadyH.cons rfl (fun K hK => ?_) AllReadyH.nil
          go_simp
          ((go_at_call 19; refine (CR.out _).mono ?_; rintro e w' ⟨rfl, hb⟩; replace hB := thenD hb hB rfl rfl rfl rfl; replace hX := sevD hb hX; clear hb))
          refine hK.out _ _ (by go_keep) (fun hHeld => ?_)
          clear hK K
          (try simp only [Act.put, setIfInBounds_toArray, set_cons_zero, set_cons_succ])
          refine tk 17 ?_; simp only [Act.put, setIfInBounds_toArray, set_cons_zero, set_cons_succ]
          refine ts 18 ?_; simp only [Act.put, setIfInBounds_toArray, set_cons_zero, set_cons_succ]
          refine ts 19 ?_; simp only [Act.put, setIfInBounds_toArray, set_cons_zero, set_cons_succ]
          refine ts 20 ?_; simp only [Act.put, setIfInBounds_toArray, set_cons_zero, set_cons_succ]
          refine tk 21 ?_; simp only [Act.put, setIfInBounds_toArray, set_cons_zero, set_cons_succ]
          refine tk 22 ?_; simp only [Act.put, setIfInBounds_toArray, set_cons_zero, set_cons_succ]
          refine tk 23 ?_; simp only [Act.put, setIfInBounds_toArray, set_cons_zero, set_cons_succ]
          refine tk 24 ?_; simp only [Act.put, setIfInBounds_toArray, set_cons_zero, set_cons_succ]
          refine tk 25 ?_; simp only [Act.put, setIfInBounds_toArray, set_cons_zero, set_cons_succ]
          refine tk 26 ?_; simp only [Act.put, setIfInBounds_toArray, set_cons_zero, set_cons_succ]
          refine tk 27 ?_; simp only [Act.put, setIfInBounds_toArray, set_cons_zero, set_cons_succ]
          refine wpAnyH_ready (rs := [28]) (by kernel_rfl) (by simp) ?_
          refine AllReadyH.cons rfl (fun K hK => ?_) AllReadyH.nil
          go_simp
          ((go_at_call 31; refine (CP.out _).mono ?_; rintro e w' ⟨rfl, rfl⟩))
          refine hK.out _ _ (by go_keep) (fun hHeld => ?_)
          clear hK K
          (try simp only [Act.put, setIfInBounds_toArray, set_cons_zero, set_cons_succ])
          refine wpAnyH_ready (rs := [29]) (by kernel_rfl) (by simp) ?_
          refine AllReadyH.cons rfl (fun K hK => ?_) AllReadyH.nil
          go_simp
          ((go_at_call 30; (first | with_reducible refine (C1.out _).mono ?_ | with_reducible refine (C2.out _).mono ?_ | with_reducible refine (C5.out _).mono ?_ | with_reducible refine (C6.out _).mono ?_); rintro e w' ⟨rfl, rfl⟩))
          refine hK.out _ _ (by go_keep) (fun hHeld => ?_)
          clear hK K
          (try simp only [Act.put, setIfInBounds_toArray, set_cons_zero, set_cons_succ])
          refine tk 30 ?_; simp only [Act.put, setIfInBounds_toArray, set_cons_zero, set_cons_succ]
          refine tk 31 ?_; simp only [Act.put, setIfInBounds_toArray, set_cons_zero, set_cons_succ]
          refine tk 32 ?_; simp only [Act.put, setIfInBounds_toArray, set_cons_zero, set_cons_succ]
          refine tk 33 ?_; simp only [Act.put, setIfInBounds_toArray, set_cons_zero, set_cons_succ]
          refine wpAnyH_ready (rs := [34]) (by kernel_rfl) (by simp) ?_
          refine AllReadyH.cons rfl (fun K hK => ?_) AllReadyH.nil
          go_simp
          ((go_at_call 30; (first | with_reducible refine (C1.out _).mono ?_ | with_reducible refine (C2.out _).mono ?_ | with_reducible refine (C5.out _).mono ?_ | with_reducible refine (C6.out _).mono ?_); rintro e w' ⟨rfl, rfl⟩))
          refine hK.out _ _ (by go_keep) (fun hHeld => ?_)
          clear hK K
          (try simp only [Act.put, setIfInBounds_toArray, set_cons_zero, set_cons_succ])
          refine tk 35 ?_; simp only [Act.put, setIfInBounds_toArray, set_cons_zero, set_cons_succ]
          refine tk 36 ?_; simp only [Act.put, setIfInBounds_toArray, set_cons_zero, set_cons_succ]
          refine tk 37 ?_; simp only [Act.put, setIfInBounds_toArray, set_cons_zero, set_cons_succ]
          refine tk 38 ?_; simp only [Act.put, setIfInBounds_toArray, set_cons_zero, set_cons_succ]
          refine tk 39 ?_; simp only [Act.put, setIfInBounds_toArray, set_cons_zero, set_cons_succ]
          refine tk 40 ?_; simp only [Act.put, setIfInBounds_toArray, set_cons_zero, set_cons_succ]
          refine tk 41 ?_; simp only [Act.put, setIfInBounds_toArray, set_cons_zero, set_cons_succ]
          refine tk 42 ?_; simp only [Act.put, setIfInBounds_toArray, set_cons_zero, set_cons_succ]
          refine wpAnyH_done (by kernel_rfl) ?_ _
          -- END
          go_wp2
          go_ret
          first | exact ⟨rfl, hB⟩ | exact ⟨rfl, ⟨hB.os, hB.tape, hB.output, hB.size, hB.block⟩⟩
    · replace h5 := not_empty h5
      cases b5
      · clear C6
        go_enter Try.func14, Try.ntmps14
        go_upto_region 1 with fail
        generalize w.alloc _ = W at *
        -- REF b5
        refine wp_region_held_drew (S := fun W => W.cell? ⟨w.heap.size, 0, none⟩ = some (.int .i64 ph) ∧ W.cell? ⟨w.heap.size, 1, none⟩ = some (.string im) ∧ W.cell? ⟨w.heap.size, 2, none⟩ = some (.int .i64 bl) ∧ W.cell? ⟨w.heap.size, 3, none⟩ = some (.bool ag) ∧ W.cell? ⟨w.heap.size, 4, none⟩ = some (.int .i64 tr) ∧ W.cell? ⟨w.heap.size, 5, none⟩ = some (.string rd) ∧ W.cell? ⟨w.heap.size, 6, none⟩ = some (.int .i64 rp)) (by kernel_rfl) (by go_keep) (fun hHeld => ?_)
        refine tk 0 ?_; simp only [Act.put, setIfInBounds_toArray, set_cons_zero, set_cons_succ]
        refine tk 1 ?_; simp only [Act.put, setIfInBounds_toArray, set_cons_zero, set_cons_succ]
        refine wpAnyH_ready (rs := [2]) (by kernel_rfl) (by simp) ?_
        refine AllReadyH.cons rfl (fun K hK => ?_) AllReadyH.nil
        go_simp
        ((go_at_call 30; (first | with_reducible refine (C1.out _).mono ?_ | with_reducible refine (C2.out _).mono ?_ | with_reducible refine (C5.out _).mono ?_ | with_reducible refine (C6.out _).mono ?_); rintro e w' ⟨rfl, rfl⟩))
        refine hK.out _ _ (by go_keep) (fun hHeld => ?_)
        clear hK K
        (try simp only [Act.put, setIfInBounds_toArray, set_cons_zero, set_cons_succ])
        refine tk 3 ?_; simp only [Act.put, setIfInBounds_toArray, set_cons_zero, set_cons_succ]
        refine tk 4 ?_; simp only [Act.put, setIfInBounds_toArray, set_cons_zero, set_cons_succ]
        refine tk 5 ?_; simp only [Act.put, setIfInBounds_toArray, set_cons_zero, set_cons_succ]
        refine wpAnyH_ready (rs := [6]) (by kernel_rfl) (by simp) ?_
        refine AllReadyH.cons rfl (fun K hK => ?_) AllReadyH.nil
        go_simp
        ((go_at_call 30; (first | with_reducible refine (C1.out _).mono ?_ | with_reducible refine (C2.out _).mono ?_ | with_reducible refine (C5.out _).mono ?_ | with_reducible refine (C6.out _).mono ?_); rintro e w' ⟨rfl, rfl⟩))
        refine hK.out _ _ (by go_keep) (fun hHeld => ?_)
        clear hK K
        (try simp only [Act.put, setIfInBounds_toArray, set_cons_zero, set_cons_succ])
        refine tk 7 ?_; simp only [Act.put, setIfInBounds_toArray, set_cons_zero, set_cons_succ]
        refine tk 8 ?_; simp only [Act.put, setIfInBounds_toArray, set_cons_zero, set_cons_succ]
        refine tk 9 ?_; simp only [Act.put, setIfInBounds_toArray, set_cons_zero, set_cons_succ]
        refine tk 10 ?_; simp only [Act.put, setIfInBounds_toArray, set_cons_zero, set_cons_succ]
        refine tk 11 ?_; simp only [Act.put, setIfInBounds_toArray, set_cons_zero, set_cons_succ]
        refine tk 12 ?_; simp only [Act.put, setIfInBounds_toArray, set_cons_zero, set_cons_succ]
        refine tk 13 ?_; simp only [Act.put, setIfInBounds_toArray, set_cons_zero, set_cons_succ]
        refine tk 14 ?_; simp only [Act.put, setIfInBounds_toArray, set_cons_zero, set_cons_succ]
        refine tk 15 ?_; simp only [Act.put, setIfInBounds_toArray, set_cons_zero, set_cons_succ]
        refine wpAnyH_ready (rs := [16]) (by kernel_rfl) (by simp) ?_
        refine AllReadyH.cons rfl (fun K hK => ?_) AllReadyH.nil
        go_simp
        ((go_at_call 19; refine (CR.out _).mono ?_; rintro e w' ⟨rfl, hb⟩; replace hB := thenD hb hB rfl rfl rfl rfl; replace hX := sevD hb hX; clear hb))
        refine hK.out _ _ (by go_keep) (fun hHeld => ?_)
        clear hK K
        (try simp only [Act.put, setIfInBounds_toArray, set_cons_zero, set_cons_succ])
        refine tk 17 ?_; simp only [Act.put, setIfInBounds_toArray, set_cons_zero, set_cons_succ]
        refine tk 18 ?_; simp only [Act.put, setIfInBounds_toArray, set_cons_zero, set_cons_succ]
        refine tk 19 ?_; simp only [Act.put, setIfInBounds_toArray, set_cons_zero, set_cons_succ]
        refine tk 20 ?_; simp only [Act.put, setIfInBounds_toArray, set_cons_zero, set_cons_succ]
        refine tk 21 ?_; simp only [Act.put, setIfInBounds_toArray, set_cons_zero, set_cons_succ]
        refine tk 22 ?_; simp only [Act.put, setIfInBounds_toArray, set_cons_zero, set_cons_succ]
        refine tk 23 ?_; simp only [Act.put, setIfInBounds_toArray, set_cons_zero, set_cons_succ]
        refine tk 24 ?_; simp only [Act.put, setIfInBounds_toArray, set_cons_zero, set_cons_succ]
        refine tk 25 ?_; simp only [Act.put, setIfInBounds_toArray, set_cons_zero, set_cons_succ]
        refine tk 26 ?_; simp only [Act.put, setIfInBounds_toArray, set_cons_zero, set_cons_succ]
        refine tk 27 ?_; simp only [Act.put, setIfInBounds_toArray, set_cons_zero, set_cons_succ]
        refine wpAnyH_ready (rs := [28]) (by kernel_rfl) (by simp) ?_
        refine AllReadyH.cons rfl (fun K hK => ?_) AllReadyH.nil
        go_simp
        ((go_at_call 31; refine (CP.out _).mono ?_; rintro e w' ⟨rfl, rfl⟩))
        refine hK.out _ _ (by go_keep) (fun hHeld => ?_)
        clear hK K
        (try simp only [Act.put, setIfInBounds_toArray, set_cons_zero, set_cons_succ])
        refine wpAnyH_ready (rs := [29]) (by kernel_rfl) (by simp) ?_
        refine AllReadyH.cons rfl (fun K hK => ?_) AllReadyH.nil
        go_simp
        ((go_at_call 30; (first | with_reducible refine (C1.out _).mono ?_ | with_reducible refine (C2.out _).mono ?_ | with_reducible refine (C5.out _).mono ?_ | with_reducible refine (C6.out _).mono ?_); rintro e w' ⟨rfl, rfl⟩))
        refine hK.out _ _ (by go_keep) (fun hHeld => ?_)
        clear hK K
        (try simp only [Act.put, setIfInBounds_toArray, set_cons_zero, set_cons_succ])
        refine tk 30 ?_; simp only [Act.put, setIfInBounds_toArray, set_cons_zero, set_cons_succ]
        refine tk 31 ?_; simp only [Act.put, setIfInBounds_toArray, set_cons_zero, set_cons_succ]
        refine ts 32 ?_; simp only [Act.put, setIfInBounds_toArray, set_cons_zero, set_cons_succ]
        refine ts 33 ?_; simp only [Act.put, setIfInBounds_toArray, set_cons_zero, set_cons_succ]
        refine ts 34 ?_; simp only [Act.put, setIfInBounds_toArray, set_cons_zero, set_cons_succ]
        refine tk 35 ?_; simp only [Act.put, setIfInBounds_toArray, set_cons_zero, set_cons_succ]
        refine tk 36 ?_; simp only [Act.put, setIfInBounds_toArray, set_cons_zero, set_cons_succ]
        refine ts 37 ?_; simp only [Act.put, setIfInBounds_toArray, set_cons_zero, set_cons_succ]
        refine ts 38 ?_; simp only [Act.put, setIfInBounds_toArray, set_cons_zero, set_cons_succ]
        refine ts 39 ?_; simp only [Act.put, setIfInBounds_toArray, set_cons_zero, set_cons_succ]
        refine ts 40 ?_; simp only [Act.put, setIfInBounds_toArray, set_cons_zero, set_cons_succ]
        refine tk 41 ?_; simp only [Act.put, setIfInBounds_toArray, set_cons_zero, set_cons_succ]
        refine tk 42 ?_; simp only [Act.put, setIfInBounds_toArray, set_cons_zero, set_cons_succ]
        refine wpAnyH_done (by kernel_rfl) ?_ _
        -- END
        go_wp2
        go_ret
        first | exact ⟨rfl, hB⟩ | exact ⟨rfl, ⟨hB.os, hB.tape, hB.output, hB.size, hB.block⟩⟩
      · cases b6
        · go_enter Try.func14, Try.ntmps14
          go_upto_region 1 with fail
          generalize w.alloc _ = W at *
          -- REF b6
          refine wp_region_held_drew (S := fun W => W.cell? ⟨w.heap.size, 0, none⟩ = some (.int .i64 ph) ∧ W.cell? ⟨w.heap.size, 1, none⟩ = some (.string im) ∧ W.cell? ⟨w.heap.size, 2, none⟩ = some (.int .i64 bl) ∧ W.cell? ⟨w.heap.size, 3, none⟩ = some (.bool ag) ∧ W.cell? ⟨w.heap.size, 4, none⟩ = some (.int .i64 tr) ∧ W.cell? ⟨w.heap.size, 5, none⟩ = some (.string rd) ∧ W.cell? ⟨w.heap.size, 6, none⟩ = some (.int .i64 rp)) (by kernel_rfl) (by go_keep) (fun hHeld => ?_)
          refine tk 0 ?_; simp only [Act.put, setIfInBounds_toArray, set_cons_zero, set_cons_succ]
          refine tk 1 ?_; simp only [Act.put, setIfInBounds_toArray, set_cons_zero, set_cons_succ]
          refine wpAnyH_ready (rs := [2]) (by kernel_rfl) (by simp) ?_
          refine AllReadyH.cons rfl (fun K hK => ?_) AllReadyH.nil
          go_simp
          ((go_at_call 30; (first | with_reducible refine (C1.out _).mono ?_ | with_reducible refine (C2.out _).mono ?_ | with_reducible refine (C5.out _).mono ?_ | with_reducible refine (C6.out _).mono ?_); rintro e w' ⟨rfl, rfl⟩))
          refine hK.out _ _ (by go_keep) (fun hHeld => ?_)
          clear hK K
          (try simp only [Act.put, setIfInBounds_toArray, set_cons_zero, set_cons_succ])
          refine tk 3 ?_; simp only [Act.put, setIfInBounds_toArray, set_cons_zero, set_cons_succ]
          refine tk 4 ?_; simp only [Act.put, setIfInBounds_toArray, set_cons_zero, set_cons_succ]
          refine tk 5 ?_; simp only [Act.put, setIfInBounds_toArray, set_cons_zero, set_cons_succ]
          refine wpAnyH_ready (rs := [6]) (by kernel_rfl) (by simp) ?_
          refine AllReadyH.cons rfl (fun K hK => ?_) AllReadyH.nil
          go_simp
          ((go_at_call 30; (first | with_reducible refine (C1.out _).mono ?_ | with_reducible refine (C2.out _).mono ?_ | with_reducible refine (C5.out _).mono ?_ | with_reducible refine (C6.out _).mono ?_); rintro e w' ⟨rfl, rfl⟩))
          refine hK.out _ _ (by go_keep) (fun hHeld => ?_)
          clear hK K
          (try simp only [Act.put, setIfInBounds_toArray, set_cons_zero, set_cons_succ])
          refine tk 7 ?_; simp only [Act.put, setIfInBounds_toArray, set_cons_zero, set_cons_succ]
          refine tk 8 ?_; simp only [Act.put, setIfInBounds_toArray, set_cons_zero, set_cons_succ]
          refine tk 9 ?_; simp only [Act.put, setIfInBounds_toArray, set_cons_zero, set_cons_succ]
          refine tk 10 ?_; simp only [Act.put, setIfInBounds_toArray, set_cons_zero, set_cons_succ]
          refine tk 11 ?_; simp only [Act.put, setIfInBounds_toArray, set_cons_zero, set_cons_succ]
          refine tk 12 ?_; simp only [Act.put, setIfInBounds_toArray, set_cons_zero, set_cons_succ]
          refine tk 13 ?_; simp only [Act.put, setIfInBounds_toArray, set_cons_zero, set_cons_succ]
          refine tk 14 ?_; simp only [Act.put, setIfInBounds_toArray, set_cons_zero, set_cons_succ]
          refine tk 15 ?_; simp only [Act.put, setIfInBounds_toArray, set_cons_zero, set_cons_succ]
          refine wpAnyH_ready (rs := [16]) (by kernel_rfl) (by simp) ?_
          refine AllReadyH.cons rfl (fun K hK => ?_) AllReadyH.nil
          go_simp
          ((go_at_call 19; refine (CR.out _).mono ?_; rintro e w' ⟨rfl, hb⟩; replace hB := thenD hb hB rfl rfl rfl rfl; replace hX := sevD hb hX; clear hb))
          refine hK.out _ _ (by go_keep) (fun hHeld => ?_)
          clear hK K
          (try simp only [Act.put, setIfInBounds_toArray, set_cons_zero, set_cons_succ])
          refine tk 17 ?_; simp only [Act.put, setIfInBounds_toArray, set_cons_zero, set_cons_succ]
          refine tk 18 ?_; simp only [Act.put, setIfInBounds_toArray, set_cons_zero, set_cons_succ]
          refine tk 19 ?_; simp only [Act.put, setIfInBounds_toArray, set_cons_zero, set_cons_succ]
          refine tk 20 ?_; simp only [Act.put, setIfInBounds_toArray, set_cons_zero, set_cons_succ]
          refine tk 21 ?_; simp only [Act.put, setIfInBounds_toArray, set_cons_zero, set_cons_succ]
          refine tk 22 ?_; simp only [Act.put, setIfInBounds_toArray, set_cons_zero, set_cons_succ]
          refine tk 23 ?_; simp only [Act.put, setIfInBounds_toArray, set_cons_zero, set_cons_succ]
          refine tk 24 ?_; simp only [Act.put, setIfInBounds_toArray, set_cons_zero, set_cons_succ]
          refine tk 25 ?_; simp only [Act.put, setIfInBounds_toArray, set_cons_zero, set_cons_succ]
          refine tk 26 ?_; simp only [Act.put, setIfInBounds_toArray, set_cons_zero, set_cons_succ]
          refine tk 27 ?_; simp only [Act.put, setIfInBounds_toArray, set_cons_zero, set_cons_succ]
          refine wpAnyH_ready (rs := [28]) (by kernel_rfl) (by simp) ?_
          refine AllReadyH.cons rfl (fun K hK => ?_) AllReadyH.nil
          go_simp
          ((go_at_call 31; refine (CP.out _).mono ?_; rintro e w' ⟨rfl, rfl⟩))
          refine hK.out _ _ (by go_keep) (fun hHeld => ?_)
          clear hK K
          (try simp only [Act.put, setIfInBounds_toArray, set_cons_zero, set_cons_succ])
          refine wpAnyH_ready (rs := [29]) (by kernel_rfl) (by simp) ?_
          refine AllReadyH.cons rfl (fun K hK => ?_) AllReadyH.nil
          go_simp
          ((go_at_call 30; (first | with_reducible refine (C1.out _).mono ?_ | with_reducible refine (C2.out _).mono ?_ | with_reducible refine (C5.out _).mono ?_ | with_reducible refine (C6.out _).mono ?_); rintro e w' ⟨rfl, rfl⟩))
          refine hK.out _ _ (by go_keep) (fun hHeld => ?_)
          clear hK K
          (try simp only [Act.put, setIfInBounds_toArray, set_cons_zero, set_cons_succ])
          refine tk 30 ?_; simp only [Act.put, setIfInBounds_toArray, set_cons_zero, set_cons_succ]
          refine tk 31 ?_; simp only [Act.put, setIfInBounds_toArray, set_cons_zero, set_cons_succ]
          refine tk 32 ?_; simp only [Act.put, setIfInBounds_toArray, set_cons_zero, set_cons_succ]
          refine tk 33 ?_; simp only [Act.put, setIfInBounds_toArray, set_cons_zero, set_cons_succ]
          refine wpAnyH_ready (rs := [34]) (by kernel_rfl) (by simp) ?_
          refine AllReadyH.cons rfl (fun K hK => ?_) AllReadyH.nil
          go_simp
          ((go_at_call 30; (first | with_reducible refine (C1.out _).mono ?_ | with_reducible refine (C2.out _).mono ?_ | with_reducible refine (C5.out _).mono ?_ | with_reducible refine (C6.out _).mono ?_); rintro e w' ⟨rfl, rfl⟩))
          refine hK.out _ _ (by go_keep) (fun hHeld => ?_)
          clear hK K
          (try simp only [Act.put, setIfInBounds_toArray, set_cons_zero, set_cons_succ])
          refine tk 35 ?_; simp only [Act.put, setIfInBounds_toArray, set_cons_zero, set_cons_succ]
          refine tk 36 ?_; simp only [Act.put, setIfInBounds_toArray, set_cons_zero, set_cons_succ]
          refine ts 37 ?_; simp only [Act.put, setIfInBounds_toArray, set_cons_zero, set_cons_succ]
          refine ts 38 ?_; simp only [Act.put, setIfInBounds_toArray, set_cons_zero, set_cons_succ]
          refine ts 39 ?_; simp only [Act.put, setIfInBounds_toArray, set_cons_zero, set_cons_succ]
          refine ts 40 ?_; simp only [Act.put, setIfInBounds_toArray, set_cons_zero, set_cons_succ]
          refine tk 41 ?_; simp only [Act.put, setIfInBounds_toArray, set_cons_zero, set_cons_succ]
          refine tk 42 ?_; simp only [Act.put, setIfInBounds_toArray, set_cons_zero, set_cons_succ]
          refine wpAnyH_done (by kernel_rfl) ?_ _
          -- END
          go_wp2
          go_ret
          first | exact ⟨rfl, hB⟩ | exact ⟨rfl, ⟨hB.os, hB.tape, hB.output, hB.size, hB.block⟩⟩
        · go_enter Try.func14, Try.ntmps14
          go_upto_region 1 with fail
          generalize w.alloc _ = W at *
          -- REF b7
          refine wp_region_held_drew (S := fun W => W.cell? ⟨w.heap.size, 0, none⟩ = some (.int .i64 ph) ∧ W.cell? ⟨w.heap.size, 1, none⟩ = some (.string im) ∧ W.cell? ⟨w.heap.size, 2, none⟩ = some (.int .i64 bl) ∧ W.cell? ⟨w.heap.size, 3, none⟩ = some (.bool ag) ∧ W.cell? ⟨w.heap.size, 4, none⟩ = some (.int .i64 tr) ∧ W.cell? ⟨w.heap.size, 5, none⟩ = some (.string rd) ∧ W.cell? ⟨w.heap.size, 6, none⟩ = some (.int .i64 rp)) (by kernel_rfl) (by go_keep) (fun hHeld => ?_)
          refine tk 0 ?_; simp only [Act.put, setIfInBounds_toArray, set_cons_zero, set_cons_succ]
          refine tk 1 ?_; simp only [Act.put, setIfInBounds_toArray, set_cons_zero, set_cons_succ]
          refine wpAnyH_ready (rs := [2]) (by kernel_rfl) (by simp) ?_
          refine AllReadyH.cons rfl (fun K hK => ?_) AllReadyH.nil
          go_simp
          ((go_at_call 30; (first | with_reducible refine (C1.out _).mono ?_ | with_reducible refine (C2.out _).mono ?_ | with_reducible refine (C5.out _).mono ?_ | with_reducible refine (C6.out _).mono ?_); rintro e w' ⟨rfl, rfl⟩))
          refine hK.out _ _ (by go_keep) (fun hHeld => ?_)
          clear hK K
          (try simp only [Act.put, setIfInBounds_toArray, set_cons_zero, set_cons_succ])
          refine tk 3 ?_; simp only [Act.put, setIfInBounds_toArray, set_cons_zero, set_cons_succ]
          refine tk 4 ?_; simp only [Act.put, setIfInBounds_toArray, set_cons_zero, set_cons_succ]
          refine tk 5 ?_; simp only [Act.put, setIfInBounds_toArray, set_cons_zero, set_cons_succ]
          refine wpAnyH_ready (rs := [6]) (by kernel_rfl) (by simp) ?_
          refine AllReadyH.cons rfl (fun K hK => ?_) AllReadyH.nil
          go_simp
          ((go_at_call 30; (first | with_reducible refine (C1.out _).mono ?_ | with_reducible refine (C2.out _).mono ?_ | with_reducible refine (C5.out _).mono ?_ | with_reducible refine (C6.out _).mono ?_); rintro e w' ⟨rfl, rfl⟩))
          refine hK.out _ _ (by go_keep) (fun hHeld => ?_)
          clear hK K
          (try simp only [Act.put, setIfInBounds_toArray, set_cons_zero, set_cons_succ])
          refine tk 7 ?_; simp only [Act.put, setIfInBounds_toArray, set_cons_zero, set_cons_succ]
          refine tk 8 ?_; simp only [Act.put, setIfInBounds_toArray, set_cons_zero, set_cons_succ]
          refine tk 9 ?_; simp only [Act.put, setIfInBounds_toArray, set_cons_zero, set_cons_succ]
          refine tk 10 ?_; simp only [Act.put, setIfInBounds_toArray, set_cons_zero, set_cons_succ]
          refine tk 11 ?_; simp only [Act.put, setIfInBounds_toArray, set_cons_zero, set_cons_succ]
          refine tk 12 ?_; simp only [Act.put, setIfInBounds_toArray, set_cons_zero, set_cons_succ]
          refine tk 13 ?_; simp only [Act.put, setIfInBounds_toArray, set_cons_zero, set_cons_succ]
          refine tk 14 ?_; simp only [Act.put, setIfInBounds_toArray, set_cons_zero, set_cons_succ]
          refine tk 15 ?_; simp only [Act.put, setIfInBounds_toArray, set_cons_zero, set_cons_succ]
          refine wpAnyH_ready (rs := [16]) (by kernel_rfl) (by simp) ?_
          refine AllReadyH.cons rfl (fun K hK => ?_) AllReadyH.nil
          go_simp
          ((go_at_call 19; refine (CR.out _).mono ?_; rintro e w' ⟨rfl, hb⟩; replace hB := thenD hb hB rfl rfl rfl rfl; replace hX := sevD hb hX; clear hb))
          refine hK.out _ _ (by go_keep) (fun hHeld => ?_)
          clear hK K
          (try simp only [Act.put, setIfInBounds_toArray, set_cons_zero, set_cons_succ])
          refine tk 17 ?_; simp only [Act.put, setIfInBounds_toArray, set_cons_zero, set_cons_succ]
          refine tk 18 ?_; simp only [Act.put, setIfInBounds_toArray, set_cons_zero, set_cons_succ]
          refine tk 19 ?_; simp only [Act.put, setIfInBounds_toArray, set_cons_zero, set_cons_succ]
          refine tk 20 ?_; simp only [Act.put, setIfInBounds_toArray, set_cons_zero, set_cons_succ]
          refine tk 21 ?_; simp only [Act.put, setIfInBounds_toArray, set_cons_zero, set_cons_succ]
          refine tk 22 ?_; simp only [Act.put, setIfInBounds_toArray, set_cons_zero, set_cons_succ]
          refine tk 23 ?_; simp only [Act.put, setIfInBounds_toArray, set_cons_zero, set_cons_succ]
          refine tk 24 ?_; simp only [Act.put, setIfInBounds_toArray, set_cons_zero, set_cons_succ]
          refine tk 25 ?_; simp only [Act.put, setIfInBounds_toArray, set_cons_zero, set_cons_succ]
          refine tk 26 ?_; simp only [Act.put, setIfInBounds_toArray, set_cons_zero, set_cons_succ]
          refine tk 27 ?_; simp only [Act.put, setIfInBounds_toArray, set_cons_zero, set_cons_succ]
          refine wpAnyH_ready (rs := [28]) (by kernel_rfl) (by simp) ?_
          refine AllReadyH.cons rfl (fun K hK => ?_) AllReadyH.nil
          go_simp
          ((go_at_call 31; refine (CP.out _).mono ?_; rintro e w' ⟨rfl, rfl⟩))
          refine hK.out _ _ (by go_keep) (fun hHeld => ?_)
          clear hK K
          (try simp only [Act.put, setIfInBounds_toArray, set_cons_zero, set_cons_succ])
          refine wpAnyH_ready (rs := [29]) (by kernel_rfl) (by simp) ?_
          refine AllReadyH.cons rfl (fun K hK => ?_) AllReadyH.nil
          go_simp
          ((go_at_call 30; (first | with_reducible refine (C1.out _).mono ?_ | with_reducible refine (C2.out _).mono ?_ | with_reducible refine (C5.out _).mono ?_ | with_reducible refine (C6.out _).mono ?_); rintro e w' ⟨rfl, rfl⟩))
          refine hK.out _ _ (by go_keep) (fun hHeld => ?_)
          clear hK K
          (try simp only [Act.put, setIfInBounds_toArray, set_cons_zero, set_cons_succ])
          refine tk 30 ?_; simp only [Act.put, setIfInBounds_toArray, set_cons_zero, set_cons_succ]
          refine tk 31 ?_; simp only [Act.put, setIfInBounds_toArray, set_cons_zero, set_cons_succ]
          refine tk 32 ?_; simp only [Act.put, setIfInBounds_toArray, set_cons_zero, set_cons_succ]
          refine tk 33 ?_; simp only [Act.put, setIfInBounds_toArray, set_cons_zero, set_cons_succ]
          refine wpAnyH_ready (rs := [34]) (by kernel_rfl) (by simp) ?_
          refine AllReadyH.cons rfl (fun K hK => ?_) AllReadyH.nil
          go_simp
          ((go_at_call 30; (first | with_reducible refine (C1.out _).mono ?_ | with_reducible refine (C2.out _).mono ?_ | with_reducible refine (C5.out _).mono ?_ | with_reducible refine (C6.out _).mono ?_); rintro e w' ⟨rfl, rfl⟩))
          refine hK.out _ _ (by go_keep) (fun hHeld => ?_)
          clear hK K
          (try simp only [Act.put, setIfInBounds_toArray, set_cons_zero, set_cons_succ])
          refine tk 35 ?_; simp only [Act.put, setIfInBounds_toArray, set_cons_zero, set_cons_succ]
          refine tk 36 ?_; simp only [Act.put, setIfInBounds_toArray, set_cons_zero, set_cons_succ]
          refine tk 37 ?_; simp only [Act.put, setIfInBounds_toArray, set_cons_zero, set_cons_succ]
          refine tk 38 ?_; simp only [Act.put, setIfInBounds_toArray, set_cons_zero, set_cons_succ]
          refine tk 39 ?_; simp only [Act.put, setIfInBounds_toArray, set_cons_zero, set_cons_succ]
          refine tk 40 ?_; simp only [Act.put, setIfInBounds_toArray, set_cons_zero, set_cons_succ]
          refine tk 41 ?_; simp only [Act.put, setIfInBounds_toArray, set_cons_zero, set_cons_succ]
          refine tk 42 ?_; simp only [Act.put, setIfInBounds_toArray, set_cons_zero, set_cons_succ]
          refine wpAnyH_done (by kernel_rfl) ?_ _
          -- END
          go_wp2
          go_ret
          first | exact ⟨rfl, hB⟩ | exact ⟨rfl, ⟨hB.os, hB.tape, hB.output, hB.size, hB.block⟩⟩
end Go.Proofs.Ytgkmallikomnaaa.HstRef

/- The document's own answers to package host: what a host begins with, what it asks; of what was there nothing has turned. -/
namespace Go.Proofs.Ytgkmallikomnaaa.HstRefs
open Go.Proofs.Ytgkmallikomnaaa Go.RowKit Go.Proofs.Ytgkmallikomnaaa.Bytes Go.Proofs.Ytgkmallikomnaaa.NorWalk Go.Proofs.Ytgkmallikomnaaa.Suf Go.Proofs.Ytgkmallikomnaaa.Idt Go.Proofs.Ytgkmallikomnaaa.Sup Go.Proofs.Ytgkmallikomnaaa.Hst Go.Proofs.Ytgkmallikomnaaa.HstWalk Go.Proofs.Ytgkmallikomnaaa.HstAsk Go.Proofs.Ytgkmallikomnaaa.HstHost Go.Proofs.Ytgkmallikomnaaa.HstRef
open Go.Proofs.Ytgkmallikomnaaa.SetWalk (resM resB set3)
open Go.Proofs.Ytgkmallikomnaaa.OpsRow (boxM boxB boxD thenD)
open Go.Proofs.Ytgkmallikomnaaa.SufRef (refParse_any)
open Go.Proofs.Ytgkmallikomnaaa.IdtWalk (refMatch_any ridsMay_any)

open Go.Proofs.Ytgkmallikomnaaa.BloWalk (run_min2)
open Go.Proofs.Ytgkmallikomnaaa.Blo (nP pieceS)
attribute [local go_sem ↓] Go.wp_at_zero Go.wp_at_succ

set_option maxRecDepth 100000 in
set_option maxHeartbeats 4000000 in
theorem refStart_any (f : ByteArray) (v p r : Int) (w : World) (hs : f.size < 9223372036854775808) : Calls Try.prog 29 #[.string f, .agg #[.int .i64 v, .int .i64 p, .int .i64 r]] w (Begun w (stP f v p r) (stI f v p r) (stR f v p r) (errH (idsB v p r))) := by
  obtain ⟨W, hW, hX, hR, hB⟩ := start_boxes w (.int .i64 v) (.int .i64 p) (.int .i64 r)
  have b1 := build_h0
  have b2 := build_h7
  have b3 := build_h1
  have HI := hide (fun w => ridsMay_any v p r w)
  have HP := hide (fun w => refParse_any f w hs)
  have HM := hide (fun w => refMatch_any (parV f) (parP f) (parR f) v p r w)
  have hT : toB f v p r = true → toS f v p r = parI f := toS_t
  have hw := st_ways f v p r
  have hv := to_ways f v p r
  clear hs
  unfold Begun
  generalize errM (mtOk (parV f) (parP f) (parR f) v p r) = E2 at *
  generalize mtB (parV f) (parP f) (parR f) v p r = M at *
  generalize parV f = V at *
  generalize parP f = Q at *
  generalize parR f = R at *
  generalize errQ f = E at *
  generalize idsB v p r = D at *
  rcases hw with ⟨rfl, h1, h2, h3, h4⟩ | ⟨rfl, g2, h1, h2, h3, h4⟩ | ⟨rfl, g2, h1, h2, h3, h4⟩
  · rw [h1, h2, h3, h4]
    clear h1 h2 h3 h4 hT HP HM hv
    subst hW
    go_enter Try.func29, Try.ntmps29
    go_upto_region 1 with fail
    generalize (w.alloc _).alloc _ = W at *
    go_wp2_with (go_at_call 45; refine (HI.out _).mono ?_; rintro e w1 ⟨rfl, hb⟩; replace hB := thenB hB hb; replace hX := boxB hX hb; replace hR := sevRB hR hb; clear hb)
    exact bodyPost_ret (v := .tuple #[.agg #[.int .i64 0, .string ⟨#[]⟩, .int .i64 0, .bool false, .int .i64 0, .string ⟨#[]⟩, .int .i64 0], .int .i64 2200]) (by simp [results, Try.results29, go_sem, hR]) rfl ⟨rfl, set7 hB (Nat.le_succ _)⟩
  · rw [h1, h2, h3, h4]
    clear h1 h2 h3 h4 hT
    rw [g2] at hv
    generalize toS f v p r = T at *
    generalize parI f = J at *
    rcases hv with ⟨k1, -, -⟩ | ⟨rfl, rfl, -, -⟩ | ⟨-, -, -, -, k⟩
    · subst hW
      go_enter Try.func29, Try.ntmps29
      go_upto_region 1 with fail
      generalize (w.alloc _).alloc _ = W at *
      go_upto_region 4 with (first | (go_at_call 45; refine (HI.out _).mono ?_; rintro e w1 ⟨rfl, hb⟩; replace hB := thenB hB hb; replace hX := boxB hX hb; replace hR := sevRB hR hb; clear hb) | (go_at_call 47; refine (HP.out _).mono ?_; rintro e w2 ⟨rfl, hb⟩; replace hB := thenB (thenB hB hb) (hal w2 (.cells #[.int .i64 V, .int .i64 Q, .int .i64 R] 58)); replace hX := boxB (boxB hX hb) (hal w2 (.cells #[.int .i64 V, .int .i64 Q, .int .i64 R] 58)); replace hR := sevRB (sevRB hR hb) (hal w2 (.cells #[.int .i64 V, .int .i64 Q, .int .i64 R] 58)); have hY := boxM w2 (.int .i64 V) (.int .i64 Q) (.int .i64 R) 58; clear hb))
      generalize w2.alloc _ = W2 at *
      go_wp2_with (go_at_call 48; refine (HM.out _).mono ?_; rintro e w3 ⟨rfl, hb⟩; replace hB := thenB hB hb; replace hR := sevRB hR hb; clear hb)
      exact bodyPost_ret (v := .tuple #[.agg #[.int .i64 7, .string ⟨#[]⟩, .int .i64 0, .bool false, .int .i64 0, .string ⟨#[]⟩, .int .i64 3], .int .i64 0]) (by simp [results, Try.results29, go_sem, hR]) rfl ⟨rfl, set7 hB (Nat.le_succ _)⟩
    · subst hW
      go_enter Try.func29, Try.ntmps29
      go_upto_region 1 with fail
      generalize (w.alloc _).alloc _ = W at *
      go_upto_region 4 with (first | (go_at_call 45; refine (HI.out _).mono ?_; rintro e w1 ⟨rfl, hb⟩; replace hB := thenB hB hb; replace hX := boxB hX hb; replace hR := sevRB hR hb; clear hb) | (go_at_call 47; refine (HP.out _).mono ?_; rintro e w2 ⟨rfl, hb⟩; replace hB := thenB (thenB hB hb) (hal w2 (.cells #[.int .i64 V, .int .i64 Q, .int .i64 R] 58)); replace hX := boxB (boxB hX hb) (hal w2 (.cells #[.int .i64 V, .int .i64 Q, .int .i64 R] 58)); replace hR := sevRB (sevRB hR hb) (hal w2 (.cells #[.int .i64 V, .int .i64 Q, .int .i64 R] 58)); have hY := boxM w2 (.int .i64 V) (.int .i64 Q) (.int .i64 R) 58; clear hb))
      generalize w2.alloc _ = W2 at *
      go_wp2_with (go_at_call 48; refine (HM.out _).mono ?_; rintro e w3 ⟨rfl, hb⟩; replace hB := thenB hB hb; replace hR := sevRB hR hb; clear hb)
      exact bodyPost_ret (v := .tuple #[.agg #[.int .i64 7, .string ⟨#[]⟩, .int .i64 0, .bool false, .int .i64 0, .string ⟨#[]⟩, .int .i64 3], .int .i64 0]) (by simp [results, Try.results29, go_sem, hR]) rfl ⟨rfl, set7 hB (Nat.le_succ _)⟩
    · cases k
  · rw [h1, h2, h3, h4]
    clear h1 h2 h3 h4 hT
    rw [g2] at hv
    generalize toS f v p r = T at *
    generalize parI f = J at *
    rcases hv with ⟨-, -, k⟩ | ⟨-, -, -, k⟩ | ⟨rfl, rfl, -, -, -⟩
    · cases k
    · cases k
    · subst hW
      go_enter Try.func29, Try.ntmps29
      go_upto_region 1 with fail
      generalize (w.alloc _).alloc _ = W at *
      go_upto_region 4 with (first | (go_at_call 45; refine (HI.out _).mono ?_; rintro e w1 ⟨rfl, hb⟩; replace hB := thenB hB hb; replace hX := boxB hX hb; replace hR := sevRB hR hb; clear hb) | (go_at_call 47; refine (HP.out _).mono ?_; rintro e w2 ⟨rfl, hb⟩; replace hB := thenB (thenB hB hb) (hal w2 (.cells #[.int .i64 V, .int .i64 Q, .int .i64 R] 58)); replace hX := boxB (boxB hX hb) (hal w2 (.cells #[.int .i64 V, .int .i64 Q, .int .i64 R] 58)); replace hR := sevRB (sevRB hR hb) (hal w2 (.cells #[.int .i64 V, .int .i64 Q, .int .i64 R] 58)); have hY := boxM w2 (.int .i64 V) (.int .i64 Q) (.int .i64 R) 58; clear hb))
      generalize w2.alloc _ = W2 at *
      go_wp2_with (go_at_call 48; refine (HM.out _).mono ?_; rintro e w3 ⟨rfl, hb⟩; replace hB := thenB hB hb; replace hR := sevRB hR hb; clear hb)
      exact bodyPost_ret (v := .tuple #[.agg #[.int .i64 1, .string J, .int .i64 0, .bool false, .int .i64 0, .string ⟨#[]⟩, .int .i64 0], .int .i64 0]) (by simp [results, Try.results29, go_sem, hR]) rfl ⟨rfl, set7 hB (Nat.le_succ _)⟩
end Go.Proofs.Ytgkmallikomnaaa.HstRefs

/- A host that begins to carry so many bytes: the laws' own text, file and host. -/
namespace Go.Proofs.Ytgkmallikomnaaa.HstCarry
open Go.Proofs.Ytgkmallikomnaaa Go.RowKit Go.Proofs.Ytgkmallikomnaaa.Bytes Go.Proofs.Ytgkmallikomnaaa.NorWalk Go.Proofs.Ytgkmallikomnaaa.Suf Go.Proofs.Ytgkmallikomnaaa.Idt Go.Proofs.Ytgkmallikomnaaa.Sup Go.Proofs.Ytgkmallikomnaaa.Hst Go.Proofs.Ytgkmallikomnaaa.HstWalk Go.Proofs.Ytgkmallikomnaaa.HstAsk Go.Proofs.Ytgkmallikomnaaa.HstHost Go.Proofs.Ytgkmallikomnaaa.HstRef Go.Proofs.Ytgkmallikomnaaa.HstRefs
open Go.Proofs.Ytgkmallikomnaaa.OpsRow (boxM boxB boxD thenD)
open Go.Proofs.Ytgkmallikomnaaa.SufRef (refBuild_any)
open Go.Proofs.Ytgkmallikomnaaa.SufWalk (build_ids)
attribute [local go_sem ↓] Go.wp_at_zero Go.wp_at_succ

/-- So many bytes, each its place's number. -/
def iotaL (k : Nat) : List UInt8 := (List.range k).map UInt8.ofNat
def iotaS (k : Nat) : ByteArray := ⟨(iotaL k).toArray⟩
theorem length_iotaL (k : Nat) : (iotaL k).length = k := by simp [iotaL]
theorem list_iotaS (k : Nat) : (iotaS k).data.toList = iotaL k := rfl
theorem size_iotaS (k : Nat) : (iotaS k).size = k := by rw [← Nor.size_list, list_iotaS, length_iotaL]
def oneS (j : Nat) : ByteArray := ⟨#[UInt8.ofNat j]⟩
theorem iota_succ (k : Nat) : iotaS k ++ oneS k = iotaS (k + 1) := by
  apply ba_ext
  rw [list_append, list_iotaS, list_iotaS]
  unfold iotaL
  rw [List.range_succ, List.map_append]
  rfl
theorem size_oneS (j : Nat) : (oneS j).size = 1 := rfl
/-- The file of them, for these ids; the host that begins with it. -/
def carF (k : Nat) : ByteArray := fileS (iotaS k) 1155 57105 512
theorem car_ok {k : Nat} (h1 : 1 ≤ k) (h2 : k ≤ 288) : bldOk (iotaS k) 1155 57105 512 = true := by
  rw [bldOk_parts, size_iotaS]
  omega
theorem file_to {s : ByteArray} (h : bldOk s 1155 57105 512 = true) : toB (fileS s 1155 57105 512) 1155 57105 512 = true ∧ parI (fileS s 1155 57105 512) = s := by
  obtain ⟨p1, p2, p3, p4, p5⟩ := parse_build h
  refine ⟨to_parts.2 ⟨p1, ?_⟩, p2⟩
  rw [p3, p4, p5]
  decide
theorem ids_ok : idsB 1155 57105 512 = true := by decide
theorem file_st {s : ByteArray} (h : bldOk s 1155 57105 512 = true) : stP (fileS s 1155 57105 512) 1155 57105 512 = 1 ∧ stI (fileS s 1155 57105 512) 1155 57105 512 = s ∧ stR (fileS s 1155 57105 512) 1155 57105 512 = 0 := by
  obtain ⟨h1, h2⟩ := file_to h
  obtain ⟨e1, e2, e3⟩ := st_is ids_ok h1
  exact ⟨e1, e2.trans h2, e3⟩
theorem file_small {s : ByteArray} (h : bldOk s 1155 57105 512 = true) : (fileS s 1155 57105 512).size < 9223372036854775808 := by
  rw [size_fileS h]
  have := bldOk_parts.1 h
  omega
/-- A slice of one byte as a text. -/
theorem one_text {w : World} {G j : Nat} (h : w.cell? ⟨G, 0, none⟩ = some (.int .u8 ((j : Int) % 256))) : (convert 55 9 (.slice (some ⟨G, 0, none⟩) 1 1)).run Try.prog w = .ok (.string (oneS j)) w := by
  unfold oneS
  refine run_convert_bytes_back w 55 9 5 ⟨G, 0, none⟩ 1 [UInt8.ofNat j] Try.underlying55 Try.underlying5 Try.underlying9 fun i hi => ?_
  obtain rfl : i = 0 := by simp at hi; omega
  have e1 : (⟨G, 0, none⟩ : Addr).add 0 = ⟨G, 0, none⟩ := by simp [Addr.add]
  rw [e1, h]
  simp
theorem wrap_u8 (j : Nat) : IntKind.u8.wrap (j : Int) = ((j : Int) % 256) := by simp only [IntKind.wrap, IntKind.bits, IntKind.signed]; simp
set_option maxRecDepth 100000 in
theorem ids23_any (w : World) : Calls Try.prog 28 #[] w fun e w' => e = .returned (.agg #[.int .i64 1155, .int .i64 57105, .int .i64 512]) ∧ Below w.heap.size w w' := by
  have b1 := build_ids
  have hB := hal w (.cells #[.int .i64 1155, .int .i64 57105, .int .i64 512] 58)
  go_enter Try.func28, Try.ntmps28
  go_wp2
  exact bodyPost_ret (v := .agg #[.int .i64 1155, .int .i64 57105, .int .i64 512]) (by simp [results, Try.results28, go_sem]) rfl ⟨rfl, hB⟩
set_option maxRecDepth 100000 in
set_option maxHeartbeats 2000000 in
theorem carrying23_any (k : Nat) (w : World) (h1 : 1 ≤ k) (h2 : k ≤ 288) : Calls Try.prog 13 #[.int .i64 k] w fun e w' => e = .returned (.agg #[.int .i64 1, .string (iotaS k), .int .i64 0, .bool false, .int .i64 0, .string ⟨#[]⟩, .int .i64 0]) ∧ Below w.heap.size w w' := by
  have ok := car_ok h1 h2
  obtain ⟨e1, e2, e3⟩ := file_st ok
  have HB := hide (fun w => refBuild_any (iotaS k) 1155 57105 512 w)
  have HS := hide (fun w => refStart_any (fileS (iotaS k) 1155 57105 512) 1155 57105 512 w (file_small ok))
  unfold Begun at HS
  rw [e1, e2, e3, ids_ok, show errH true = 0 from rfl] at HS
  rw [ok, show errF true = 0 from rfl] at HB
  clear e1 e2 e3
  generalize fileS (iotaS k) 1155 57105 512 = F at *
  have hR0 := sevRM w (.int .i64 0) (.string ⟨#[]⟩) (.int .i64 0) (.bool false) (.int .i64 0) (.string ⟨#[]⟩) (.int .i64 0) 23
  have hB0 := hal w (.cells #[.int .i64 0, .string ⟨#[]⟩, .int .i64 0, .bool false, .int .i64 0, .string ⟨#[]⟩, .int .i64 0] 23)
  have hz0 : w.heap.size < (w.alloc (.cells #[.int .i64 0, .string ⟨#[]⟩, .int .i64 0, .bool false, .int .i64 0, .string ⟨#[]⟩, .int .i64 0] 23)).heap.size := by simp
  go_enter Try.func13, Try.ntmps13
  go_upto_region 1 with fail
  generalize w.alloc _ = W at *
  go_wp2
  go_loopw [3, 4] (fun v x wr => ∃ j : Nat, j ≤ k ∧ v = .string (iotaS j) ∧ x = .int .i64 (j : Int) ∧ Below W.heap.size W wr) (fun _ x _ => k - (intOf x).toNat)
  case atStart => exact ⟨0, Nat.zero_le _, rfl, rfl, Below.refl _ _⟩
  case round =>
    obtain ⟨j, hj, rfl, rfl, hbel⟩ := hrel
    by_cases hlt : j < k
    · have hpl : (j : Int) < (k : Int) := by omega
      have hw8 := wrap_u8 j
      have hz := size_iotaS j
      have hs1 := size_oneS j
      have HE := hide (iota_succ j)
      have hone := (show ∀ e, (wr.alloc (.cells #[.int .u8 ((j : Int) % 256)] e)).cell? ⟨wr.heap.size, 0, none⟩ = some (.int .u8 ((j : Int) % 256)) from fun e => by rw [World.cell?_alloc_at _ e _ 0 rfl]; rfl) 5
      have hcv := one_text hone
      have hn1 := hal wr (.cells #[.int .u8 ((j : Int) % 256)] 5)
      generalize iotaS j = A at *
      generalize oneS j = O at *
      have n1 : ¬ 9223372036854775807 < A.size + O.size := by omega
      go_wp2
      exact ⟨⟨j + 1, by omega, by rw [HE.out], by go_num, thenB hbel hn1⟩, by simp [intOf]; omega⟩
    · obtain rfl : j = k := by omega
      have hpl : ¬ (j : Int) < (j : Int) := by omega
      have hB := thenB hB0 hbel
      have hR := sevRB hR0 hbel
      clear hB0 hR0 hz0 h1 h2 ok hj hlt
      generalize hA : iotaS j = A at *
      go_upto_region 8 with (first | (go_at_call 28; refine (ids23_any _).mono ?_; rintro e w1 ⟨rfl, hb⟩; replace hB := thenB hB hb; replace hR := sevRB hR hb; clear hb) | (go_at_call 27; refine (HB.out _).mono ?_; rintro e w2 ⟨rfl, hb⟩; replace hB := thenB hB hb; replace hR := sevRB hR hb; clear hb) | (go_at_call 29; refine (HS.out _).mono ?_; rintro e w3 ⟨rfl, hb⟩; replace hB := thenB (thenB hB hb) (hal w3 (.cells #[.int .i64 1, .string A, .int .i64 0, .bool false, .int .i64 0, .string ⟨#[]⟩, .int .i64 0] 23)); replace hR := sevRB (sevRB hR hb) (hal w3 (.cells #[.int .i64 1, .string A, .int .i64 0, .bool false, .int .i64 0, .string ⟨#[]⟩, .int .i64 0] 23)); have hY := sevM w3 (.int .i64 1) (.string A) (.int .i64 0) (.bool false) (.int .i64 0) (.string ⟨#[]⟩) (.int .i64 0) 23; clear hb))
      generalize w3.alloc _ = W3 at *
      generalize w3.heap.size = G3 at *
      go_wp2
      exact bodyPost_ret (v := .agg #[.int .i64 1, .string A, .int .i64 0, .bool false, .int .i64 0, .string ⟨#[]⟩, .int .i64 0]) (by simp [results, Try.results13, go_sem, hR]) rfl ⟨by rw [hA], set7 hB (Nat.le_refl _)⟩
end Go.Proofs.Ytgkmallikomnaaa.HstCarry
