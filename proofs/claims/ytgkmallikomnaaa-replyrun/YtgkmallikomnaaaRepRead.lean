/- The document's own making of bytes that came back, and of any reply; of what was there nothing has turned. -/
import Derived.Test.YtgkmallikomnaaaRepRefs
import Derived.Deep.RegionHeld3
namespace Go.Proofs.Ytgkmallikomnaaa.RepRead
open Go.Proofs.Ytgkmallikomnaaa Go.RowKit Go.Proofs.Ytgkmallikomnaaa.Bytes Go.Proofs.Ytgkmallikomnaaa.NorWalk Go.Proofs.Ytgkmallikomnaaa.Hst Go.Proofs.Ytgkmallikomnaaa.HstWalk Go.Proofs.Ytgkmallikomnaaa.HstAsk Go.Proofs.Ytgkmallikomnaaa.HstRef Go.Proofs.Ytgkmallikomnaaa.Rep Go.Proofs.Ytgkmallikomnaaa.RepRef Go.Proofs.Ytgkmallikomnaaa.RepRefs Go.Proofs.Ytgkmallikomnaaa.Take
open Go.Proofs.Ytgkmallikomnaaa.HstHost (set7)
open Go.Proofs.Ytgkmallikomnaaa.EntRow (text_ne)
open Go.Proofs.Ytgkmallikomnaaa.SufWalk (text_eq)
open Go.Proofs.Ytgkmallikomnaaa.Blo (nP)
open List (setIfInBounds_toArray set_cons_zero set_cons_succ)
attribute [local go_sem ↓] Go.wp_at_zero Go.wp_at_succ
set_option maxRecDepth 100000 in
set_option maxHeartbeats 8000000 in
theorem read_any (h : FHost) (t : ByteArray) (w : World) (g : okH h = true) (hz : t.size ≤ 140737488355328) : Calls Try.prog 26 #[.agg #[.int .i64 h.ph, .string h.im, .int .i64 h.bl, .bool h.ag, .int .i64 h.tr, .string h.rd, .int .i64 h.rp], .string t] w (HostR w (readH h t)) := by
  obtain ⟨-, -, ⟨-, hi⟩, ⟨hb0, hb1⟩, ⟨ht, ht8⟩, hr, -, hn9⟩ := ok_nums g
  clear g
  have hza : (h.rd ++ t).size ≤ 281474976710656 := by rw [ByteArray.size_append]; omega
  have n1 : ¬ 9223372036854775807 < h.rd.size + t.size := by omega
  obtain ⟨ph, im, bl, ag, tr, rd, rp⟩ := h
  have HP := hide (fun w => rpieces_any im w hi)
  unfold readH HostR
  dsimp only at *
  generalize nP im = N at *
  by_cases c1 : 32 < t.size
  · rw [if_pos c1]
    have d1 : (32 : Int) < (t.size : Int) := by omega
    have HN := hide (fun w => anew_any ⟨ph, im, bl, ag, tr, rd, rp⟩ w ht)
    unfold HostR at HN
    generalize anewH ⟨ph, im, bl, ag, tr, rd, rp⟩ = Y at *
    obtain ⟨y0, y1, y2, y3, y4, y5, y6⟩ := Y
    dsimp only at *
    obtain ⟨W, hW, hX, hR, hB⟩ := host_boxes w (.int .i64 ph) (.string im) (.int .i64 bl) (.bool ag) (.int .i64 tr) (.string rd) (.int .i64 rp)
    subst hW
    go_enter Try.func26, Try.ntmps26
    go_upto_region 1 with fail
    generalize (w.alloc _).alloc _ = W at *
    go_upto_region 2 with fail
    generalize rd ++ t = A at *
    go_wp2_with (go_at_call 21; refine (HN.out _).mono ?_; rintro e w2 ⟨rfl, hb⟩; replace hB := thenB hB hb; replace hR := sevRB hR hb; clear hb)
    exact bodyPost_ret (v := .agg #[.int .i64 y0, .string y1, .int .i64 y2, .bool y3, .int .i64 y4, .string y5, .int .i64 y6]) (by simp [results, Try.results26, go_sem, hR]) rfl ⟨rfl, set7 hB (Nat.le_succ _)⟩
  rw [if_neg c1]
  have d1 : ¬ (32 : Int) < (t.size : Int) := by omega
  by_cases c2 : t.size < 32
  · rw [if_pos c2]
    have d2 : decide ((t.size : Int) < 32) = true := decide_eq_true (by omega)
    have d3 : (t.size : Int) < 32 := by omega
    by_cases c3 : rd ++ t = im
    · rw [if_pos c3]
      have q1 := text_eq c3
      have bg := build_good
      unfold goodH
      dsimp only
      clear c3
      obtain ⟨W, hW, hX, hR, hB⟩ := host_boxes w (.int .i64 ph) (.string im) (.int .i64 bl) (.bool ag) (.int .i64 tr) (.string rd) (.int .i64 rp)
      subst hW
      go_enter Try.func26, Try.ntmps26
      go_upto_region 1 with fail
      generalize (w.alloc _).alloc _ = W at *
      go_upto_region 2 with fail
      generalize rd ++ t = A at *
      go_wp2_with fail
      exact bodyPost_ret (v := .agg #[.int .i64 7, .string im, .int .i64 0, .bool ag, .int .i64 tr, .string ⟨#[]⟩, .int .i64 1]) (by simp [results, Try.results26, go_sem, hR]) rfl ⟨rfl, set7 hB (Nat.le_succ _)⟩
    · rw [if_neg c3]
      have q1 := text_ne c3
      clear c3
      have HN := hide (fun w => anew_any ⟨ph, im, bl, ag, tr, rd, rp⟩ w ht)
      unfold HostR at HN
      generalize anewH ⟨ph, im, bl, ag, tr, rd, rp⟩ = Y at *
      obtain ⟨y0, y1, y2, y3, y4, y5, y6⟩ := Y
      dsimp only at *
      obtain ⟨W, hW, hX, hR, hB⟩ := host_boxes w (.int .i64 ph) (.string im) (.int .i64 bl) (.bool ag) (.int .i64 tr) (.string rd) (.int .i64 rp)
      subst hW
      go_enter Try.func26, Try.ntmps26
      go_upto_region 1 with fail
      generalize (w.alloc _).alloc _ = W at *
      go_upto_region 2 with fail
      generalize rd ++ t = A at *
      go_upto_region 6 with fail
      refine wp_region_held_drew (S := fun X => X.cell? ⟨w.heap.size, 1, none⟩ = some (.string im) ∧ X.cell? ⟨w.heap.size, 2, none⟩ = some (.int .i64 bl)) (by kernel_rfl) (by go_keep) (fun hHeld => ?_)
      refine tk 0 ?_; simp only [Act.put, setIfInBounds_toArray, set_cons_zero, set_cons_succ]
      refine tk 1 ?_; simp only [Act.put, setIfInBounds_toArray, set_cons_zero, set_cons_succ]
      refine tk 2 ?_; simp only [Act.put, setIfInBounds_toArray, set_cons_zero, set_cons_succ]
      refine tk 3 ?_; simp only [Act.put, setIfInBounds_toArray, set_cons_zero, set_cons_succ]
      refine ts 4 ?_; simp only [Act.put, setIfInBounds_toArray, set_cons_zero, set_cons_succ]
      refine ts 5 ?_; simp only [Act.put, setIfInBounds_toArray, set_cons_zero, set_cons_succ]
      refine ts 6 ?_; simp only [Act.put, setIfInBounds_toArray, set_cons_zero, set_cons_succ]
      refine ts 7 ?_; simp only [Act.put, setIfInBounds_toArray, set_cons_zero, set_cons_succ]
      refine ts 8 ?_; simp only [Act.put, setIfInBounds_toArray, set_cons_zero, set_cons_succ]
      refine ts 9 ?_; simp only [Act.put, setIfInBounds_toArray, set_cons_zero, set_cons_succ]
      refine tk 10 ?_; simp only [Act.put, setIfInBounds_toArray, set_cons_zero, set_cons_succ]
      refine tk 11 ?_; simp only [Act.put, setIfInBounds_toArray, set_cons_zero, set_cons_succ]
      refine ts 12 ?_; simp only [Act.put, setIfInBounds_toArray, set_cons_zero, set_cons_succ]
      refine ts 13 ?_; simp only [Act.put, setIfInBounds_toArray, set_cons_zero, set_cons_succ]
      refine ts 14 ?_; simp only [Act.put, setIfInBounds_toArray, set_cons_zero, set_cons_succ]
      refine ts 15 ?_; simp only [Act.put, setIfInBounds_toArray, set_cons_zero, set_cons_succ]
      refine ts 16 ?_; simp only [Act.put, setIfInBounds_toArray, set_cons_zero, set_cons_succ]
      refine ts 17 ?_; simp only [Act.put, setIfInBounds_toArray, set_cons_zero, set_cons_succ]
      refine tk 18 ?_; simp only [Act.put, setIfInBounds_toArray, set_cons_zero, set_cons_succ]
      refine tk 19 ?_; simp only [Act.put, setIfInBounds_toArray, set_cons_zero, set_cons_succ]
      refine wpAnyH_done (by kernel_rfl) ?_ _
      change SevR W.drew _ _ _ _ _ _ _ _ at hX
      change SevR W.drew _ _ _ _ _ _ _ _ at hR
      replace hB : Below w.heap.size w W.drew := ⟨hB.os, hB.tape, hB.output, hB.size, hB.block⟩
      generalize W.drew = W2 at *
      go_wp2_with (go_at_call 21; refine (HN.out _).mono ?_; rintro e w2 ⟨rfl, hb⟩; replace hB := thenB hB hb; replace hR := sevRB hR hb; clear hb)
      exact bodyPost_ret (v := .agg #[.int .i64 y0, .string y1, .int .i64 y2, .bool y3, .int .i64 y4, .string y5, .int .i64 y6]) (by simp [results, Try.results26, go_sem, hR]) rfl ⟨rfl, set7 hB (Nat.le_succ _)⟩
  rw [if_neg c2]
  have d2 : decide ((t.size : Int) < 32) = false := decide_eq_false (by omega)
  have d3 : ¬ (t.size : Int) < 32 := by omega
  by_cases c4 : im.size < (rd ++ t).size
  · rw [if_pos (.inl c4)]
    have d4 : decide ((im.size : Int) < ((rd ++ t).size : Int)) = true := decide_eq_true (by omega)
    have HN := hide (fun w => anew_any ⟨ph, im, bl, ag, tr, rd, rp⟩ w ht)
    unfold HostR at HN
    generalize anewH ⟨ph, im, bl, ag, tr, rd, rp⟩ = Y at *
    obtain ⟨y0, y1, y2, y3, y4, y5, y6⟩ := Y
    dsimp only at *
    obtain ⟨W, hW, hX, hR, hB⟩ := host_boxes w (.int .i64 ph) (.string im) (.int .i64 bl) (.bool ag) (.int .i64 tr) (.string rd) (.int .i64 rp)
    subst hW
    go_enter Try.func26, Try.ntmps26
    go_upto_region 1 with fail
    generalize (w.alloc _).alloc _ = W at *
    go_upto_region 2 with fail
    generalize rd ++ t = A at *
    go_upto_region 6 with fail
    refine wp_region_held_drew (S := fun X => X.cell? ⟨w.heap.size, 1, none⟩ = some (.string im) ∧ X.cell? ⟨w.heap.size, 2, none⟩ = some (.int .i64 bl)) (by kernel_rfl) (by go_keep) (fun hHeld => ?_)
    refine tk 0 ?_; simp only [Act.put, setIfInBounds_toArray, set_cons_zero, set_cons_succ]
    refine tk 1 ?_; simp only [Act.put, setIfInBounds_toArray, set_cons_zero, set_cons_succ]
    refine tk 2 ?_; simp only [Act.put, setIfInBounds_toArray, set_cons_zero, set_cons_succ]
    refine tk 3 ?_; simp only [Act.put, setIfInBounds_toArray, set_cons_zero, set_cons_succ]
    refine tk 4 ?_; simp only [Act.put, setIfInBounds_toArray, set_cons_zero, set_cons_succ]
    refine tk 5 ?_; simp only [Act.put, setIfInBounds_toArray, set_cons_zero, set_cons_succ]
    refine tk 6 ?_; simp only [Act.put, setIfInBounds_toArray, set_cons_zero, set_cons_succ]
    refine tk 7 ?_; simp only [Act.put, setIfInBounds_toArray, set_cons_zero, set_cons_succ]
    refine tk 8 ?_; simp only [Act.put, setIfInBounds_toArray, set_cons_zero, set_cons_succ]
    refine tk 9 ?_; simp only [Act.put, setIfInBounds_toArray, set_cons_zero, set_cons_succ]
    refine tk 10 ?_; simp only [Act.put, setIfInBounds_toArray, set_cons_zero, set_cons_succ]
    refine tk 11 ?_; simp only [Act.put, setIfInBounds_toArray, set_cons_zero, set_cons_succ]
    refine ts 12 ?_; simp only [Act.put, setIfInBounds_toArray, set_cons_zero, set_cons_succ]
    refine ts 13 ?_; simp only [Act.put, setIfInBounds_toArray, set_cons_zero, set_cons_succ]
    refine ts 14 ?_; simp only [Act.put, setIfInBounds_toArray, set_cons_zero, set_cons_succ]
    refine ts 15 ?_; simp only [Act.put, setIfInBounds_toArray, set_cons_zero, set_cons_succ]
    refine ts 16 ?_; simp only [Act.put, setIfInBounds_toArray, set_cons_zero, set_cons_succ]
    refine ts 17 ?_; simp only [Act.put, setIfInBounds_toArray, set_cons_zero, set_cons_succ]
    refine tk 18 ?_; simp only [Act.put, setIfInBounds_toArray, set_cons_zero, set_cons_succ]
    refine tk 19 ?_; simp only [Act.put, setIfInBounds_toArray, set_cons_zero, set_cons_succ]
    refine wpAnyH_done (by kernel_rfl) ?_ _
    change SevR W.drew _ _ _ _ _ _ _ _ at hX
    change SevR W.drew _ _ _ _ _ _ _ _ at hR
    replace hB : Below w.heap.size w W.drew := ⟨hB.os, hB.tape, hB.output, hB.size, hB.block⟩
    generalize W.drew = W2 at *
    go_wp2_with (go_at_call 21; refine (HN.out _).mono ?_; rintro e w2 ⟨rfl, hb⟩; replace hB := thenB hB hb; replace hR := sevRB hR hb; clear hb)
    exact bodyPost_ret (v := .agg #[.int .i64 y0, .string y1, .int .i64 y2, .bool y3, .int .i64 y4, .string y5, .int .i64 y6]) (by simp [results, Try.results26, go_sem, hR]) rfl ⟨rfl, set7 hB (Nat.le_succ _)⟩
  have d4 : decide ((im.size : Int) < ((rd ++ t).size : Int)) = false := decide_eq_false (by omega)
  by_cases c5 : (N : Int) ≤ bl
  · rw [if_pos (.inr c5)]
    have d5 : decide ((N : Int) ≤ bl) = true := decide_eq_true c5
    have HN := hide (fun w => anew_any ⟨ph, im, bl, ag, tr, rd, rp⟩ w ht)
    unfold HostR at HN
    generalize anewH ⟨ph, im, bl, ag, tr, rd, rp⟩ = Y at *
    obtain ⟨y0, y1, y2, y3, y4, y5, y6⟩ := Y
    dsimp only at *
    obtain ⟨W, hW, hX, hR, hB⟩ := host_boxes w (.int .i64 ph) (.string im) (.int .i64 bl) (.bool ag) (.int .i64 tr) (.string rd) (.int .i64 rp)
    subst hW
    go_enter Try.func26, Try.ntmps26
    go_upto_region 1 with fail
    generalize (w.alloc _).alloc _ = W at *
    go_upto_region 2 with fail
    generalize rd ++ t = A at *
    go_upto_region 6 with fail
    refine wp_region_held_drew (S := fun X => X.cell? ⟨w.heap.size, 1, none⟩ = some (.string im) ∧ X.cell? ⟨w.heap.size, 2, none⟩ = some (.int .i64 bl)) (by kernel_rfl) (by go_keep) (fun hHeld => ?_)
    refine tk 0 ?_; simp only [Act.put, setIfInBounds_toArray, set_cons_zero, set_cons_succ]
    refine tk 1 ?_; simp only [Act.put, setIfInBounds_toArray, set_cons_zero, set_cons_succ]
    refine tk 2 ?_; simp only [Act.put, setIfInBounds_toArray, set_cons_zero, set_cons_succ]
    refine tk 3 ?_; simp only [Act.put, setIfInBounds_toArray, set_cons_zero, set_cons_succ]
    refine tk 4 ?_; simp only [Act.put, setIfInBounds_toArray, set_cons_zero, set_cons_succ]
    refine tk 5 ?_; simp only [Act.put, setIfInBounds_toArray, set_cons_zero, set_cons_succ]
    refine tk 6 ?_; simp only [Act.put, setIfInBounds_toArray, set_cons_zero, set_cons_succ]
    refine tk 7 ?_; simp only [Act.put, setIfInBounds_toArray, set_cons_zero, set_cons_succ]
    refine tk 8 ?_; simp only [Act.put, setIfInBounds_toArray, set_cons_zero, set_cons_succ]
    refine tk 9 ?_; simp only [Act.put, setIfInBounds_toArray, set_cons_zero, set_cons_succ]
    refine tk 10 ?_; simp only [Act.put, setIfInBounds_toArray, set_cons_zero, set_cons_succ]
    refine tk 11 ?_; simp only [Act.put, setIfInBounds_toArray, set_cons_zero, set_cons_succ]
    refine tk 12 ?_; simp only [Act.put, setIfInBounds_toArray, set_cons_zero, set_cons_succ]
    refine tk 13 ?_; simp only [Act.put, setIfInBounds_toArray, set_cons_zero, set_cons_succ]
    refine tk 14 ?_; simp only [Act.put, setIfInBounds_toArray, set_cons_zero, set_cons_succ]
    refine tk 15 ?_; simp only [Act.put, setIfInBounds_toArray, set_cons_zero, set_cons_succ]
    refine wpAnyH_ready (rs := [16]) (by kernel_rfl) (by simp) ?_
    refine AllReadyH.cons rfl (fun K hK => ?_) AllReadyH.nil
    go_simp
    ((go_at_call 31; refine (HP.out _).mono ?_; rintro e w' ⟨rfl, rfl⟩))
    refine hK.out _ _ (by go_keep) (fun hHeld => ?_)
    clear hK K
    (try simp only [Act.put, setIfInBounds_toArray, set_cons_zero, set_cons_succ])
    refine tk 17 ?_; simp only [Act.put, setIfInBounds_toArray, set_cons_zero, set_cons_succ]
    refine tk 18 ?_; simp only [Act.put, setIfInBounds_toArray, set_cons_zero, set_cons_succ]
    refine tk 19 ?_; simp only [Act.put, setIfInBounds_toArray, set_cons_zero, set_cons_succ]
    refine wpAnyH_done (by kernel_rfl) ?_ _
    change SevR W.drew _ _ _ _ _ _ _ _ at hX
    change SevR W.drew _ _ _ _ _ _ _ _ at hR
    replace hB : Below w.heap.size w W.drew := ⟨hB.os, hB.tape, hB.output, hB.size, hB.block⟩
    generalize W.drew = W2 at *
    go_wp2_with (go_at_call 21; refine (HN.out _).mono ?_; rintro e w2 ⟨rfl, hb⟩; replace hB := thenB hB hb; replace hR := sevRB hR hb; clear hb)
    exact bodyPost_ret (v := .agg #[.int .i64 y0, .string y1, .int .i64 y2, .bool y3, .int .i64 y4, .string y5, .int .i64 y6]) (by simp [results, Try.results26, go_sem, hR]) rfl ⟨rfl, set7 hB (Nat.le_succ _)⟩
  rw [if_neg (by omega)]
  have d5 : decide ((N : Int) ≤ bl) = false := decide_eq_false c5
  obtain ⟨W, hW, hX, hR, hB⟩ := host_boxes w (.int .i64 ph) (.string im) (.int .i64 bl) (.bool ag) (.int .i64 tr) (.string rd) (.int .i64 rp)
  subst hW
  go_enter Try.func26, Try.ntmps26
  go_upto_region 1 with fail
  generalize (w.alloc _).alloc _ = W at *
  go_upto_region 2 with fail
  generalize hA : rd ++ t = A at *
  go_upto_region 6 with fail
  refine wp_region_held_drew (S := fun X => X.cell? ⟨w.heap.size, 1, none⟩ = some (.string im) ∧ X.cell? ⟨w.heap.size, 2, none⟩ = some (.int .i64 bl)) (by kernel_rfl) (by go_keep) (fun hHeld => ?_)
  refine tk 0 ?_; simp only [Act.put, setIfInBounds_toArray, set_cons_zero, set_cons_succ]
  refine tk 1 ?_; simp only [Act.put, setIfInBounds_toArray, set_cons_zero, set_cons_succ]
  refine tk 2 ?_; simp only [Act.put, setIfInBounds_toArray, set_cons_zero, set_cons_succ]
  refine tk 3 ?_; simp only [Act.put, setIfInBounds_toArray, set_cons_zero, set_cons_succ]
  refine tk 4 ?_; simp only [Act.put, setIfInBounds_toArray, set_cons_zero, set_cons_succ]
  refine tk 5 ?_; simp only [Act.put, setIfInBounds_toArray, set_cons_zero, set_cons_succ]
  refine tk 6 ?_; simp only [Act.put, setIfInBounds_toArray, set_cons_zero, set_cons_succ]
  refine tk 7 ?_; simp only [Act.put, setIfInBounds_toArray, set_cons_zero, set_cons_succ]
  refine tk 8 ?_; simp only [Act.put, setIfInBounds_toArray, set_cons_zero, set_cons_succ]
  refine tk 9 ?_; simp only [Act.put, setIfInBounds_toArray, set_cons_zero, set_cons_succ]
  refine tk 10 ?_; simp only [Act.put, setIfInBounds_toArray, set_cons_zero, set_cons_succ]
  refine tk 11 ?_; simp only [Act.put, setIfInBounds_toArray, set_cons_zero, set_cons_succ]
  refine tk 12 ?_; simp only [Act.put, setIfInBounds_toArray, set_cons_zero, set_cons_succ]
  refine tk 13 ?_; simp only [Act.put, setIfInBounds_toArray, set_cons_zero, set_cons_succ]
  refine tk 14 ?_; simp only [Act.put, setIfInBounds_toArray, set_cons_zero, set_cons_succ]
  refine tk 15 ?_; simp only [Act.put, setIfInBounds_toArray, set_cons_zero, set_cons_succ]
  refine wpAnyH_ready (rs := [16]) (by kernel_rfl) (by simp) ?_
  refine AllReadyH.cons rfl (fun K hK => ?_) AllReadyH.nil
  go_simp
  ((go_at_call 31; refine (HP.out _).mono ?_; rintro e w' ⟨rfl, rfl⟩))
  refine hK.out _ _ (by go_keep) (fun hHeld => ?_)
  clear hK K
  (try simp only [Act.put, setIfInBounds_toArray, set_cons_zero, set_cons_succ])
  refine tk 17 ?_; simp only [Act.put, setIfInBounds_toArray, set_cons_zero, set_cons_succ]
  refine tk 18 ?_; simp only [Act.put, setIfInBounds_toArray, set_cons_zero, set_cons_succ]
  refine tk 19 ?_; simp only [Act.put, setIfInBounds_toArray, set_cons_zero, set_cons_succ]
  refine wpAnyH_done (by kernel_rfl) ?_ _
  change SevR W.drew _ _ _ _ _ _ _ _ at hX
  change SevR W.drew _ _ _ _ _ _ _ _ at hR
  replace hB : Below w.heap.size w W.drew := ⟨hB.os, hB.tape, hB.output, hB.size, hB.block⟩
  generalize W.drew = W2 at *
  go_upto_region 9 with fail
  replace hX := HstSet.set5 hX (.string A)
  replace hR := HstSet.setO hR (show w.heap.size ≠ w.heap.size + 1 by omega) 5 (.string A)
  replace hB := hB.setCell (p := ⟨w.heap.size, 5, none⟩) (Nat.le_refl _) (.string A)
  generalize W2.setCell _ _ = W3 at *
  go_upto_region 10 with fail
  replace hX := HstSet.set2 hX (.int .i64 (bl + 1))
  replace hR := HstSet.setO hR (show w.heap.size ≠ w.heap.size + 1 by omega) 2 (.int .i64 (bl + 1))
  replace hB := hB.setCell (p := ⟨w.heap.size, 2, none⟩) (Nat.le_refl _) (.int .i64 (bl + 1))
  generalize W3.setCell _ _ = W4 at *
  go_wp2_with fail
  exact bodyPost_ret (v := .agg #[.int .i64 ph, .string im, .int .i64 (bl + 1), .bool ag, .int .i64 tr, .string A, .int .i64 rp]) (by simp [results, Try.results26, go_sem, hR]) rfl ⟨by first | rfl | rw [hA], set7 hB (Nat.le_succ _)⟩
end Go.Proofs.Ytgkmallikomnaaa.RepRead
