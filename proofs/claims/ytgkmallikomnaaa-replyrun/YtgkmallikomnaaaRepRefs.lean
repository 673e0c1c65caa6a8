/- The document's own makings of a reply's text: the host that the plain functions give; of what was there nothing has turned. -/
import Derived.Test.YtgkmallikomnaaaRepRef
namespace Go.Proofs.Ytgkmallikomnaaa.RepRefs
open Go.Proofs.Ytgkmallikomnaaa Go.RowKit Go.Proofs.Ytgkmallikomnaaa.Bytes Go.Proofs.Ytgkmallikomnaaa.NorWalk Go.Proofs.Ytgkmallikomnaaa.Hst Go.Proofs.Ytgkmallikomnaaa.HstWalk Go.Proofs.Ytgkmallikomnaaa.HstAsk Go.Proofs.Ytgkmallikomnaaa.HstRef Go.Proofs.Ytgkmallikomnaaa.Rep Go.Proofs.Ytgkmallikomnaaa.RepRef
open Go.Proofs.Ytgkmallikomnaaa.HstHost (set7)
open Go.Proofs.Ytgkmallikomnaaa.EntRow (text_ne)
open Go.Proofs.Ytgkmallikomnaaa.Blo (nP)
open Go.Proofs.Ytgkmallikomnaaa.Ans (isAns aSt aTi aSa errW)
attribute [local go_sem ↓] Go.wp_at_zero Go.wp_at_succ
/-- The document's answer got: three numbers, an error. -/
theorem get_is {t : ByteArray} {I : Bool} (h : isAns t = I) (w : World) : Calls Try.prog 43 #[.string t] w fun r w' => r = .returned (.tuple #[.agg #[.int .i64 (aSt t), .int .i64 (aTi t), .int .i64 (aSa t)], .int .i64 (errW I)]) ∧ Below w.heap.size w w' := by
  subst h
  exact AnsGet.refGet_any t w
theorem not_bang {s : ByteArray} (h : ¬ s = bangS) : (s.toList == [33]) = false := by
  rw [beq_eq_false_iff_ne, ByteArray.toList_eq]
  exact fun e => h (ba_ext e)
set_option maxRecDepth 100000 in
set_option maxHeartbeats 8000000 in
theorem cleared_any (h : FHost) (t : ByteArray) (w : World) (g : okH h = true) : Calls Try.prog 22 #[.agg #[.int .i64 h.ph, .string h.im, .int .i64 h.bl, .bool h.ag, .int .i64 h.tr, .string h.rd, .int .i64 h.rp], .string t] w (HostR w (clearedH h t)) := by
  obtain ⟨-, -, ⟨-, hi⟩, ⟨hb0, hb1⟩, ⟨ht, ht8⟩, -, -, hn9⟩ := ok_nums g
  clear g
  obtain ⟨ph, im, bl, ag, tr, rd, rp⟩ := h
  unfold clearedH HostR
  dsimp only at *
  cases ag with
  | true =>
    by_cases hr : rd = bangS
    · obtain rfl : rd = ⟨#[33]⟩ := hr
      rw [if_pos rfl, if_pos (show (⟨#[33]⟩ : ByteArray) = bangS from rfl)]
      have HT := hide (fun w => to_any ⟨ph, im, bl, true, tr, ⟨#[33]⟩, rp⟩ 1 0 false w)
      unfold HostR toH at HT
      dsimp only at HT
      obtain ⟨W, hW, hX, hR, hB⟩ := host_boxes w (.int .i64 ph) (.string im) (.int .i64 bl) (.bool true) (.int .i64 tr) (.string ⟨#[33]⟩) (.int .i64 rp)
      subst hW
      go_enter Try.func22, Try.ntmps22
      go_upto_region 1 with fail
      generalize (w.alloc _).alloc _ = W at *
      go_upto_region 3 with (go_at_call 23; refine (HT.out _).mono ?_; rintro e w1 ⟨rfl, hb⟩; replace hB := thenB hB hb; replace hX := sevRB hX hb; replace hR := sevRB hR hb; clear hb)
      have hY := sevRM w1 (.int .i64 1) (.string im) (.int .i64 0) (.bool false) (.int .i64 tr) (.string ⟨#[33]⟩) (.int .i64 rp) 23
      have hn := hal w1 (.cells #[.int .i64 1, .string im, .int .i64 0, .bool false, .int .i64 tr, .string ⟨#[33]⟩, .int .i64 rp] 23)
      have hlx := hX.1
      have hlr := hR.1
      have hl := hB.size
      replace hB := thenB hB hn
      replace hX := sevRB hX hn
      replace hR := sevRB hR hn
      clear hn HT
      generalize w1.alloc _ = W1 at *
      generalize w1.heap.size = G at *
      have n1 : G ≠ w.heap.size := by omega
      have n2 : G ≠ w.heap.size + 1 := by omega
      clear hlx hlr
      go_upto_region 4 with fail
      replace hY := HstSet.set5 hY (.string ⟨#[]⟩)
      replace hX := HstSet.setO hX n1 5 (.string ⟨#[]⟩)
      replace hR := HstSet.setO hR n2 5 (.string ⟨#[]⟩)
      replace hB := hB.setCell (p := ⟨G, 5, none⟩) hl (.string ⟨#[]⟩)
      generalize W1.setCell _ _ = W2 at *
      go_upto_region 6 with fail
      replace hY := HstSet.set0 hY (.int .i64 5)
      replace hX := HstSet.setO hX n1 0 (.int .i64 5)
      replace hR := HstSet.setO hR n2 0 (.int .i64 5)
      replace hB := hB.setCell (p := ⟨G, 0, none⟩) hl (.int .i64 5)
      generalize W2.setCell _ _ = W3 at *
      go_wp2_with fail
      exact bodyPost_ret (v := .agg #[.int .i64 5, .string im, .int .i64 0, .bool false, .int .i64 tr, .string ⟨#[]⟩, .int .i64 rp]) (by simp [results, Try.results22, go_sem, hR]) rfl ⟨rfl, set7 hB (Nat.le_succ _)⟩
    · skip
      rw [if_pos rfl, if_neg hr]
      have HT := hide (fun w => to_any ⟨ph, im, bl, true, tr, rd, rp⟩ 1 0 false w)
      unfold HostR toH at HT
      dsimp only at HT
      have hr2 := not_bang hr
      clear hr
      obtain ⟨W, hW, hX, hR, hB⟩ := host_boxes w (.int .i64 ph) (.string im) (.int .i64 bl) (.bool true) (.int .i64 tr) (.string rd) (.int .i64 rp)
      subst hW
      go_enter Try.func22, Try.ntmps22
      go_upto_region 1 with fail
      generalize (w.alloc _).alloc _ = W at *
      go_upto_region 3 with (go_at_call 23; refine (HT.out _).mono ?_; rintro e w1 ⟨rfl, hb⟩; replace hB := thenB hB hb; replace hX := sevRB hX hb; replace hR := sevRB hR hb; clear hb)
      have hY := sevRM w1 (.int .i64 1) (.string im) (.int .i64 0) (.bool false) (.int .i64 tr) (.string rd) (.int .i64 rp) 23
      have hn := hal w1 (.cells #[.int .i64 1, .string im, .int .i64 0, .bool false, .int .i64 tr, .string rd, .int .i64 rp] 23)
      have hlx := hX.1
      have hlr := hR.1
      have hl := hB.size
      replace hB := thenB hB hn
      replace hX := sevRB hX hn
      replace hR := sevRB hR hn
      clear hn HT
      generalize w1.alloc _ = W1 at *
      generalize w1.heap.size = G at *
      have n1 : G ≠ w.heap.size := by omega
      have n2 : G ≠ w.heap.size + 1 := by omega
      clear hlx hlr
      go_upto_region 4 with fail
      replace hY := HstSet.set5 hY (.string ⟨#[]⟩)
      replace hX := HstSet.setO hX n1 5 (.string ⟨#[]⟩)
      replace hR := HstSet.setO hR n2 5 (.string ⟨#[]⟩)
      replace hB := hB.setCell (p := ⟨G, 5, none⟩) hl (.string ⟨#[]⟩)
      generalize W1.setCell _ _ = W2 at *
      go_wp2_with fail
      exact bodyPost_ret (v := .agg #[.int .i64 1, .string im, .int .i64 0, .bool false, .int .i64 tr, .string ⟨#[]⟩, .int .i64 rp]) (by simp [results, Try.results22, go_sem, hR]) rfl ⟨rfl, set7 hB (Nat.le_succ _)⟩
  | false =>
    rw [if_neg (by decide)]
    cases hI : isAns t with
    | false =>
      rw [if_neg (by decide)]
      have HG := hide (fun w => get_is hI w)
      generalize aSt t = st at *
      generalize aTi t = ti at *
      generalize aSa t = sa at *
      have HN := hide (fun w => anew_any ⟨ph, im, bl, false, tr, rd, rp⟩ w ht)
      unfold HostR at HN
      generalize anewH ⟨ph, im, bl, false, tr, rd, rp⟩ = Y at *
      obtain ⟨y0, y1, y2, y3, y4, y5, y6⟩ := Y
      dsimp only at *
      obtain ⟨W, hW, hX, hR, hB⟩ := host_boxes w (.int .i64 ph) (.string im) (.int .i64 bl) (.bool false) (.int .i64 tr) (.string rd) (.int .i64 rp)
      subst hW
      go_enter Try.func22, Try.ntmps22
      go_upto_region 1 with fail
      generalize (w.alloc _).alloc _ = W at *
      go_upto_region 8 with (first | (go_at_call 43; refine (HG.out _).mono ?_; rintro e w1 ⟨rfl, hb⟩; replace hB := thenB hB hb; replace hX := sevRB hX hb; replace hR := sevRB hR hb; clear hb))
      have hA := SetWalk.resM w1 (.int .i64 st) (.int .i64 ti) (.int .i64 sa) 43
      have hn := hal w1 (.cells #[.int .i64 st, .int .i64 ti, .int .i64 sa] 43)
      replace hB := thenB hB hn
      replace hX := sevRB hX hn
      replace hR := sevRB hR hn
      clear hn
      generalize w1.alloc _ = W1 at *
      generalize w1.heap.size = G at *
      go_wp2_with (go_at_call 21; refine (HN.out _).mono ?_; rintro e w2 ⟨rfl, hb⟩; replace hB := thenB hB hb; replace hR := sevRB hR hb; clear hb)
      exact bodyPost_ret (v := .agg #[.int .i64 y0, .string y1, .int .i64 y2, .bool y3, .int .i64 y4, .string y5, .int .i64 y6]) (by simp [results, Try.results22, go_sem, hR]) rfl ⟨rfl, set7 hB (Nat.le_succ _)⟩
    | true =>
      rw [if_pos rfl]
      have HG := hide (fun w => get_is hI w)
      generalize aSt t = st at *
      generalize aTi t = ti at *
      generalize aSa t = sa at *
      by_cases s0 : sa = 0
      · subst s0
        rw [if_pos rfl]; unfold toH; dsimp only
        have HT := hide (fun w => to_any ⟨ph, im, bl, false, tr, rd, rp⟩ 2 0 false w)
        unfold HostR toH at HT
        dsimp only at HT
        obtain ⟨W, hW, hX, hR, hB⟩ := host_boxes w (.int .i64 ph) (.string im) (.int .i64 bl) (.bool false) (.int .i64 tr) (.string rd) (.int .i64 rp)
        subst hW
        go_enter Try.func22, Try.ntmps22
        go_upto_region 1 with fail
        generalize (w.alloc _).alloc _ = W at *
        go_upto_region 8 with (first | (go_at_call 43; refine (HG.out _).mono ?_; rintro e w1 ⟨rfl, hb⟩; replace hB := thenB hB hb; replace hX := sevRB hX hb; replace hR := sevRB hR hb; clear hb))
        have hA := SetWalk.resM w1 (.int .i64 st) (.int .i64 ti) (.int .i64 0) 43
        have hn := hal w1 (.cells #[.int .i64 st, .int .i64 ti, .int .i64 0] 43)
        replace hB := thenB hB hn
        replace hX := sevRB hX hn
        replace hR := sevRB hR hn
        clear hn
        generalize w1.alloc _ = W1 at *
        generalize w1.heap.size = G at *
        go_wp2_with (go_at_call 23; refine (HT.out _).mono ?_; rintro e w2 ⟨rfl, hb⟩; replace hB := thenB hB hb; replace hR := sevRB hR hb; clear hb)
        exact bodyPost_ret (v := .agg #[.int .i64 2, .string im, .int .i64 0, .bool false, .int .i64 tr, .string rd, .int .i64 rp]) (by simp [results, Try.results22, go_sem, hR]) rfl ⟨rfl, set7 hB (Nat.le_succ _)⟩
      by_cases s7 : sa = 7
      · subst s7
        rw [if_neg s0, if_pos rfl]; unfold toH; dsimp only
        have HT := hide (fun w => to_any ⟨ph, im, bl, false, tr, rd, rp⟩ 1 0 true w)
        unfold HostR toH at HT
        dsimp only at HT
        obtain ⟨W, hW, hX, hR, hB⟩ := host_boxes w (.int .i64 ph) (.string im) (.int .i64 bl) (.bool false) (.int .i64 tr) (.string rd) (.int .i64 rp)
        subst hW
        go_enter Try.func22, Try.ntmps22
        go_upto_region 1 with fail
        generalize (w.alloc _).alloc _ = W at *
        go_upto_region 8 with (first | (go_at_call 43; refine (HG.out _).mono ?_; rintro e w1 ⟨rfl, hb⟩; replace hB := thenB hB hb; replace hX := sevRB hX hb; replace hR := sevRB hR hb; clear hb))
        have hA := SetWalk.resM w1 (.int .i64 st) (.int .i64 ti) (.int .i64 7) 43
        have hn := hal w1 (.cells #[.int .i64 st, .int .i64 ti, .int .i64 7] 43)
        replace hB := thenB hB hn
        replace hX := sevRB hX hn
        replace hR := sevRB hR hn
        clear hn
        generalize w1.alloc _ = W1 at *
        generalize w1.heap.size = G at *
        go_wp2_with (go_at_call 23; refine (HT.out _).mono ?_; rintro e w2 ⟨rfl, hb⟩; replace hB := thenB hB hb; replace hR := sevRB hR hb; clear hb)
        exact bodyPost_ret (v := .agg #[.int .i64 1, .string im, .int .i64 0, .bool true, .int .i64 tr, .string rd, .int .i64 rp]) (by simp [results, Try.results22, go_sem, hR]) rfl ⟨rfl, set7 hB (Nat.le_succ _)⟩
      by_cases s3 : sa = 3
      · subst s3
        rw [if_neg s0, if_neg s7, if_pos (by decide)]; unfold toH; dsimp only
        have HT := hide (fun w => to_any ⟨ph, im, bl, false, tr, rd, rp⟩ 1 1 true w)
        unfold HostR toH at HT
        dsimp only at HT
        obtain ⟨W, hW, hX, hR, hB⟩ := host_boxes w (.int .i64 ph) (.string im) (.int .i64 bl) (.bool false) (.int .i64 tr) (.string rd) (.int .i64 rp)
        subst hW
        go_enter Try.func22, Try.ntmps22
        go_upto_region 1 with fail
        generalize (w.alloc _).alloc _ = W at *
        go_upto_region 8 with (first | (go_at_call 43; refine (HG.out _).mono ?_; rintro e w1 ⟨rfl, hb⟩; replace hB := thenB hB hb; replace hX := sevRB hX hb; replace hR := sevRB hR hb; clear hb))
        have hA := SetWalk.resM w1 (.int .i64 st) (.int .i64 ti) (.int .i64 3) 43
        have hn := hal w1 (.cells #[.int .i64 st, .int .i64 ti, .int .i64 3] 43)
        replace hB := thenB hB hn
        replace hX := sevRB hX hn
        replace hR := sevRB hR hn
        clear hn
        generalize w1.alloc _ = W1 at *
        generalize w1.heap.size = G at *
        go_wp2_with (go_at_call 23; refine (HT.out _).mono ?_; rintro e w2 ⟨rfl, hb⟩; replace hB := thenB hB hb; replace hR := sevRB hR hb; clear hb)
        exact bodyPost_ret (v := .agg #[.int .i64 1, .string im, .int .i64 1, .bool true, .int .i64 tr, .string rd, .int .i64 rp]) (by simp [results, Try.results22, go_sem, hR]) rfl ⟨rfl, set7 hB (Nat.le_succ _)⟩
      by_cases s6 : sa = 6
      · subst s6
        rw [if_neg s0, if_neg s7, if_pos (by decide)]; unfold toH; dsimp only
        have HT := hide (fun w => to_any ⟨ph, im, bl, false, tr, rd, rp⟩ 1 1 true w)
        unfold HostR toH at HT
        dsimp only at HT
        obtain ⟨W, hW, hX, hR, hB⟩ := host_boxes w (.int .i64 ph) (.string im) (.int .i64 bl) (.bool false) (.int .i64 tr) (.string rd) (.int .i64 rp)
        subst hW
        go_enter Try.func22, Try.ntmps22
        go_upto_region 1 with fail
        generalize (w.alloc _).alloc _ = W at *
        go_upto_region 8 with (first | (go_at_call 43; refine (HG.out _).mono ?_; rintro e w1 ⟨rfl, hb⟩; replace hB := thenB hB hb; replace hX := sevRB hX hb; replace hR := sevRB hR hb; clear hb))
        have hA := SetWalk.resM w1 (.int .i64 st) (.int .i64 ti) (.int .i64 6) 43
        have hn := hal w1 (.cells #[.int .i64 st, .int .i64 ti, .int .i64 6] 43)
        replace hB := thenB hB hn
        replace hX := sevRB hX hn
        replace hR := sevRB hR hn
        clear hn
        generalize w1.alloc _ = W1 at *
        generalize w1.heap.size = G at *
        go_wp2_with (go_at_call 23; refine (HT.out _).mono ?_; rintro e w2 ⟨rfl, hb⟩; replace hB := thenB hB hb; replace hR := sevRB hR hb; clear hb)
        exact bodyPost_ret (v := .agg #[.int .i64 1, .string im, .int .i64 1, .bool true, .int .i64 tr, .string rd, .int .i64 rp]) (by simp [results, Try.results22, go_sem, hR]) rfl ⟨rfl, set7 hB (Nat.le_succ _)⟩
      rw [if_neg s0, if_neg s7, if_neg (by omega)]
      obtain ⟨W, hW, hX, hR, hB⟩ := host_boxes w (.int .i64 ph) (.string im) (.int .i64 bl) (.bool false) (.int .i64 tr) (.string rd) (.int .i64 rp)
      subst hW
      go_enter Try.func22, Try.ntmps22
      go_upto_region 1 with fail
      generalize (w.alloc _).alloc _ = W at *
      go_upto_region 8 with (first | (go_at_call 43; refine (HG.out _).mono ?_; rintro e w1 ⟨rfl, hb⟩; replace hB := thenB hB hb; replace hX := sevRB hX hb; replace hR := sevRB hR hb; clear hb))
      have hA := SetWalk.resM w1 (.int .i64 st) (.int .i64 ti) (.int .i64 sa) 43
      have hn := hal w1 (.cells #[.int .i64 st, .int .i64 ti, .int .i64 sa] 43)
      replace hB := thenB hB hn
      replace hX := sevRB hX hn
      replace hR := sevRB hR hn
      clear hn
      generalize w1.alloc _ = W1 at *
      generalize w1.heap.size = G at *
      go_wp2_with fail
      exact bodyPost_ret (v := .agg #[.int .i64 ph, .string im, .int .i64 bl, .bool false, .int .i64 tr, .string rd, .int .i64 rp]) (by simp [results, Try.results22, go_sem, hR]) rfl ⟨rfl, set7 hB (Nat.le_succ _)⟩
set_option maxRecDepth 100000 in
set_option maxHeartbeats 8000000 in
theorem polled_any (h : FHost) (t : ByteArray) (w : World) (g : okH h = true) : Calls Try.prog 24 #[.agg #[.int .i64 h.ph, .string h.im, .int .i64 h.bl, .bool h.ag, .int .i64 h.tr, .string h.rd, .int .i64 h.rp], .string t] w (HostR w (polledH h t)) := by
  obtain ⟨-, -, ⟨-, hi⟩, ⟨hb0, hb1⟩, ⟨ht, ht8⟩, -, -, hn9⟩ := ok_nums g
  clear g
  obtain ⟨ph, im, bl, ag, tr, rd, rp⟩ := h
  unfold polledH HostR
  dsimp only at *
  have HP := hide (fun w => rpieces_any im w hi)
  generalize nP im = N at *
  cases hI : isAns t with
  | false =>
    rw [if_neg (by decide)]
    have HG := hide (fun w => get_is hI w)
    generalize aSt t = st at *
    generalize aTi t = ti at *
    generalize aSa t = sa at *
    skip
    have HN := hide (fun w => anew_any ⟨ph, im, bl, ag, tr, rd, rp⟩ w ht)
    unfold HostR at HN
    generalize anewH ⟨ph, im, bl, ag, tr, rd, rp⟩ = Y at *
    obtain ⟨y0, y1, y2, y3, y4, y5, y6⟩ := Y
    dsimp only at *
    obtain ⟨W, hW, hX, hR, hB⟩ := host_boxes w (.int .i64 ph) (.string im) (.int .i64 bl) (.bool ag) (.int .i64 tr) (.string rd) (.int .i64 rp)
    subst hW
    go_enter Try.func24, Try.ntmps24
    go_upto_region 1 with fail
    generalize (w.alloc _).alloc _ = W at *
    go_upto_region 2 with (first | (go_at_call 43; refine (HG.out _).mono ?_; rintro e w1 ⟨rfl, hb⟩; replace hB := thenB hB hb; replace hX := sevRB hX hb; replace hR := sevRB hR hb; clear hb))
    have hA := SetWalk.resM w1 (.int .i64 st) (.int .i64 ti) (.int .i64 sa) 43
    have hn := hal w1 (.cells #[.int .i64 st, .int .i64 ti, .int .i64 sa] 43)
    replace hB := thenB hB hn
    replace hX := sevRB hX hn
    replace hR := sevRB hR hn
    clear hn
    generalize w1.alloc _ = W1 at *
    generalize w1.heap.size = G at *
    go_wp2_with (first | (go_at_call 31; refine (HP.out _).mono ?_; rintro e w' ⟨rfl, rfl⟩) | (go_at_call 21; refine (HN.out _).mono ?_; rintro e w2 ⟨rfl, hb⟩; replace hB := thenB hB hb; replace hR := sevRB hR hb; clear hb))
    exact bodyPost_ret (v := .agg #[.int .i64 y0, .string y1, .int .i64 y2, .bool y3, .int .i64 y4, .string y5, .int .i64 y6]) (by simp [results, Try.results24, go_sem, hR]) rfl ⟨rfl, set7 hB (Nat.le_succ _)⟩
  | true =>
    rw [if_pos rfl]
    have HG := hide (fun w => get_is hI w)
    generalize aSt t = st at *
    generalize aTi t = ti at *
    generalize aSa t = sa at *
    by_cases s1 : sa = 1
    · subst s1
      rw [if_pos (by decide)]
      obtain ⟨W, hW, hX, hR, hB⟩ := host_boxes w (.int .i64 ph) (.string im) (.int .i64 bl) (.bool ag) (.int .i64 tr) (.string rd) (.int .i64 rp)
      subst hW
      go_enter Try.func24, Try.ntmps24
      go_upto_region 1 with fail
      generalize (w.alloc _).alloc _ = W at *
      go_upto_region 2 with (first | (go_at_call 43; refine (HG.out _).mono ?_; rintro e w1 ⟨rfl, hb⟩; replace hB := thenB hB hb; replace hX := sevRB hX hb; replace hR := sevRB hR hb; clear hb))
      have hA := SetWalk.resM w1 (.int .i64 st) (.int .i64 ti) (.int .i64 1) 43
      have hn := hal w1 (.cells #[.int .i64 st, .int .i64 ti, .int .i64 1] 43)
      replace hB := thenB hB hn
      replace hX := sevRB hX hn
      replace hR := sevRB hR hn
      clear hn
      generalize w1.alloc _ = W1 at *
      generalize w1.heap.size = G at *
      go_wp2_with (first | (go_at_call 31; refine (HP.out _).mono ?_; rintro e w' ⟨rfl, rfl⟩))
      exact bodyPost_ret (v := .agg #[.int .i64 ph, .string im, .int .i64 bl, .bool ag, .int .i64 tr, .string rd, .int .i64 rp]) (by simp [results, Try.results24, go_sem, hR]) rfl ⟨rfl, set7 hB (Nat.le_succ _)⟩
    by_cases s2 : sa = 2
    · subst s2
      rw [if_pos (by decide)]
      obtain ⟨W, hW, hX, hR, hB⟩ := host_boxes w (.int .i64 ph) (.string im) (.int .i64 bl) (.bool ag) (.int .i64 tr) (.string rd) (.int .i64 rp)
      subst hW
      go_enter Try.func24, Try.ntmps24
      go_upto_region 1 with fail
      generalize (w.alloc _).alloc _ = W at *
      go_upto_region 2 with (first | (go_at_call 43; refine (HG.out _).mono ?_; rintro e w1 ⟨rfl, hb⟩; replace hB := thenB hB hb; replace hX := sevRB hX hb; replace hR := sevRB hR hb; clear hb))
      have hA := SetWalk.resM w1 (.int .i64 st) (.int .i64 ti) (.int .i64 2) 43
      have hn := hal w1 (.cells #[.int .i64 st, .int .i64 ti, .int .i64 2] 43)
      replace hB := thenB hB hn
      replace hX := sevRB hX hn
      replace hR := sevRB hR hn
      clear hn
      generalize w1.alloc _ = W1 at *
      generalize w1.heap.size = G at *
      go_wp2_with (first | (go_at_call 31; refine (HP.out _).mono ?_; rintro e w' ⟨rfl, rfl⟩))
      exact bodyPost_ret (v := .agg #[.int .i64 ph, .string im, .int .i64 bl, .bool ag, .int .i64 tr, .string rd, .int .i64 rp]) (by simp [results, Try.results24, go_sem, hR]) rfl ⟨rfl, set7 hB (Nat.le_succ _)⟩
    rw [if_neg (by omega)]
    by_cases s3 : sa = 3
    · subst s3
      cases ag with
      | true =>
        rw [if_pos (.inl ⟨rfl, rfl⟩)]
        unfold toH
        dsimp only
        have HT := hide (fun w => to_any ⟨ph, im, bl, true, tr, rd, rp⟩ 2 bl false w)
        unfold HostR toH at HT
        dsimp only at HT
        obtain ⟨W, hW, hX, hR, hB⟩ := host_boxes w (.int .i64 ph) (.string im) (.int .i64 bl) (.bool true) (.int .i64 tr) (.string rd) (.int .i64 rp)
        subst hW
        go_enter Try.func24, Try.ntmps24
        go_upto_region 1 with fail
        generalize (w.alloc _).alloc _ = W at *
        go_upto_region 2 with (first | (go_at_call 43; refine (HG.out _).mono ?_; rintro e w1 ⟨rfl, hb⟩; replace hB := thenB hB hb; replace hX := sevRB hX hb; replace hR := sevRB hR hb; clear hb))
        have hA := SetWalk.resM w1 (.int .i64 st) (.int .i64 ti) (.int .i64 3) 43
        have hn := hal w1 (.cells #[.int .i64 st, .int .i64 ti, .int .i64 3] 43)
        replace hB := thenB hB hn
        replace hX := sevRB hX hn
        replace hR := sevRB hR hn
        clear hn
        generalize w1.alloc _ = W1 at *
        generalize w1.heap.size = G at *
        go_wp2_with (first | (go_at_call 31; refine (HP.out _).mono ?_; rintro e w' ⟨rfl, rfl⟩) | (go_at_call 23; refine (HT.out _).mono ?_; rintro e w2 ⟨rfl, hb⟩; replace hB := thenB hB hb; replace hR := sevRB hR hb; clear hb))
        exact bodyPost_ret (v := .agg #[.int .i64 2, .string im, .int .i64 bl, .bool false, .int .i64 tr, .string rd, .int .i64 rp]) (by simp [results, Try.results24, go_sem, hR]) rfl ⟨rfl, set7 hB (Nat.le_succ _)⟩
      | false =>
        rw [if_neg (by simp)]
        by_cases hl : (N : Int) ≤ bl + 1
        · skip
          rw [if_pos ⟨rfl, hl⟩]
          unfold toH
          dsimp only
          have HT := hide (fun w => to_any ⟨ph, im, bl, false, tr, rd, rp⟩ 4 (N : Int) false w)
          unfold HostR toH at HT
          dsimp only at HT
          obtain ⟨W, hW, hX, hR, hB⟩ := host_boxes w (.int .i64 ph) (.string im) (.int .i64 bl) (.bool false) (.int .i64 tr) (.string rd) (.int .i64 rp)
          subst hW
          go_enter Try.func24, Try.ntmps24
          go_upto_region 1 with fail
          generalize (w.alloc _).alloc _ = W at *
          go_upto_region 2 with (first | (go_at_call 43; refine (HG.out _).mono ?_; rintro e w1 ⟨rfl, hb⟩; replace hB := thenB hB hb; replace hX := sevRB hX hb; replace hR := sevRB hR hb; clear hb))
          have hA := SetWalk.resM w1 (.int .i64 st) (.int .i64 ti) (.int .i64 3) 43
          have hn := hal w1 (.cells #[.int .i64 st, .int .i64 ti, .int .i64 3] 43)
          replace hB := thenB hB hn
          replace hX := sevRB hX hn
          replace hR := sevRB hR hn
          clear hn
          generalize w1.alloc _ = W1 at *
          generalize w1.heap.size = G at *
          go_wp2_with (first | (go_at_call 31; refine (HP.out _).mono ?_; rintro e w' ⟨rfl, rfl⟩) | (go_at_call 23; refine (HT.out _).mono ?_; rintro e w2 ⟨rfl, hb⟩; replace hB := thenB hB hb; replace hR := sevRB hR hb; clear hb))
          exact bodyPost_ret (v := .agg #[.int .i64 4, .string im, .int .i64 (N : Int), .bool false, .int .i64 tr, .string rd, .int .i64 rp]) (by simp [results, Try.results24, go_sem, hR]) rfl ⟨rfl, set7 hB (Nat.le_succ _)⟩
        · skip
          rw [if_neg (fun h => hl h.2), if_pos rfl]
          unfold toH
          dsimp only
          have HT := hide (fun w => to_any ⟨ph, im, bl, false, tr, rd, rp⟩ 2 (bl + 1) false w)
          unfold HostR toH at HT
          dsimp only at HT
          obtain ⟨W, hW, hX, hR, hB⟩ := host_boxes w (.int .i64 ph) (.string im) (.int .i64 bl) (.bool false) (.int .i64 tr) (.string rd) (.int .i64 rp)
          subst hW
          go_enter Try.func24, Try.ntmps24
          go_upto_region 1 with fail
          generalize (w.alloc _).alloc _ = W at *
          go_upto_region 2 with (first | (go_at_call 43; refine (HG.out _).mono ?_; rintro e w1 ⟨rfl, hb⟩; replace hB := thenB hB hb; replace hX := sevRB hX hb; replace hR := sevRB hR hb; clear hb))
          have hA := SetWalk.resM w1 (.int .i64 st) (.int .i64 ti) (.int .i64 3) 43
          have hn := hal w1 (.cells #[.int .i64 st, .int .i64 ti, .int .i64 3] 43)
          replace hB := thenB hB hn
          replace hX := sevRB hX hn
          replace hR := sevRB hR hn
          clear hn
          generalize w1.alloc _ = W1 at *
          generalize w1.heap.size = G at *
          go_wp2_with (first | (go_at_call 31; refine (HP.out _).mono ?_; rintro e w' ⟨rfl, rfl⟩) | (go_at_call 23; refine (HT.out _).mono ?_; rintro e w2 ⟨rfl, hb⟩; replace hB := thenB hB hb; replace hR := sevRB hR hb; clear hb))
          exact bodyPost_ret (v := .agg #[.int .i64 2, .string im, .int .i64 (bl + 1), .bool false, .int .i64 tr, .string rd, .int .i64 rp]) (by simp [results, Try.results24, go_sem, hR]) rfl ⟨rfl, set7 hB (Nat.le_succ _)⟩
    by_cases s0 : sa = 0
    · subst s0
      cases ag with
      | true =>
        by_cases hb2 : bl = 0
        · subst hb2
          rw [if_pos (.inr ⟨rfl, rfl, rfl⟩)]
          unfold toH
          dsimp only
          have HT := hide (fun w => to_any ⟨ph, im, 0, true, tr, rd, rp⟩ 2 0 false w)
          unfold HostR toH at HT
          dsimp only at HT
          obtain ⟨W, hW, hX, hR, hB⟩ := host_boxes w (.int .i64 ph) (.string im) (.int .i64 0) (.bool true) (.int .i64 tr) (.string rd) (.int .i64 rp)
          subst hW
          go_enter Try.func24, Try.ntmps24
          go_upto_region 1 with fail
          generalize (w.alloc _).alloc _ = W at *
          go_upto_region 2 with (first | (go_at_call 43; refine (HG.out _).mono ?_; rintro e w1 ⟨rfl, hb⟩; replace hB := thenB hB hb; replace hX := sevRB hX hb; replace hR := sevRB hR hb; clear hb))
          have hA := SetWalk.resM w1 (.int .i64 st) (.int .i64 ti) (.int .i64 0) 43
          have hn := hal w1 (.cells #[.int .i64 st, .int .i64 ti, .int .i64 0] 43)
          replace hB := thenB hB hn
          replace hX := sevRB hX hn
          replace hR := sevRB hR hn
          clear hn
          generalize w1.alloc _ = W1 at *
          generalize w1.heap.size = G at *
          go_wp2_with (first | (go_at_call 31; refine (HP.out _).mono ?_; rintro e w' ⟨rfl, rfl⟩) | (go_at_call 23; refine (HT.out _).mono ?_; rintro e w2 ⟨rfl, hb⟩; replace hB := thenB hB hb; replace hR := sevRB hR hb; clear hb))
          exact bodyPost_ret (v := .agg #[.int .i64 2, .string im, .int .i64 0, .bool false, .int .i64 tr, .string rd, .int .i64 rp]) (by simp [results, Try.results24, go_sem, hR]) rfl ⟨rfl, set7 hB (Nat.le_succ _)⟩
        · skip
          rw [if_neg (by omega), if_neg (by omega), if_neg (by decide)]
          have HN := hide (fun w => anew_any ⟨ph, im, bl, true, tr, rd, rp⟩ w ht)
          unfold HostR at HN
          generalize anewH ⟨ph, im, bl, true, tr, rd, rp⟩ = Y at *
          obtain ⟨y0, y1, y2, y3, y4, y5, y6⟩ := Y
          dsimp only at *
          obtain ⟨W, hW, hX, hR, hB⟩ := host_boxes w (.int .i64 ph) (.string im) (.int .i64 bl) (.bool true) (.int .i64 tr) (.string rd) (.int .i64 rp)
          subst hW
          go_enter Try.func24, Try.ntmps24
          go_upto_region 1 with fail
          generalize (w.alloc _).alloc _ = W at *
          go_upto_region 2 with (first | (go_at_call 43; refine (HG.out _).mono ?_; rintro e w1 ⟨rfl, hb⟩; replace hB := thenB hB hb; replace hX := sevRB hX hb; replace hR := sevRB hR hb; clear hb))
          have hA := SetWalk.resM w1 (.int .i64 st) (.int .i64 ti) (.int .i64 0) 43
          have hn := hal w1 (.cells #[.int .i64 st, .int .i64 ti, .int .i64 0] 43)
          replace hB := thenB hB hn
          replace hX := sevRB hX hn
          replace hR := sevRB hR hn
          clear hn
          generalize w1.alloc _ = W1 at *
          generalize w1.heap.size = G at *
          go_wp2_with (first | (go_at_call 31; refine (HP.out _).mono ?_; rintro e w' ⟨rfl, rfl⟩) | (go_at_call 21; refine (HN.out _).mono ?_; rintro e w2 ⟨rfl, hb⟩; replace hB := thenB hB hb; replace hR := sevRB hR hb; clear hb))
          exact bodyPost_ret (v := .agg #[.int .i64 y0, .string y1, .int .i64 y2, .bool y3, .int .i64 y4, .string y5, .int .i64 y6]) (by simp [results, Try.results24, go_sem, hR]) rfl ⟨rfl, set7 hB (Nat.le_succ _)⟩
      | false =>
        rw [if_neg (by simp), if_neg (by omega), if_neg (by decide)]
        have HN := hide (fun w => anew_any ⟨ph, im, bl, false, tr, rd, rp⟩ w ht)
        unfold HostR at HN
        generalize anewH ⟨ph, im, bl, false, tr, rd, rp⟩ = Y at *
        obtain ⟨y0, y1, y2, y3, y4, y5, y6⟩ := Y
        dsimp only at *
        obtain ⟨W, hW, hX, hR, hB⟩ := host_boxes w (.int .i64 ph) (.string im) (.int .i64 bl) (.bool false) (.int .i64 tr) (.string rd) (.int .i64 rp)
        subst hW
        go_enter Try.func24, Try.ntmps24
        go_upto_region 1 with fail
        generalize (w.alloc _).alloc _ = W at *
        go_upto_region 2 with (first | (go_at_call 43; refine (HG.out _).mono ?_; rintro e w1 ⟨rfl, hb⟩; replace hB := thenB hB hb; replace hX := sevRB hX hb; replace hR := sevRB hR hb; clear hb))
        have hA := SetWalk.resM w1 (.int .i64 st) (.int .i64 ti) (.int .i64 0) 43
        have hn := hal w1 (.cells #[.int .i64 st, .int .i64 ti, .int .i64 0] 43)
        replace hB := thenB hB hn
        replace hX := sevRB hX hn
        replace hR := sevRB hR hn
        clear hn
        generalize w1.alloc _ = W1 at *
        generalize w1.heap.size = G at *
        go_wp2_with (first | (go_at_call 31; refine (HP.out _).mono ?_; rintro e w' ⟨rfl, rfl⟩) | (go_at_call 21; refine (HN.out _).mono ?_; rintro e w2 ⟨rfl, hb⟩; replace hB := thenB hB hb; replace hR := sevRB hR hb; clear hb))
        exact bodyPost_ret (v := .agg #[.int .i64 y0, .string y1, .int .i64 y2, .bool y3, .int .i64 y4, .string y5, .int .i64 y6]) (by simp [results, Try.results24, go_sem, hR]) rfl ⟨rfl, set7 hB (Nat.le_succ _)⟩
    have q1 : (sa == 1) = false := beq_eq_false_iff_ne.2 s1
    have q2 : (sa == 2) = false := beq_eq_false_iff_ne.2 s2
    have q3 : (sa == 3) = false := beq_eq_false_iff_ne.2 s3
    have q0 : (sa == 0) = false := beq_eq_false_iff_ne.2 s0
    rw [if_neg (by omega), if_neg (by omega), if_neg s3]
    have HN := hide (fun w => anew_any ⟨ph, im, bl, ag, tr, rd, rp⟩ w ht)
    unfold HostR at HN
    generalize anewH ⟨ph, im, bl, ag, tr, rd, rp⟩ = Y at *
    obtain ⟨y0, y1, y2, y3, y4, y5, y6⟩ := Y
    dsimp only at *
    obtain ⟨W, hW, hX, hR, hB⟩ := host_boxes w (.int .i64 ph) (.string im) (.int .i64 bl) (.bool ag) (.int .i64 tr) (.string rd) (.int .i64 rp)
    subst hW
    go_enter Try.func24, Try.ntmps24
    go_upto_region 1 with fail
    generalize (w.alloc _).alloc _ = W at *
    go_upto_region 2 with (first | (go_at_call 43; refine (HG.out _).mono ?_; rintro e w1 ⟨rfl, hb⟩; replace hB := thenB hB hb; replace hX := sevRB hX hb; replace hR := sevRB hR hb; clear hb))
    have hA := SetWalk.resM w1 (.int .i64 st) (.int .i64 ti) (.int .i64 sa) 43
    have hn := hal w1 (.cells #[.int .i64 st, .int .i64 ti, .int .i64 sa] 43)
    replace hB := thenB hB hn
    replace hX := sevRB hX hn
    replace hR := sevRB hR hn
    clear hn
    generalize w1.alloc _ = W1 at *
    generalize w1.heap.size = G at *
    go_wp2_with (first | (go_at_call 31; refine (HP.out _).mono ?_; rintro e w' ⟨rfl, rfl⟩) | (go_at_call 21; refine (HN.out _).mono ?_; rintro e w2 ⟨rfl, hb⟩; replace hB := thenB hB hb; replace hR := sevRB hR hb; clear hb))
    exact bodyPost_ret (v := .agg #[.int .i64 y0, .string y1, .int .i64 y2, .bool y3, .int .i64 y4, .string y5, .int .i64 y6]) (by simp [results, Try.results24, go_sem, hR]) rfl ⟨rfl, set7 hB (Nat.le_succ _)⟩
set_option maxRecDepth 100000 in
set_option maxHeartbeats 8000000 in
theorem waited_any (h : FHost) (t : ByteArray) (w : World) (g : okH h = true) : Calls Try.prog 25 #[.agg #[.int .i64 h.ph, .string h.im, .int .i64 h.bl, .bool h.ag, .int .i64 h.tr, .string h.rd, .int .i64 h.rp], .string t] w (HostR w (waitedH h t)) := by
  obtain ⟨-, -, ⟨-, hi⟩, ⟨hb0, hb1⟩, ⟨ht, ht8⟩, -, -, hn9⟩ := ok_nums g
  clear g
  obtain ⟨ph, im, bl, ag, tr, rd, rp⟩ := h
  unfold waitedH HostR
  dsimp only at *
  cases hI : isAns t with
  | false =>
    rw [if_neg (by decide)]
    have HG := hide (fun w => get_is hI w)
    generalize aSt t = st at *
    generalize aTi t = ti at *
    generalize aSa t = sa at *
    skip
    have HN := hide (fun w => anew_any ⟨ph, im, bl, ag, tr, rd, rp⟩ w ht)
    unfold HostR at HN
    generalize anewH ⟨ph, im, bl, ag, tr, rd, rp⟩ = Y at *
    obtain ⟨y0, y1, y2, y3, y4, y5, y6⟩ := Y
    dsimp only at *
    obtain ⟨W, hW, hX, hR, hB⟩ := host_boxes w (.int .i64 ph) (.string im) (.int .i64 bl) (.bool ag) (.int .i64 tr) (.string rd) (.int .i64 rp)
    subst hW
    go_enter Try.func25, Try.ntmps25
    go_upto_region 1 with fail
    generalize (w.alloc _).alloc _ = W at *
    go_upto_region 2 with (first | (go_at_call 43; refine (HG.out _).mono ?_; rintro e w1 ⟨rfl, hb⟩; replace hB := thenB hB hb; replace hX := sevRB hX hb; replace hR := sevRB hR hb; clear hb))
    have hA := SetWalk.resM w1 (.int .i64 st) (.int .i64 ti) (.int .i64 sa) 43
    have hn := hal w1 (.cells #[.int .i64 st, .int .i64 ti, .int .i64 sa] 43)
    replace hB := thenB hB hn
    replace hX := sevRB hX hn
    replace hR := sevRB hR hn
    clear hn
    generalize w1.alloc _ = W1 at *
    generalize w1.heap.size = G at *
    go_wp2_with (go_at_call 21; refine (HN.out _).mono ?_; rintro e w2 ⟨rfl, hb⟩; replace hB := thenB hB hb; replace hR := sevRB hR hb; clear hb)
    exact bodyPost_ret (v := .agg #[.int .i64 y0, .string y1, .int .i64 y2, .bool y3, .int .i64 y4, .string y5, .int .i64 y6]) (by simp [results, Try.results25, go_sem, hR]) rfl ⟨rfl, set7 hB (Nat.le_succ _)⟩
  | true =>
    rw [if_pos rfl]
    have HG := hide (fun w => get_is hI w)
    generalize aSt t = st at *
    generalize aTi t = ti at *
    generalize aSa t = sa at *
    by_cases s0 : sa = 0
    · subst s0
      rw [if_pos rfl]
      have HT := hide (fun w => to_any ⟨ph, im, bl, ag, tr, ⟨#[]⟩, rp⟩ 6 0 false w)
      unfold HostR toH at HT
      dsimp only at HT
      obtain ⟨W, hW, hX, hR, hB⟩ := host_boxes w (.int .i64 ph) (.string im) (.int .i64 bl) (.bool ag) (.int .i64 tr) (.string rd) (.int .i64 rp)
      subst hW
      go_enter Try.func25, Try.ntmps25
      go_upto_region 1 with fail
      generalize (w.alloc _).alloc _ = W at *
      go_upto_region 2 with (first | (go_at_call 43; refine (HG.out _).mono ?_; rintro e w1 ⟨rfl, hb⟩; replace hB := thenB hB hb; replace hX := sevRB hX hb; replace hR := sevRB hR hb; clear hb))
      have hA := SetWalk.resM w1 (.int .i64 st) (.int .i64 ti) (.int .i64 0) 43
      have hn := hal w1 (.cells #[.int .i64 st, .int .i64 ti, .int .i64 0] 43)
      replace hB := thenB hB hn
      replace hX := sevRB hX hn
      replace hR := sevRB hR hn
      clear hn
      generalize w1.alloc _ = W1 at *
      generalize w1.heap.size = G at *
      go_upto_region 6 with fail
      replace hX := HstSet.set5 hX (.string ⟨#[]⟩)
      replace hR := HstSet.setO hR (show w.heap.size ≠ w.heap.size + 1 by omega) 5 (.string ⟨#[]⟩)
      replace hB := hB.setCell (p := ⟨w.heap.size, 5, none⟩) (Nat.le_refl _) (.string ⟨#[]⟩)
      generalize W1.setCell _ _ = W2 at *
      go_wp2_with (go_at_call 23; refine (HT.out _).mono ?_; rintro e w2 ⟨rfl, hb⟩; replace hB := thenB hB hb; replace hR := sevRB hR hb; clear hb)
      exact bodyPost_ret (v := .agg #[.int .i64 6, .string im, .int .i64 0, .bool false, .int .i64 tr, .string ⟨#[]⟩, .int .i64 rp]) (by simp [results, Try.results25, go_sem, hR]) rfl ⟨rfl, set7 hB (Nat.le_succ _)⟩
    rw [if_neg s0]
    by_cases s3 : sa = 3
    · subst s3
      cases ag with
      | true =>
        rw [if_pos ⟨rfl, rfl⟩]
        unfold toH
        dsimp only
        have HT := hide (fun w => to_any ⟨ph, im, bl, true, tr, rd, rp⟩ 4 bl false w)
        unfold HostR toH at HT
        dsimp only at HT
        obtain ⟨W, hW, hX, hR, hB⟩ := host_boxes w (.int .i64 ph) (.string im) (.int .i64 bl) (.bool true) (.int .i64 tr) (.string rd) (.int .i64 rp)
        subst hW
        go_enter Try.func25, Try.ntmps25
        go_upto_region 1 with fail
        generalize (w.alloc _).alloc _ = W at *
        go_upto_region 2 with (first | (go_at_call 43; refine (HG.out _).mono ?_; rintro e w1 ⟨rfl, hb⟩; replace hB := thenB hB hb; replace hX := sevRB hX hb; replace hR := sevRB hR hb; clear hb))
        have hA := SetWalk.resM w1 (.int .i64 st) (.int .i64 ti) (.int .i64 3) 43
        have hn := hal w1 (.cells #[.int .i64 st, .int .i64 ti, .int .i64 3] 43)
        replace hB := thenB hB hn
        replace hX := sevRB hX hn
        replace hR := sevRB hR hn
        clear hn
        generalize w1.alloc _ = W1 at *
        generalize w1.heap.size = G at *
        go_wp2_with (go_at_call 23; refine (HT.out _).mono ?_; rintro e w2 ⟨rfl, hb⟩; replace hB := thenB hB hb; replace hR := sevRB hR hb; clear hb)
        exact bodyPost_ret (v := .agg #[.int .i64 4, .string im, .int .i64 bl, .bool false, .int .i64 tr, .string rd, .int .i64 rp]) (by simp [results, Try.results25, go_sem, hR]) rfl ⟨rfl, set7 hB (Nat.le_succ _)⟩
      | false =>
        rw [if_neg (by decide), if_neg (by decide)]
        have HN := hide (fun w => anew_any ⟨ph, im, bl, false, tr, rd, rp⟩ w ht)
        unfold HostR at HN
        generalize anewH ⟨ph, im, bl, false, tr, rd, rp⟩ = Y at *
        obtain ⟨y0, y1, y2, y3, y4, y5, y6⟩ := Y
        dsimp only at *
        obtain ⟨W, hW, hX, hR, hB⟩ := host_boxes w (.int .i64 ph) (.string im) (.int .i64 bl) (.bool false) (.int .i64 tr) (.string rd) (.int .i64 rp)
        subst hW
        go_enter Try.func25, Try.ntmps25
        go_upto_region 1 with fail
        generalize (w.alloc _).alloc _ = W at *
        go_upto_region 2 with (first | (go_at_call 43; refine (HG.out _).mono ?_; rintro e w1 ⟨rfl, hb⟩; replace hB := thenB hB hb; replace hX := sevRB hX hb; replace hR := sevRB hR hb; clear hb))
        have hA := SetWalk.resM w1 (.int .i64 st) (.int .i64 ti) (.int .i64 3) 43
        have hn := hal w1 (.cells #[.int .i64 st, .int .i64 ti, .int .i64 3] 43)
        replace hB := thenB hB hn
        replace hX := sevRB hX hn
        replace hR := sevRB hR hn
        clear hn
        generalize w1.alloc _ = W1 at *
        generalize w1.heap.size = G at *
        go_wp2_with (go_at_call 21; refine (HN.out _).mono ?_; rintro e w2 ⟨rfl, hb⟩; replace hB := thenB hB hb; replace hR := sevRB hR hb; clear hb)
        exact bodyPost_ret (v := .agg #[.int .i64 y0, .string y1, .int .i64 y2, .bool y3, .int .i64 y4, .string y5, .int .i64 y6]) (by simp [results, Try.results25, go_sem, hR]) rfl ⟨rfl, set7 hB (Nat.le_succ _)⟩
    rw [if_neg (by omega)]
    by_cases s4 : sa = 4
    · subst s4
      rw [if_pos (by decide)]
      obtain ⟨W, hW, hX, hR, hB⟩ := host_boxes w (.int .i64 ph) (.string im) (.int .i64 bl) (.bool ag) (.int .i64 tr) (.string rd) (.int .i64 rp)
      subst hW
      go_enter Try.func25, Try.ntmps25
      go_upto_region 1 with fail
      generalize (w.alloc _).alloc _ = W at *
      go_upto_region 2 with (first | (go_at_call 43; refine (HG.out _).mono ?_; rintro e w1 ⟨rfl, hb⟩; replace hB := thenB hB hb; replace hX := sevRB hX hb; replace hR := sevRB hR hb; clear hb))
      have hA := SetWalk.resM w1 (.int .i64 st) (.int .i64 ti) (.int .i64 4) 43
      have hn := hal w1 (.cells #[.int .i64 st, .int .i64 ti, .int .i64 4] 43)
      replace hB := thenB hB hn
      replace hX := sevRB hX hn
      replace hR := sevRB hR hn
      clear hn
      generalize w1.alloc _ = W1 at *
      generalize w1.heap.size = G at *
      go_wp2_with fail
      exact bodyPost_ret (v := .agg #[.int .i64 ph, .string im, .int .i64 bl, .bool ag, .int .i64 tr, .string rd, .int .i64 rp]) (by simp [results, Try.results25, go_sem, hR]) rfl ⟨rfl, set7 hB (Nat.le_succ _)⟩
    by_cases s5 : sa = 5
    · subst s5
      rw [if_pos (by decide)]
      obtain ⟨W, hW, hX, hR, hB⟩ := host_boxes w (.int .i64 ph) (.string im) (.int .i64 bl) (.bool ag) (.int .i64 tr) (.string rd) (.int .i64 rp)
      subst hW
      go_enter Try.func25, Try.ntmps25
      go_upto_region 1 with fail
      generalize (w.alloc _).alloc _ = W at *
      go_upto_region 2 with (first | (go_at_call 43; refine (HG.out _).mono ?_; rintro e w1 ⟨rfl, hb⟩; replace hB := thenB hB hb; replace hX := sevRB hX hb; replace hR := sevRB hR hb; clear hb))
      have hA := SetWalk.resM w1 (.int .i64 st) (.int .i64 ti) (.int .i64 5) 43
      have hn := hal w1 (.cells #[.int .i64 st, .int .i64 ti, .int .i64 5] 43)
      replace hB := thenB hB hn
      replace hX := sevRB hX hn
      replace hR := sevRB hR hn
      clear hn
      generalize w1.alloc _ = W1 at *
      generalize w1.heap.size = G at *
      go_wp2_with fail
      exact bodyPost_ret (v := .agg #[.int .i64 ph, .string im, .int .i64 bl, .bool ag, .int .i64 tr, .string rd, .int .i64 rp]) (by simp [results, Try.results25, go_sem, hR]) rfl ⟨rfl, set7 hB (Nat.le_succ _)⟩
    have q0 : (sa == 0) = false := beq_eq_false_iff_ne.2 s0
    have q3 : (sa == 3) = false := beq_eq_false_iff_ne.2 s3
    have q4 : (sa == 4) = false := beq_eq_false_iff_ne.2 s4
    have q5 : (sa == 5) = false := beq_eq_false_iff_ne.2 s5
    rw [if_neg (by omega)]
    have HN := hide (fun w => anew_any ⟨ph, im, bl, ag, tr, rd, rp⟩ w ht)
    unfold HostR at HN
    generalize anewH ⟨ph, im, bl, ag, tr, rd, rp⟩ = Y at *
    obtain ⟨y0, y1, y2, y3, y4, y5, y6⟩ := Y
    dsimp only at *
    obtain ⟨W, hW, hX, hR, hB⟩ := host_boxes w (.int .i64 ph) (.string im) (.int .i64 bl) (.bool ag) (.int .i64 tr) (.string rd) (.int .i64 rp)
    subst hW
    go_enter Try.func25, Try.ntmps25
    go_upto_region 1 with fail
    generalize (w.alloc _).alloc _ = W at *
    go_upto_region 2 with (first | (go_at_call 43; refine (HG.out _).mono ?_; rintro e w1 ⟨rfl, hb⟩; replace hB := thenB hB hb; replace hX := sevRB hX hb; replace hR := sevRB hR hb; clear hb))
    have hA := SetWalk.resM w1 (.int .i64 st) (.int .i64 ti) (.int .i64 sa) 43
    have hn := hal w1 (.cells #[.int .i64 st, .int .i64 ti, .int .i64 sa] 43)
    replace hB := thenB hB hn
    replace hX := sevRB hX hn
    replace hR := sevRB hR hn
    clear hn
    generalize w1.alloc _ = W1 at *
    generalize w1.heap.size = G at *
    go_wp2_with (go_at_call 21; refine (HN.out _).mono ?_; rintro e w2 ⟨rfl, hb⟩; replace hB := thenB hB hb; replace hR := sevRB hR hb; clear hb)
    exact bodyPost_ret (v := .agg #[.int .i64 y0, .string y1, .int .i64 y2, .bool y3, .int .i64 y4, .string y5, .int .i64 y6]) (by simp [results, Try.results25, go_sem, hR]) rfl ⟨rfl, set7 hB (Nat.le_succ _)⟩
end Go.Proofs.Ytgkmallikomnaaa.RepRefs
