/- The document's own answer to any reply: the host that the plain functions give; of what was there nothing has turned. -/
import Derived.Test.YtgkmallikomnaaaRepRead
namespace Go.Proofs.Ytgkmallikomnaaa.RepTake
open Go.Proofs.Ytgkmallikomnaaa Go.RowKit Go.Proofs.Ytgkmallikomnaaa.Bytes Go.Proofs.Ytgkmallikomnaaa.NorWalk Go.Proofs.Ytgkmallikomnaaa.Hst Go.Proofs.Ytgkmallikomnaaa.HstWalk Go.Proofs.Ytgkmallikomnaaa.HstAsk Go.Proofs.Ytgkmallikomnaaa.HstRef Go.Proofs.Ytgkmallikomnaaa.Rep Go.Proofs.Ytgkmallikomnaaa.RepRef Go.Proofs.Ytgkmallikomnaaa.RepRefs Go.Proofs.Ytgkmallikomnaaa.RepRead
open Go.Proofs.Ytgkmallikomnaaa.HstHost (set7)
open Go.Proofs.Ytgkmallikomnaaa.OpsRow (boxM boxB)
attribute [local go_sem ↓] Go.wp_at_zero Go.wp_at_succ
/-- A host and an error given. -/
def Taken (w : World) (x : FHost) (k : Int) (e : Ending) (w' : World) : Prop := e = .returned (.tuple #[.agg #[.int .i64 x.ph, .string x.im, .int .i64 x.bl, .bool x.ag, .int .i64 x.tr, .string x.rd, .int .i64 x.rp], .int .i64 k]) ∧ Below w.heap.size w w'
/-- The boxes at the beginning: a host, a reply, the host that is given. -/
theorem take_boxes (w : World) (x0 x1 x2 x3 x4 x5 x6 r0 r1 r2 : Value) : ∃ W, ((w.alloc (.cells #[x0, x1, x2, x3, x4, x5, x6] 23)).alloc (.cells #[r0, r1, r2] 25)).alloc (.cells #[.int .i64 0, .string ⟨#[]⟩, .int .i64 0, .bool false, .int .i64 0, .string ⟨#[]⟩, .int .i64 0] 23) = W ∧ Sev W w.heap.size x0 x1 x2 x3 x4 x5 x6 ∧ (w.heap.size + 1 < W.heap.size ∧ W.cell? ⟨w.heap.size + 1, 0, none⟩ = some r0 ∧ W.cell? ⟨w.heap.size + 1, 1, none⟩ = some r1 ∧ W.cell? ⟨w.heap.size + 1, 2, none⟩ = some r2) ∧ SevR W (w.heap.size + 1 + 1) (.int .i64 0) (.string ⟨#[]⟩) (.int .i64 0) (.bool false) (.int .i64 0) (.string ⟨#[]⟩) (.int .i64 0) ∧ Below w.heap.size w W := by
  refine ⟨_, rfl, ?_⟩
  have h1 := sevM w x0 x1 x2 x3 x4 x5 x6 23
  have n1 := hal w (.cells #[x0, x1, x2, x3, x4, x5, x6] 23)
  have s1 : (w.alloc (.cells #[x0, x1, x2, x3, x4, x5, x6] 23)).heap.size = w.heap.size + 1 := by simp
  generalize w.alloc (.cells #[x0, x1, x2, x3, x4, x5, x6] 23) = W1 at *
  have h2 := boxM W1 r0 r1 r2 25
  have n2 := hal W1 (.cells #[r0, r1, r2] 25)
  have s2 : (W1.alloc (.cells #[r0, r1, r2] 25)).heap.size = w.heap.size + 1 + 1 := by rw [← s1]; simp
  rw [s1] at h2
  generalize W1.alloc (.cells #[r0, r1, r2] 25) = W2 at *
  have h3 := sevRM W2 (.int .i64 0) (.string ⟨#[]⟩) (.int .i64 0) (.bool false) (.int .i64 0) (.string ⟨#[]⟩) (.int .i64 0) 23
  have n3 := hal W2 (.cells #[.int .i64 0, .string ⟨#[]⟩, .int .i64 0, .bool false, .int .i64 0, .string ⟨#[]⟩, .int .i64 0] 23)
  rw [s2] at h3
  exact ⟨sevB (sevB h1 n2) n3, boxB h2 n3, h3, thenB (thenB n1 n2) n3⟩
set_option maxRecDepth 100000 in
set_option maxHeartbeats 8000000 in
theorem refTake_any (h : FHost) (lo st : Bool) (t : ByteArray) (w : World) (hz : t.size ≤ 140737488355328) : Calls Try.prog 10 #[.agg #[.int .i64 h.ph, .string h.im, .int .i64 h.bl, .bool h.ag, .int .i64 h.tr, .string h.rd, .int .i64 h.rp], .agg #[.bool lo, .bool st, .string t]] w (Taken w (takeH h lo st t) (errR (okH h))) := by
  have HM := hide (fun w => refHMay_any h.ph h.im h.bl h.ag h.tr h.rd h.rp w)
  have HI := hide (fun w => rests_any h.ph h.im h.bl h.ag h.tr h.rd h.rp w)
  cases g : okH h with
  | false =>
    rw [take_no lo st t g]
    have hc : hostB h.ph h.im h.bl h.tr h.rd h.rp = false ∨ hostB h.ph h.im h.bl h.tr h.rd h.rp = true ∧ restB h.ph = true := by
      unfold okH askB at g
      generalize hostB h.ph h.im h.bl h.tr h.rd h.rp = M at g ⊢
      generalize restB h.ph = I at g ⊢
      cases M <;> cases I <;> simp at g ⊢
    obtain ⟨ph, im, bl, ag, tr, rd, rp⟩ := h
    unfold Taken zeroH errR
    dsimp only at *
    clear g hz
    have b1 := build_h0
    generalize hostB ph im bl tr rd rp = M at *
    generalize restB ph = I at *
    obtain ⟨W, hW, hX, hY, hR, hB⟩ := take_boxes w (.int .i64 ph) (.string im) (.int .i64 bl) (.bool ag) (.int .i64 tr) (.string rd) (.int .i64 rp) (.bool lo) (.bool st) (.string t)
    subst hW
    rcases hc with rfl | ⟨rfl, rfl⟩
    all_goals
      go_enter Try.func10, Try.ntmps10
      go_upto_region 1 with fail
      generalize ((w.alloc _).alloc _).alloc _ = W at *
      go_wp2_with (first | (go_at_call 14; refine (HM.out _).mono ?_; rintro e w1 ⟨rfl, hb⟩; replace hB := thenB hB hb; replace hX := sevB hX hb; replace hR := sevRB hR hb; clear hb) | (go_at_call 19; refine (HI.out _).mono ?_; rintro e w2 ⟨rfl, hb⟩; replace hB := thenB hB hb; replace hX := sevB hX hb; replace hR := sevRB hR hb; clear hb))
      exact bodyPost_ret (v := .tuple #[.agg #[.int .i64 0, .string ⟨#[]⟩, .int .i64 0, .bool false, .int .i64 0, .string ⟨#[]⟩, .int .i64 0], .int .i64 2300]) (by simp [results, Try.results10, go_sem, hR]) rfl ⟨rfl, set7 hB (by omega)⟩
  | true =>
    rw [take_ok lo st t g]
    obtain ⟨g1, g0, g7⟩ := ok_parts.1 g
    have hr : restB h.ph = false := decide_eq_false (by omega)
    have hp := (ok_nums g).1
    have ht := (ok_nums g).2.2.2.2.1.1
    unfold mayH at g1
    rw [g1] at HM
    rw [hr] at HI
    have KL := hide (fun w => lost_any h w ht)
    have KA := hide (fun w => anew_any h w ht)
    have K1 := hide (fun w => cleared_any h t w g)
    have K3 := hide (fun w => polled_any h t w g)
    have K5 := hide (fun w => waited_any h t w g)
    have K6 := hide (fun w => read_any h t w g hz)
    clear g g1 hz ht hr g0 g7
    unfold goH
    unfold Taken errR
    unfold HostR at KL KA K1 K3 K5 K6
    generalize lostH h = XL at *
    generalize anewH h = XA at *
    generalize clearedH h t = X1 at *
    generalize polledH h t = X3 at *
    generalize waitedH h t = X5 at *
    generalize readH h t = X6 at *
    obtain ⟨ph, im, bl, ag, tr, rd, rp⟩ := h
    unfold toH
    dsimp only at *
    obtain ⟨W, hW, hX, hY, hR, hB⟩ := take_boxes w (.int .i64 ph) (.string im) (.int .i64 bl) (.bool ag) (.int .i64 tr) (.string rd) (.int .i64 rp) (.bool lo) (.bool st) (.string t)
    subst hW
    cases lo with
    | true =>
      rw [if_pos rfl]
      obtain ⟨y0, y1, y2, y3, y4, y5, y6⟩ := XL
      dsimp only at *
      clear KA K1 K3 K5 K6
      go_enter Try.func10, Try.ntmps10
      go_upto_region 1 with fail
      generalize ((w.alloc _).alloc _).alloc _ = W at *
      go_wp2_with (first | (go_at_call 14; refine (HM.out _).mono ?_; rintro e w1 ⟨rfl, hb⟩; replace hB := thenB hB hb; replace hX := sevB hX hb; replace hY := boxB hY hb; replace hR := sevRB hR hb; clear hb) | (go_at_call 19; refine (HI.out _).mono ?_; rintro e w2 ⟨rfl, hb⟩; replace hB := thenB hB hb; replace hX := sevB hX hb; replace hY := boxB hY hb; replace hR := sevRB hR hb; clear hb) | (go_at_call 20; refine (KL.out _).mono ?_; rintro e w3 ⟨rfl, hb⟩; replace hB := thenB hB hb; replace hR := sevRB hR hb; clear hb))
      exact bodyPost_ret (v := .tuple #[.agg #[.int .i64 y0, .string y1, .int .i64 y2, .bool y3, .int .i64 y4, .string y5, .int .i64 y6], .int .i64 0]) (by simp [results, Try.results10, go_sem, hR]) rfl ⟨rfl, set7 hB (by omega)⟩
    | false =>
      rw [if_neg (by decide)]
      cases st with
      | true =>
        rw [if_pos rfl]
        obtain ⟨y0, y1, y2, y3, y4, y5, y6⟩ := XA
        dsimp only at *
        clear KL K1 K3 K5 K6
        go_enter Try.func10, Try.ntmps10
        go_upto_region 1 with fail
        generalize ((w.alloc _).alloc _).alloc _ = W at *
        go_wp2_with (first | (go_at_call 14; refine (HM.out _).mono ?_; rintro e w1 ⟨rfl, hb⟩; replace hB := thenB hB hb; replace hX := sevB hX hb; replace hY := boxB hY hb; replace hR := sevRB hR hb; clear hb) | (go_at_call 19; refine (HI.out _).mono ?_; rintro e w2 ⟨rfl, hb⟩; replace hB := thenB hB hb; replace hX := sevB hX hb; replace hY := boxB hY hb; replace hR := sevRB hR hb; clear hb) | (go_at_call 21; refine (KA.out _).mono ?_; rintro e w3 ⟨rfl, hb⟩; replace hB := thenB hB hb; replace hR := sevRB hR hb; clear hb))
        exact bodyPost_ret (v := .tuple #[.agg #[.int .i64 y0, .string y1, .int .i64 y2, .bool y3, .int .i64 y4, .string y5, .int .i64 y6], .int .i64 0]) (by simp [results, Try.results10, go_sem, hR]) rfl ⟨rfl, set7 hB (by omega)⟩
      | false =>
        rw [if_neg (by decide)]
        by_cases p1 : ph = 1
        · subst p1
          rw [if_pos rfl]
          obtain ⟨y0, y1, y2, y3, y4, y5, y6⟩ := X1
          dsimp only at *
          clear KL KA K3 K5 K6
          go_enter Try.func10, Try.ntmps10
          go_upto_region 1 with fail
          generalize ((w.alloc _).alloc _).alloc _ = W at *
          go_wp2_with (first | (go_at_call 14; refine (HM.out _).mono ?_; rintro e w1 ⟨rfl, hb⟩; replace hB := thenB hB hb; replace hX := sevB hX hb; replace hY := boxB hY hb; replace hR := sevRB hR hb; clear hb) | (go_at_call 19; refine (HI.out _).mono ?_; rintro e w2 ⟨rfl, hb⟩; replace hB := thenB hB hb; replace hX := sevB hX hb; replace hY := boxB hY hb; replace hR := sevRB hR hb; clear hb) | (go_at_call 22; refine (K1.out _).mono ?_; rintro e w3 ⟨rfl, hb⟩; replace hB := thenB hB hb; replace hR := sevRB hR hb; clear hb))
          exact bodyPost_ret (v := .tuple #[.agg #[.int .i64 y0, .string y1, .int .i64 y2, .bool y3, .int .i64 y4, .string y5, .int .i64 y6], .int .i64 0]) (by simp [results, Try.results10, go_sem, hR]) rfl ⟨rfl, set7 hB (by omega)⟩
        by_cases p2 : ph = 2
        · subst p2
          rw [if_neg (by decide), if_pos rfl]
          have KT := hide (fun w => to_any ⟨2, im, bl, ag, tr, rd, rp⟩ 3 bl false w)
          unfold HostR toH at KT
          dsimp only at KT ⊢
          clear KL KA K1 K3 K5 K6
          go_enter Try.func10, Try.ntmps10
          go_upto_region 1 with fail
          generalize ((w.alloc _).alloc _).alloc _ = W at *
          go_wp2_with (first | (go_at_call 14; refine (HM.out _).mono ?_; rintro e w1 ⟨rfl, hb⟩; replace hB := thenB hB hb; replace hX := sevB hX hb; replace hY := boxB hY hb; replace hR := sevRB hR hb; clear hb) | (go_at_call 19; refine (HI.out _).mono ?_; rintro e w2 ⟨rfl, hb⟩; replace hB := thenB hB hb; replace hX := sevB hX hb; replace hY := boxB hY hb; replace hR := sevRB hR hb; clear hb) | (go_at_call 23; refine (KT.out _).mono ?_; rintro e w3 ⟨rfl, hb⟩; replace hB := thenB hB hb; replace hR := sevRB hR hb; clear hb))
          exact bodyPost_ret (v := .tuple #[.agg #[.int .i64 3, .string im, .int .i64 bl, .bool false, .int .i64 tr, .string rd, .int .i64 rp], .int .i64 0]) (by simp [results, Try.results10, go_sem, hR]) rfl ⟨rfl, set7 hB (by omega)⟩
        by_cases p3 : ph = 3
        · subst p3
          rw [if_neg (by decide), if_neg (by decide), if_pos rfl]
          obtain ⟨y0, y1, y2, y3, y4, y5, y6⟩ := X3
          dsimp only at *
          clear KL KA K1 K5 K6
          go_enter Try.func10, Try.ntmps10
          go_upto_region 1 with fail
          generalize ((w.alloc _).alloc _).alloc _ = W at *
          go_wp2_with (first | (go_at_call 14; refine (HM.out _).mono ?_; rintro e w1 ⟨rfl, hb⟩; replace hB := thenB hB hb; replace hX := sevB hX hb; replace hY := boxB hY hb; replace hR := sevRB hR hb; clear hb) | (go_at_call 19; refine (HI.out _).mono ?_; rintro e w2 ⟨rfl, hb⟩; replace hB := thenB hB hb; replace hX := sevB hX hb; replace hY := boxB hY hb; replace hR := sevRB hR hb; clear hb) | (go_at_call 24; refine (K3.out _).mono ?_; rintro e w3 ⟨rfl, hb⟩; replace hB := thenB hB hb; replace hR := sevRB hR hb; clear hb))
          exact bodyPost_ret (v := .tuple #[.agg #[.int .i64 y0, .string y1, .int .i64 y2, .bool y3, .int .i64 y4, .string y5, .int .i64 y6], .int .i64 0]) (by simp [results, Try.results10, go_sem, hR]) rfl ⟨rfl, set7 hB (by omega)⟩
        by_cases p4 : ph = 4
        · subst p4
          rw [if_neg (by decide), if_neg (by decide), if_neg (by decide), if_pos rfl]
          have KT := hide (fun w => to_any ⟨4, im, bl, ag, tr, rd, rp⟩ 5 bl false w)
          unfold HostR toH at KT
          dsimp only at KT ⊢
          clear KL KA K1 K3 K5 K6
          go_enter Try.func10, Try.ntmps10
          go_upto_region 1 with fail
          generalize ((w.alloc _).alloc _).alloc _ = W at *
          go_wp2_with (first | (go_at_call 14; refine (HM.out _).mono ?_; rintro e w1 ⟨rfl, hb⟩; replace hB := thenB hB hb; replace hX := sevB hX hb; replace hY := boxB hY hb; replace hR := sevRB hR hb; clear hb) | (go_at_call 19; refine (HI.out _).mono ?_; rintro e w2 ⟨rfl, hb⟩; replace hB := thenB hB hb; replace hX := sevB hX hb; replace hY := boxB hY hb; replace hR := sevRB hR hb; clear hb) | (go_at_call 23; refine (KT.out _).mono ?_; rintro e w3 ⟨rfl, hb⟩; replace hB := thenB hB hb; replace hR := sevRB hR hb; clear hb))
          exact bodyPost_ret (v := .tuple #[.agg #[.int .i64 5, .string im, .int .i64 bl, .bool false, .int .i64 tr, .string rd, .int .i64 rp], .int .i64 0]) (by simp [results, Try.results10, go_sem, hR]) rfl ⟨rfl, set7 hB (by omega)⟩
        by_cases p5 : ph = 5
        · subst p5
          rw [if_neg (by decide), if_neg (by decide), if_neg (by decide), if_neg (by decide), if_pos rfl]
          obtain ⟨y0, y1, y2, y3, y4, y5, y6⟩ := X5
          dsimp only at *
          clear KL KA K1 K3 K6
          go_enter Try.func10, Try.ntmps10
          go_upto_region 1 with fail
          generalize ((w.alloc _).alloc _).alloc _ = W at *
          go_wp2_with (first | (go_at_call 14; refine (HM.out _).mono ?_; rintro e w1 ⟨rfl, hb⟩; replace hB := thenB hB hb; replace hX := sevB hX hb; replace hY := boxB hY hb; replace hR := sevRB hR hb; clear hb) | (go_at_call 19; refine (HI.out _).mono ?_; rintro e w2 ⟨rfl, hb⟩; replace hB := thenB hB hb; replace hX := sevB hX hb; replace hY := boxB hY hb; replace hR := sevRB hR hb; clear hb) | (go_at_call 25; refine (K5.out _).mono ?_; rintro e w3 ⟨rfl, hb⟩; replace hB := thenB hB hb; replace hR := sevRB hR hb; clear hb))
          exact bodyPost_ret (v := .tuple #[.agg #[.int .i64 y0, .string y1, .int .i64 y2, .bool y3, .int .i64 y4, .string y5, .int .i64 y6], .int .i64 0]) (by simp [results, Try.results10, go_sem, hR]) rfl ⟨rfl, set7 hB (by omega)⟩
        obtain rfl : ph = 6 := by omega
        rw [if_neg (by decide), if_neg (by decide), if_neg (by decide), if_neg (by decide), if_neg (by decide)]
        obtain ⟨y0, y1, y2, y3, y4, y5, y6⟩ := X6
        dsimp only at *
        clear KL KA K1 K3 K5
        go_enter Try.func10, Try.ntmps10
        go_upto_region 1 with fail
        generalize ((w.alloc _).alloc _).alloc _ = W at *
        go_wp2_with (first | (go_at_call 14; refine (HM.out _).mono ?_; rintro e w1 ⟨rfl, hb⟩; replace hB := thenB hB hb; replace hX := sevB hX hb; replace hY := boxB hY hb; replace hR := sevRB hR hb; clear hb) | (go_at_call 19; refine (HI.out _).mono ?_; rintro e w2 ⟨rfl, hb⟩; replace hB := thenB hB hb; replace hX := sevB hX hb; replace hY := boxB hY hb; replace hR := sevRB hR hb; clear hb) | (go_at_call 26; refine (K6.out _).mono ?_; rintro e w3 ⟨rfl, hb⟩; replace hB := thenB hB hb; replace hR := sevRB hR hb; clear hb))
        exact bodyPost_ret (v := .tuple #[.agg #[.int .i64 y0, .string y1, .int .i64 y2, .bool y3, .int .i64 y4, .string y5, .int .i64 y6], .int .i64 0]) (by simp [results, Try.results10, go_sem, hR]) rfl ⟨rfl, set7 hB (by omega)⟩
end Go.Proofs.Ytgkmallikomnaaa.RepTake
