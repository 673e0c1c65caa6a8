/- The document's own makings of a reply, way by way: the host that the plain functions give; of what was there nothing has turned. -/
import Derived.Test.YtgkmallikomnaaaRepMath
import Derived.Test.YtgkmallikomnaaaBagHsr
import Derived.Test.YtgkmallikomnaaaBagHst
import Derived.Test.YtgkmallikomnaaaBagAnr
namespace Go.Proofs.Ytgkmallikomnaaa.RepRef
open Go.Proofs.Ytgkmallikomnaaa Go.RowKit Go.Proofs.Ytgkmallikomnaaa.Bytes Go.Proofs.Ytgkmallikomnaaa.NorWalk Go.Proofs.Ytgkmallikomnaaa.Hst Go.Proofs.Ytgkmallikomnaaa.HstWalk Go.Proofs.Ytgkmallikomnaaa.HstAsk Go.Proofs.Ytgkmallikomnaaa.HstRef Go.Proofs.Ytgkmallikomnaaa.Rep
open Go.Proofs.Ytgkmallikomnaaa.HstHost (set7)
open Go.Proofs.Ytgkmallikomnaaa.OpsRow (boxM boxB boxD thenD)
open Go.Proofs.Ytgkmallikomnaaa.Blo (nP)
open Go.Proofs.Ytgkmallikomnaaa.Ans (isAns aSt aTi aSa)
attribute [local go_sem ↓] Go.wp_at_zero Go.wp_at_succ
theorem build_over (s : ByteArray) (w : World) : (Instr.build 23 #[(0, .int .i64 7), (6, .int .i64 2), (4, .int .i64 8), (1, .string s)]).run Try.prog w = .ok (.agg #[.int .i64 7, .string s, .int .i64 0, .bool false, .int .i64 8, .string ⟨#[]⟩, .int .i64 2]) w := run_build w 23 _ _ (by kernel_rfl)
theorem build_good (x : Int) (s : ByteArray) (g : Bool) (w : World) : (Instr.build 23 #[(0, .int .i64 7), (6, .int .i64 1), (4, .int .i64 x), (1, .string s), (3, .bool g)]).run Try.prog w = .ok (.agg #[.int .i64 7, .string s, .int .i64 0, .bool g, .int .i64 x, .string ⟨#[]⟩, .int .i64 1]) w := run_build w 23 _ _ (by kernel_rfl)
/-- A host given. -/
def HostR (w : World) (x : FHost) (e : Ending) (w' : World) : Prop := e = .returned (.agg #[.int .i64 x.ph, .string x.im, .int .i64 x.bl, .bool x.ag, .int .i64 x.tr, .string x.rd, .int .i64 x.rp]) ∧ Below w.heap.size w w'
/-- The boxes at such a one's beginning: the host, the host that is given. -/
theorem host_boxes (w : World) (x0 x1 x2 x3 x4 x5 x6 : Value) : ∃ W, (w.alloc (.cells #[x0, x1, x2, x3, x4, x5, x6] 23)).alloc (.cells #[.int .i64 0, .string ⟨#[]⟩, .int .i64 0, .bool false, .int .i64 0, .string ⟨#[]⟩, .int .i64 0] 23) = W ∧ SevR W w.heap.size x0 x1 x2 x3 x4 x5 x6 ∧ SevR W (w.heap.size + 1) (.int .i64 0) (.string ⟨#[]⟩) (.int .i64 0) (.bool false) (.int .i64 0) (.string ⟨#[]⟩) (.int .i64 0) ∧ Below w.heap.size w W := by
  refine ⟨_, rfl, ?_⟩
  have h1 := sevRM w x0 x1 x2 x3 x4 x5 x6 23
  have n1 := hal w (.cells #[x0, x1, x2, x3, x4, x5, x6] 23)
  have s1 : (w.alloc (.cells #[x0, x1, x2, x3, x4, x5, x6] 23)).heap.size = w.heap.size + 1 := by simp
  generalize w.alloc (.cells #[x0, x1, x2, x3, x4, x5, x6] 23) = W1 at *
  have h2 := sevRM W1 (.int .i64 0) (.string ⟨#[]⟩) (.int .i64 0) (.bool false) (.int .i64 0) (.string ⟨#[]⟩) (.int .i64 0) 23
  have n2 := hal W1 (.cells #[.int .i64 0, .string ⟨#[]⟩, .int .i64 0, .bool false, .int .i64 0, .string ⟨#[]⟩, .int .i64 0] 23)
  rw [s1] at h2
  exact ⟨sevRB h1 n2, h2, thenB n1 n2⟩
set_option maxRecDepth 100000 in
set_option maxHeartbeats 1000000 in
theorem to_any (h : FHost) (p b : Int) (g : Bool) (w : World) : Calls Try.prog 23 #[.agg #[.int .i64 h.ph, .string h.im, .int .i64 h.bl, .bool h.ag, .int .i64 h.tr, .string h.rd, .int .i64 h.rp], .int .i64 p, .int .i64 b, .bool g] w (HostR w (toH h p b g)) := by
  obtain ⟨ph, im, bl, ag, tr, rd, rp⟩ := h
  unfold HostR toH
  dsimp only
  obtain ⟨W, hW, hX, hR, hB⟩ := host_boxes w (.int .i64 ph) (.string im) (.int .i64 bl) (.bool ag) (.int .i64 tr) (.string rd) (.int .i64 rp)
  have hG : w.heap.size ≠ w.heap.size + 1 := by omega
  subst hW
  go_enter Try.func23, Try.ntmps23
  go_upto_region 1 with fail
  generalize (w.alloc _).alloc _ = W at *
  go_upto_region 4 with fail
  replace hX := HstSet.set3 (HstSet.set2 (HstSet.set0 hX (.int .i64 p)) (.int .i64 b)) (.bool g)
  replace hR := HstSet.setO (HstSet.setO (HstSet.setO hR hG 0 (.int .i64 p)) hG 2 (.int .i64 b)) hG 3 (.bool g)
  replace hB := ((hB.setCell (p := ⟨w.heap.size, 0, none⟩) (Nat.le_refl _) (.int .i64 p)).setCell (p := ⟨w.heap.size, 2, none⟩) (Nat.le_refl _) (.int .i64 b)).setCell (p := ⟨w.heap.size, 3, none⟩) (Nat.le_refl _) (.bool g)
  generalize ((W.setCell _ _).setCell _ _).setCell _ _ = W2 at *
  go_wp2
  exact bodyPost_ret (v := .agg #[.int .i64 p, .string im, .int .i64 b, .bool g, .int .i64 tr, .string rd, .int .i64 rp]) (by simp [results, Try.results23, go_sem, hR]) rfl ⟨rfl, set7 hB (Nat.le_succ _)⟩
/-- One thing more went wrong: the host; does it go on? -/
def WrongR (w : World) (x : FHost) (g : Bool) (e : Ending) (w' : World) : Prop := e = .returned (.tuple #[.agg #[.int .i64 x.ph, .string x.im, .int .i64 x.bl, .bool x.ag, .int .i64 x.tr, .string x.rd, .int .i64 x.rp], .bool g]) ∧ Below w.heap.size w w'
set_option maxRecDepth 100000 in
set_option maxHeartbeats 1000000 in
theorem wrong_any (h : FHost) (w : World) (ht : 0 ≤ h.tr) : Calls Try.prog 42 #[.agg #[.int .i64 h.ph, .string h.im, .int .i64 h.bl, .bool h.ag, .int .i64 h.tr, .string h.rd, .int .i64 h.rp]] w (WrongR w (wrongH h) (!overB h)) := by
  cases ho : overB h with
  | true =>
    have e : wrongH h = overH h := by unfold wrongH; rw [ho]; rfl
    have h8 := over_iff.1 ho
    rw [e]
    clear e ho
    obtain ⟨ph, im, bl, ag, tr, rd, rp⟩ := h
    unfold WrongR overH
    dsimp only at *
    obtain ⟨W, hW, hX, hR, hB⟩ := host_boxes w (.int .i64 ph) (.string im) (.int .i64 bl) (.bool ag) (.int .i64 tr) (.string rd) (.int .i64 rp)
    have b1 := build_over
    subst hW
    go_enter Try.func42, Try.ntmps42
    go_upto_region 1 with fail
    generalize (w.alloc _).alloc _ = W at *
    go_wp2
    exact bodyPost_ret (v := .tuple #[.agg #[.int .i64 7, .string im, .int .i64 0, .bool false, .int .i64 8, .string ⟨#[]⟩, .int .i64 2], .bool false]) (by simp [results, Try.results42, go_sem, hR]) rfl ⟨rfl, set7 hB (Nat.le_succ _)⟩
  | false =>
    have e : wrongH h = moreH h := by unfold wrongH; rw [ho]; rfl
    have h8 := over_not.1 ho
    rw [e]
    clear e ho
    obtain ⟨ph, im, bl, ag, tr, rd, rp⟩ := h
    unfold WrongR moreH
    dsimp only at *
    obtain ⟨W, hW, hX, hR, hB⟩ := host_boxes w (.int .i64 ph) (.string im) (.int .i64 bl) (.bool ag) (.int .i64 tr) (.string rd) (.int .i64 rp)
    have hG : w.heap.size ≠ w.heap.size + 1 := by omega
    subst hW
    go_enter Try.func42, Try.ntmps42
    go_upto_region 1 with fail
    generalize (w.alloc _).alloc _ = W at *
    go_upto_region 4 with fail
    replace hX := HstSet.set4 hX (.int .i64 (tr + 1))
    replace hR := HstSet.setO hR hG 4 (.int .i64 (tr + 1))
    replace hB := hB.setCell (p := ⟨w.heap.size, 4, none⟩) (Nat.le_refl _) (.int .i64 (tr + 1))
    generalize W.setCell _ _ = W2 at *
    go_wp2
    exact bodyPost_ret (v := .tuple #[.agg #[.int .i64 ph, .string im, .int .i64 bl, .bool ag, .int .i64 (tr + 1), .string rd, .int .i64 rp], .bool true]) (by simp [results, Try.results42, go_sem, hR]) rfl ⟨rfl, set7 hB (Nat.le_succ _)⟩
set_option maxRecDepth 100000 in
set_option maxHeartbeats 4000000 in
theorem anew_any (h : FHost) (w : World) (ht : 0 ≤ h.tr) : Calls Try.prog 21 #[.agg #[.int .i64 h.ph, .string h.im, .int .i64 h.bl, .bool h.ag, .int .i64 h.tr, .string h.rd, .int .i64 h.rp]] w (HostR w (anewH h)) := by
  have HW := hide (fun w => wrong_any h w ht)
  unfold WrongR at HW
  cases ho : overB h with
  | true =>
    have e1 : anewH h = overH h := by unfold anewH; rw [ho]; rfl
    have e2 : wrongH h = overH h := by unfold wrongH; rw [ho]; rfl
    rw [e1]
    rw [e2, ho] at HW
    clear e1 e2 ho ht
    obtain ⟨ph, im, bl, ag, tr, rd, rp⟩ := h
    unfold HostR
    unfold overH at *
    dsimp only [Bool.not_true] at *
    obtain ⟨W, hW, hX, hR, hB⟩ := host_boxes w (.int .i64 ph) (.string im) (.int .i64 bl) (.bool ag) (.int .i64 tr) (.string rd) (.int .i64 rp)
    subst hW
    go_enter Try.func21, Try.ntmps21
    go_upto_region 1 with fail
    generalize (w.alloc _).alloc _ = W at *
    go_upto_region 2 with (go_at_call 42; refine (HW.out _).mono ?_; rintro e w1 ⟨rfl, hb⟩; replace hB := thenB hB hb; replace hX := sevRB hX hb; replace hR := sevRB hR hb; clear hb)
    have hY := sevRM w1 (.int .i64 7) (.string im) (.int .i64 0) (.bool false) (.int .i64 8) (.string ⟨#[]⟩) (.int .i64 2) 23
    have hn := hal w1 (.cells #[.int .i64 7, .string im, .int .i64 0, .bool false, .int .i64 8, .string ⟨#[]⟩, .int .i64 2] 23)
    have hlx := hX.1
    have hlr := hR.1
    have hl := hB.size
    replace hB := thenB hB hn
    replace hX := sevRB hX hn
    replace hR := sevRB hR hn
    clear hn HW
    generalize w1.alloc _ = W1 at *
    generalize w1.heap.size = G at *
    have n1 : G ≠ w.heap.size := by omega
    have n2 : G ≠ w.heap.size + 1 := by omega
    clear hlx hlr
    go_wp2_with fail
    exact bodyPost_ret (v := .agg #[.int .i64 7, .string im, .int .i64 0, .bool false, .int .i64 8, .string ⟨#[]⟩, .int .i64 2]) (by simp [results, Try.results21, go_sem, hR]) rfl ⟨rfl, set7 hB (Nat.le_succ _)⟩
  | false =>
    have e1 : anewH h = freshH h := by unfold anewH; rw [ho]; rfl
    have e2 : wrongH h = moreH h := by unfold wrongH; rw [ho]; rfl
    rw [e1]
    rw [e2, ho] at HW
    clear e1 e2 ho ht
    obtain ⟨ph, im, bl, ag, tr, rd, rp⟩ := h
    have HT := hide (fun w => to_any ⟨ph, im, bl, ag, tr + 1, ⟨#[]⟩, rp⟩ 1 0 false w)
    unfold HostR toH at HT
    unfold HostR
    unfold freshH
    unfold moreH at HW
    dsimp only [Bool.not_false] at *
    obtain ⟨W, hW, hX, hR, hB⟩ := host_boxes w (.int .i64 ph) (.string im) (.int .i64 bl) (.bool ag) (.int .i64 tr) (.string rd) (.int .i64 rp)
    subst hW
    go_enter Try.func21, Try.ntmps21
    go_upto_region 1 with fail
    generalize (w.alloc _).alloc _ = W at *
    go_upto_region 2 with (go_at_call 42; refine (HW.out _).mono ?_; rintro e w1 ⟨rfl, hb⟩; replace hB := thenB hB hb; replace hX := sevRB hX hb; replace hR := sevRB hR hb; clear hb)
    have hY := sevRM w1 (.int .i64 ph) (.string im) (.int .i64 bl) (.bool ag) (.int .i64 (tr + 1)) (.string rd) (.int .i64 rp) 23
    have hn := hal w1 (.cells #[.int .i64 ph, .string im, .int .i64 bl, .bool ag, .int .i64 (tr + 1), .string rd, .int .i64 rp] 23)
    have hlx := hX.1
    have hlr := hR.1
    have hl := hB.size
    replace hB := thenB hB hn
    replace hX := sevRB hX hn
    replace hR := sevRB hR hn
    clear hn HW
    generalize w1.alloc _ = W1 at *
    generalize w1.heap.size = G at *
    have n1 : G ≠ w.heap.size := by omega
    have n2 : G ≠ w.heap.size + 1 := by omega
    clear hlx hlr
    go_upto_region 5 with fail
    replace hY := HstSet.set5 hY (.string ⟨#[]⟩)
    replace hX := HstSet.setO hX n1 5 (.string ⟨#[]⟩)
    replace hR := HstSet.setO hR n2 5 (.string ⟨#[]⟩)
    replace hB := hB.setCell (p := ⟨G, 5, none⟩) hl (.string ⟨#[]⟩)
    generalize W1.setCell _ _ = W2 at *
    go_wp2_with (go_at_call 23; refine (HT.out _).mono ?_; rintro e w2 ⟨rfl, hb⟩; replace hB := thenB hB hb; replace hR := sevRB hR hb; clear hb)
    exact bodyPost_ret (v := .agg #[.int .i64 1, .string im, .int .i64 0, .bool false, .int .i64 (tr + 1), .string ⟨#[]⟩, .int .i64 rp]) (by simp [results, Try.results21, go_sem, hR]) rfl ⟨rfl, set7 hB (Nat.le_succ _)⟩
set_option maxRecDepth 100000 in
set_option maxHeartbeats 4000000 in
theorem lost_any (h : FHost) (w : World) (ht : 0 ≤ h.tr) : Calls Try.prog 20 #[.agg #[.int .i64 h.ph, .string h.im, .int .i64 h.bl, .bool h.ag, .int .i64 h.tr, .string h.rd, .int .i64 h.rp]] w (HostR w (lostH h)) := by
  have HW := hide (fun w => wrong_any h w ht)
  unfold WrongR at HW
  cases ho : overB h with
  | true =>
    have e1 : lostH h = overH h := by unfold lostH; rw [ho]; rfl
    have e2 : wrongH h = overH h := by unfold wrongH; rw [ho]; rfl
    rw [e1]
    rw [e2, ho] at HW
    clear e1 e2 ho ht
    obtain ⟨ph, im, bl, ag, tr, rd, rp⟩ := h
    unfold HostR
    unfold overH at *
    dsimp only [Bool.not_true] at *
    obtain ⟨W, hW, hX, hR, hB⟩ := host_boxes w (.int .i64 ph) (.string im) (.int .i64 bl) (.bool ag) (.int .i64 tr) (.string rd) (.int .i64 rp)
    subst hW
    go_enter Try.func20, Try.ntmps20
    go_upto_region 1 with fail
    generalize (w.alloc _).alloc _ = W at *
    go_upto_region 2 with (go_at_call 42; refine (HW.out _).mono ?_; rintro e w1 ⟨rfl, hb⟩; replace hB := thenB hB hb; replace hX := sevRB hX hb; replace hR := sevRB hR hb; clear hb)
    have hY := sevRM w1 (.int .i64 7) (.string im) (.int .i64 0) (.bool false) (.int .i64 8) (.string ⟨#[]⟩) (.int .i64 2) 23
    have hn := hal w1 (.cells #[.int .i64 7, .string im, .int .i64 0, .bool false, .int .i64 8, .string ⟨#[]⟩, .int .i64 2] 23)
    have hlx := hX.1
    have hlr := hR.1
    have hl := hB.size
    replace hB := thenB hB hn
    replace hX := sevRB hX hn
    replace hR := sevRB hR hn
    clear hn HW
    generalize w1.alloc _ = W1 at *
    generalize w1.heap.size = G at *
    have n1 : G ≠ w.heap.size := by omega
    have n2 : G ≠ w.heap.size + 1 := by omega
    clear hlx hlr
    go_wp2_with fail
    exact bodyPost_ret (v := .agg #[.int .i64 7, .string im, .int .i64 0, .bool false, .int .i64 8, .string ⟨#[]⟩, .int .i64 2]) (by simp [results, Try.results20, go_sem, hR]) rfl ⟨rfl, set7 hB (Nat.le_succ _)⟩
  | false =>
    have e1 : lostH h = goneH h := by unfold lostH; rw [ho]; rfl
    have e2 : wrongH h = moreH h := by unfold wrongH; rw [ho]; rfl
    rw [e1]
    rw [e2, ho] at HW
    clear e1 e2 ho ht
    obtain ⟨ph, im, bl, ag, tr, rd, rp⟩ := h
    unfold HostR
    unfold moreH at HW
    dsimp only [Bool.not_false] at *
    by_cases p1 : ph = 1
    · subst p1
      have HT := hide (fun w => to_any ⟨1, im, bl, ag, tr + 1, ⟨#[]⟩, rp⟩ 1 0 false w)
      unfold HostR toH at HT
      show Calls _ _ _ _ fun e w' => e = .returned (.agg #[.int .i64 1, .string im, .int .i64 0, .bool false, .int .i64 (tr + 1), .string ⟨#[]⟩, .int .i64 rp]) ∧ _
      dsimp only at *
      obtain ⟨W, hW, hX, hR, hB⟩ := host_boxes w (.int .i64 1) (.string im) (.int .i64 bl) (.bool ag) (.int .i64 tr) (.string rd) (.int .i64 rp)
      subst hW
      go_enter Try.func20, Try.ntmps20
      go_upto_region 1 with fail
      generalize (w.alloc _).alloc _ = W at *
      go_upto_region 2 with (go_at_call 42; refine (HW.out _).mono ?_; rintro e w1 ⟨rfl, hb⟩; replace hB := thenB hB hb; replace hX := sevRB hX hb; replace hR := sevRB hR hb; clear hb)
      have hY := sevRM w1 (.int .i64 1) (.string im) (.int .i64 bl) (.bool ag) (.int .i64 (tr + 1)) (.string rd) (.int .i64 rp) 23
      have hn := hal w1 (.cells #[.int .i64 1, .string im, .int .i64 bl, .bool ag, .int .i64 (tr + 1), .string rd, .int .i64 rp] 23)
      have hlx := hX.1
      have hlr := hR.1
      have hl := hB.size
      replace hB := thenB hB hn
      replace hX := sevRB hX hn
      replace hR := sevRB hR hn
      clear hn HW
      generalize w1.alloc _ = W1 at *
      generalize w1.heap.size = G at *
      have n1 : G ≠ w.heap.size := by omega
      have n2 : G ≠ w.heap.size + 1 := by omega
      clear hlx hlr
      go_upto_region 7 with fail
      replace hY := HstSet.set5 hY (.string ⟨#[]⟩)
      replace hX := HstSet.setO hX n1 5 (.string ⟨#[]⟩)
      replace hR := HstSet.setO hR n2 5 (.string ⟨#[]⟩)
      replace hB := hB.setCell (p := ⟨G, 5, none⟩) hl (.string ⟨#[]⟩)
      generalize W1.setCell _ _ = W2 at *
      go_wp2_with (go_at_call 23; refine (HT.out _).mono ?_; rintro e w2 ⟨rfl, hb⟩; replace hB := thenB hB hb; replace hR := sevRB hR hb; clear hb)
      exact bodyPost_ret (v := .agg #[.int .i64 1, .string im, .int .i64 0, .bool false, .int .i64 (tr + 1), .string ⟨#[]⟩, .int .i64 rp]) (by simp [results, Try.results20, go_sem, hR]) rfl ⟨rfl, set7 hB (Nat.le_succ _)⟩
    by_cases p2 : ph = 2
    · subst p2
      have HT := hide (fun w => to_any ⟨2, im, bl, ag, tr + 1, rd, rp⟩ 3 bl true w)
      unfold HostR toH at HT
      show Calls _ _ _ _ fun e w' => e = .returned (.agg #[.int .i64 3, .string im, .int .i64 bl, .bool true, .int .i64 (tr + 1), .string rd, .int .i64 rp]) ∧ _
      dsimp only at *
      obtain ⟨W, hW, hX, hR, hB⟩ := host_boxes w (.int .i64 2) (.string im) (.int .i64 bl) (.bool ag) (.int .i64 tr) (.string rd) (.int .i64 rp)
      subst hW
      go_enter Try.func20, Try.ntmps20
      go_upto_region 1 with fail
      generalize (w.alloc _).alloc _ = W at *
      go_upto_region 2 with (go_at_call 42; refine (HW.out _).mono ?_; rintro e w1 ⟨rfl, hb⟩; replace hB := thenB hB hb; replace hX := sevRB hX hb; replace hR := sevRB hR hb; clear hb)
      have hY := sevRM w1 (.int .i64 2) (.string im) (.int .i64 bl) (.bool ag) (.int .i64 (tr + 1)) (.string rd) (.int .i64 rp) 23
      have hn := hal w1 (.cells #[.int .i64 2, .string im, .int .i64 bl, .bool ag, .int .i64 (tr + 1), .string rd, .int .i64 rp] 23)
      have hlx := hX.1
      have hlr := hR.1
      have hl := hB.size
      replace hB := thenB hB hn
      replace hX := sevRB hX hn
      replace hR := sevRB hR hn
      clear hn HW
      generalize w1.alloc _ = W1 at *
      generalize w1.heap.size = G at *
      have n1 : G ≠ w.heap.size := by omega
      have n2 : G ≠ w.heap.size + 1 := by omega
      clear hlx hlr
      go_wp2_with (go_at_call 23; refine (HT.out _).mono ?_; rintro e w2 ⟨rfl, hb⟩; replace hB := thenB hB hb; replace hR := sevRB hR hb; clear hb)
      exact bodyPost_ret (v := .agg #[.int .i64 3, .string im, .int .i64 bl, .bool true, .int .i64 (tr + 1), .string rd, .int .i64 rp]) (by simp [results, Try.results20, go_sem, hR]) rfl ⟨rfl, set7 hB (Nat.le_succ _)⟩
    by_cases p4 : ph = 4
    · subst p4
      have HT := hide (fun w => to_any ⟨4, im, bl, ag, tr + 1, rd, rp⟩ 5 bl true w)
      unfold HostR toH at HT
      show Calls _ _ _ _ fun e w' => e = .returned (.agg #[.int .i64 5, .string im, .int .i64 bl, .bool true, .int .i64 (tr + 1), .string rd, .int .i64 rp]) ∧ _
      dsimp only at *
      obtain ⟨W, hW, hX, hR, hB⟩ := host_boxes w (.int .i64 4) (.string im) (.int .i64 bl) (.bool ag) (.int .i64 tr) (.string rd) (.int .i64 rp)
      subst hW
      go_enter Try.func20, Try.ntmps20
      go_upto_region 1 with fail
      generalize (w.alloc _).alloc _ = W at *
      go_upto_region 2 with (go_at_call 42; refine (HW.out _).mono ?_; rintro e w1 ⟨rfl, hb⟩; replace hB := thenB hB hb; replace hX := sevRB hX hb; replace hR := sevRB hR hb; clear hb)
      have hY := sevRM w1 (.int .i64 4) (.string im) (.int .i64 bl) (.bool ag) (.int .i64 (tr + 1)) (.string rd) (.int .i64 rp) 23
      have hn := hal w1 (.cells #[.int .i64 4, .string im, .int .i64 bl, .bool ag, .int .i64 (tr + 1), .string rd, .int .i64 rp] 23)
      have hlx := hX.1
      have hlr := hR.1
      have hl := hB.size
      replace hB := thenB hB hn
      replace hX := sevRB hX hn
      replace hR := sevRB hR hn
      clear hn HW
      generalize w1.alloc _ = W1 at *
      generalize w1.heap.size = G at *
      have n1 : G ≠ w.heap.size := by omega
      have n2 : G ≠ w.heap.size + 1 := by omega
      clear hlx hlr
      go_wp2_with (go_at_call 23; refine (HT.out _).mono ?_; rintro e w2 ⟨rfl, hb⟩; replace hB := thenB hB hb; replace hR := sevRB hR hb; clear hb)
      exact bodyPost_ret (v := .agg #[.int .i64 5, .string im, .int .i64 bl, .bool true, .int .i64 (tr + 1), .string rd, .int .i64 rp]) (by simp [results, Try.results20, go_sem, hR]) rfl ⟨rfl, set7 hB (Nat.le_succ _)⟩
    by_cases p6 : ph = 6
    · subst p6
      have HT := hide (fun w => to_any ⟨6, im, bl, ag, tr + 1, ⟨#[33]⟩, rp⟩ 1 1 true w)
      unfold HostR toH at HT
      show Calls _ _ _ _ fun e w' => e = .returned (.agg #[.int .i64 1, .string im, .int .i64 1, .bool true, .int .i64 (tr + 1), .string ⟨#[33]⟩, .int .i64 rp]) ∧ _
      dsimp only at *
      obtain ⟨W, hW, hX, hR, hB⟩ := host_boxes w (.int .i64 6) (.string im) (.int .i64 bl) (.bool ag) (.int .i64 tr) (.string rd) (.int .i64 rp)
      subst hW
      go_enter Try.func20, Try.ntmps20
      go_upto_region 1 with fail
      generalize (w.alloc _).alloc _ = W at *
      go_upto_region 2 with (go_at_call 42; refine (HW.out _).mono ?_; rintro e w1 ⟨rfl, hb⟩; replace hB := thenB hB hb; replace hX := sevRB hX hb; replace hR := sevRB hR hb; clear hb)
      have hY := sevRM w1 (.int .i64 6) (.string im) (.int .i64 bl) (.bool ag) (.int .i64 (tr + 1)) (.string rd) (.int .i64 rp) 23
      have hn := hal w1 (.cells #[.int .i64 6, .string im, .int .i64 bl, .bool ag, .int .i64 (tr + 1), .string rd, .int .i64 rp] 23)
      have hlx := hX.1
      have hlr := hR.1
      have hl := hB.size
      replace hB := thenB hB hn
      replace hX := sevRB hX hn
      replace hR := sevRB hR hn
      clear hn HW
      generalize w1.alloc _ = W1 at *
      generalize w1.heap.size = G at *
      have n1 : G ≠ w.heap.size := by omega
      have n2 : G ≠ w.heap.size + 1 := by omega
      clear hlx hlr
      go_upto_region 14 with fail
      replace hY := HstSet.set5 hY (.string ⟨#[33]⟩)
      replace hX := HstSet.setO hX n1 5 (.string ⟨#[33]⟩)
      replace hR := HstSet.setO hR n2 5 (.string ⟨#[33]⟩)
      replace hB := hB.setCell (p := ⟨G, 5, none⟩) hl (.string ⟨#[33]⟩)
      generalize W1.setCell _ _ = W2 at *
      go_wp2_with (go_at_call 23; refine (HT.out _).mono ?_; rintro e w2 ⟨rfl, hb⟩; replace hB := thenB hB hb; replace hR := sevRB hR hb; clear hb)
      exact bodyPost_ret (v := .agg #[.int .i64 1, .string im, .int .i64 1, .bool true, .int .i64 (tr + 1), .string ⟨#[33]⟩, .int .i64 rp]) (by simp [results, Try.results20, go_sem, hR]) rfl ⟨rfl, set7 hB (Nat.le_succ _)⟩
    have e3 : goneH ⟨ph, im, bl, ag, tr, rd, rp⟩ = moreH ⟨ph, im, bl, ag, tr, rd, rp⟩ := by unfold goneH; dsimp only; rw [if_neg p1, if_neg p2, if_neg p4, if_neg p6]
    rw [e3]
    unfold moreH
    dsimp only
    obtain ⟨W, hW, hX, hR, hB⟩ := host_boxes w (.int .i64 ph) (.string im) (.int .i64 bl) (.bool ag) (.int .i64 tr) (.string rd) (.int .i64 rp)
    subst hW
    go_enter Try.func20, Try.ntmps20
    go_upto_region 1 with fail
    generalize (w.alloc _).alloc _ = W at *
    go_upto_region 2 with (go_at_call 42; refine (HW.out _).mono ?_; rintro e w1 ⟨rfl, hb⟩; replace hB := thenB hB hb; replace hX := sevRB hX hb; replace hR := sevRB hR hb; clear hb)
    have hY := sevRM w1 (.int .i64 ph) (.string im) (.int .i64 bl) (.bool ag) (.int .i64 (tr + 1)) (.string rd) (.int .i64 rp) 23
    have hn := hal w1 (.cells #[.int .i64 ph, .string im, .int .i64 bl, .bool ag, .int .i64 (tr + 1), .string rd, .int .i64 rp] 23)
    have hlx := hX.1
    have hlr := hR.1
    have hl := hB.size
    replace hB := thenB hB hn
    replace hX := sevRB hX hn
    replace hR := sevRB hR hn
    clear hn HW
    generalize w1.alloc _ = W1 at *
    generalize w1.heap.size = G at *
    have n1 : G ≠ w.heap.size := by omega
    have n2 : G ≠ w.heap.size + 1 := by omega
    clear hlx hlr
    go_wp2_with fail
    exact bodyPost_ret (v := .agg #[.int .i64 ph, .string im, .int .i64 bl, .bool ag, .int .i64 (tr + 1), .string rd, .int .i64 rp]) (by simp [results, Try.results20, go_sem, hR]) rfl ⟨rfl, set7 hB (Nat.le_succ _)⟩
end Go.Proofs.Ytgkmallikomnaaa.RepRef
