/- The contract of what takes a block that was read back. -/
import Derived.Test.YtgkmallikomnaaaRepHear
namespace Go.Proofs.Ytgkmallikomnaaa.RepHear
open Go.Proofs.Ytgkmallikomnaaa Go.RowKit Go.Proofs.Ytgkmallikomnaaa.Bytes Go.Proofs.Ytgkmallikomnaaa.NorWalk Go.Proofs.Ytgkmallikomnaaa.Hst Go.Proofs.Ytgkmallikomnaaa.HstWalk Go.Proofs.Ytgkmallikomnaaa.HstSet Go.Proofs.Ytgkmallikomnaaa.Rep Go.Proofs.Ytgkmallikomnaaa.RepNear
open Go.Proofs.Ytgkmallikomnaaa.Blo (nP)
open Go.Proofs.Ytgkmallikomnaaa.EntRow (text_ne)
open Go.Proofs.Ytgkmallikomnaaa.SufWalk (text_eq)
open Go.Proofs.Ytgkmallikomnaaa.Take
open List (setIfInBounds_toArray set_cons_zero set_cons_succ)
attribute [local go_sem ↓] Go.wp_at_zero Go.wp_at_succ

theorem anew_eq (ph : Int) (im : ByteArray) (bl : Int) (ag : Bool) (tr : Int) (rd rd' : ByteArray) (rp : Int) : anewH ⟨ph, im, bl, ag, tr, rd, rp⟩ = anewH ⟨ph, im, bl, ag, tr, rd', rp⟩ := rfl
set_option maxRecDepth 100000 in
set_option maxHeartbeats 4000000 in
theorem given_any (h : FHost) (t : ByteArray) {B base : Nat} (w : World) (hX : HostR w B h t) (hb : base ≤ B) (hi : h.im.size ≤ 288) (h0 : 0 ≤ h.bl) (h1 : h.bl ≤ (nP h.im : Int)) (h9 : nP h.im ≤ 9) (g0 : 0 ≤ h.tr) (hr : h.rd.size ≤ 320) (ht : t.size ≤ 140737488355328) : Calls Try.prog 58 #[.pointer (some ⟨B, 0, none⟩)] w (Gone B base w (readH h t) t) := by
  have hsz : base ≤ w.heap.size := Nat.le_trans hb (Nat.le_of_lt hX.1.1)
  have HPP := hide (fun (x : FHost) (hx : x.im = h.im) w (hX : HostR w B x t) => by have g := npieces_any x t w hX (by rw [hx]; exact hi); rw [hx] at g; exact g)
  have HAA := hide (fun (x : FHost) (hx : x.tr = h.tr) w (hX : HostR w B x t) => anew_any x t (base := base) w hX hb (by rw [hx]; exact g0))
  obtain ⟨ph, im, bl, ag, tr, rd, rp⟩ := h
  try dsimp only at *
  unfold readH
  try dsimp only
  have hB := Below.refl base w
  by_cases c1 : 32 < t.size
  · rw [if_pos c1]
    have HA := hide (HAA.out ⟨ph, im, bl, ag, tr, rd, rp⟩ rfl)
    have hc : (32 : Int) < (t.size : Int) := by omega
    generalize anewH ⟨ph, im, bl, ag, tr, rd, rp⟩ = X at *
    clear HPP HAA g0 c1 h1 h0 hi h9 hr
    go_enter Try.func58, Try.ntmps58
    go_wp2_with (go_at_call 39; refine (HA.out _ hX).mono ?_; rintro e w1 ⟨rfl, hX1, hB1⟩)
    exact bodyPost_ret (v := .tuple #[]) (by simp [results, Try.results58, go_sem]) rfl ⟨rfl, hX1, hB1⟩
  rw [if_neg c1]
  have hc1 : ¬ (32 : Int) < (t.size : Int) := by omega
  rw [anew_eq ph im bl ag tr rd (rd ++ t) rp]
  have HA := hide (HAA.out ⟨ph, im, bl, ag, tr, rd ++ t, rp⟩ rfl)
  have HP := hide (HPP.out ⟨ph, im, bl, ag, tr, rd ++ t, rp⟩ rfl)
  have hRs : (rd ++ t).size ≤ 140737488355648 := by rw [ByteArray.size_append]; omega
  have hsum : ¬ 9223372036854775807 < rd.size + t.size := by omega
  clear HAA HPP g0 hr
  generalize anewH ⟨ph, im, bl, ag, tr, rd ++ t, rp⟩ = X at *
  by_cases c2 : t.size < 32
  · have hc2 : (t.size : Int) < 32 := by omega
    rw [if_pos c2]
    clear HP
    by_cases c3 : rd ++ t = im
    · rw [if_pos c3]
      have q := text_eq c3
      clear c3
      go_enter Try.func58, Try.ntmps58
      go_upto_region 2 with fail
      go_region
      replace hX := tkr5 hX (.string (rd ++ t))
      replace hB := hB.setCell (p := ⟨B, 5, none⟩) hb (.string (rd ++ t))
      generalize rd ++ t = R at *
      replace hsz : base ≤ (w.setCell ⟨B, 5, none⟩ (.string R)).heap.size := by rw [size_set]; exact hsz
      generalize w.setCell _ _ = W at *
      replace hX := tkrD hX
      replace hB := belD hB
      replace hsz := sizD hsz
      generalize W.drew = W0 at *
      go_upto_region 5 with fail
      refine wp_region_noPanic ?_
      refine wp_region_held_drew (S := fun W => W.cell? ⟨B, 1, none⟩ = some (.string im) ∧ W.cell? ⟨B, 2, none⟩ = some (.int .i64 bl) ∧ W.cell? ⟨B, 5, none⟩ = some (.string R)) (by kernel_rfl) (by go_keep) (fun hHeld => ?_)
      replace hX := tkrD hX
      replace hB := belD hB
      replace hsz := sizD hsz
      generalize W0.drew = W1 at *
      refine tk 0 ?_; simp only [Act.put, setIfInBounds_toArray, set_cons_zero, set_cons_succ]
      refine tk 1 ?_; simp only [Act.put, setIfInBounds_toArray, set_cons_zero, set_cons_succ]
      refine tk 2 ?_; simp only [Act.put, setIfInBounds_toArray, set_cons_zero, set_cons_succ]
      refine tk 3 ?_; simp only [Act.put, setIfInBounds_toArray, set_cons_zero, set_cons_succ]
      refine tk 4 ?_; simp only [Act.put, setIfInBounds_toArray, set_cons_zero, set_cons_succ]
      refine tk 5 ?_; simp only [Act.put, setIfInBounds_toArray, set_cons_zero, set_cons_succ]
      refine tk 6 ?_; simp only [Act.put, setIfInBounds_toArray, set_cons_zero, set_cons_succ]
      refine tk 7 ?_; simp only [Act.put, setIfInBounds_toArray, set_cons_zero, set_cons_succ]
      refine tk 8 ?_; simp only [Act.put, setIfInBounds_toArray, set_cons_zero, set_cons_succ]
      refine tk 9 ?_; simp only [Act.put, setIfInBounds_toArray, set_cons_zero, set_cons_succ]
      refine tk 10 ?_; simp only [Act.put, setIfInBounds_toArray, set_cons_zero, set_cons_succ]
      refine tk 11 ?_; simp only [Act.put, setIfInBounds_toArray, set_cons_zero, set_cons_succ]
      refine tk 12 ?_; simp only [Act.put, setIfInBounds_toArray, set_cons_zero, set_cons_succ]
      refine tk 13 ?_; simp only [Act.put, setIfInBounds_toArray, set_cons_zero, set_cons_succ]
      refine tk 14 ?_; simp only [Act.put, setIfInBounds_toArray, set_cons_zero, set_cons_succ]
      refine tk 15 ?_; simp only [Act.put, setIfInBounds_toArray, set_cons_zero, set_cons_succ]
      refine tk 16 ?_; simp only [Act.put, setIfInBounds_toArray, set_cons_zero, set_cons_succ]
      refine wpAnyH_done (by kernel_rfl) ?_ _
      refine NoPanic.normal ?_
      go_wp2_with fail
      exact bodyPost_ret (v := .tuple #[]) (by simp [results, Try.results58, go_sem]) rfl ⟨rfl, tkr5 (tkr2 (tkr6 (tkr0 hX (.int .i64 7)) (.int .i64 1)) (.int .i64 0)) (.string ⟨#[]⟩), ((((((((hB).setCell (p := ⟨B, 0, none⟩) hb _)).setCell (p := ⟨B, 6, none⟩) hb _)).setCell (p := ⟨B, 2, none⟩) hb _)).setCell (p := ⟨B, 5, none⟩) hb _)⟩
    · rw [if_neg c3]
      have q := text_ne c3
      clear c3
      go_enter Try.func58, Try.ntmps58
      go_upto_region 2 with fail
      go_region
      replace hX := tkr5 hX (.string (rd ++ t))
      replace hB := hB.setCell (p := ⟨B, 5, none⟩) hb (.string (rd ++ t))
      generalize rd ++ t = R at *
      replace hsz : base ≤ (w.setCell ⟨B, 5, none⟩ (.string R)).heap.size := by rw [size_set]; exact hsz
      generalize w.setCell _ _ = W at *
      replace hX := tkrD hX
      replace hB := belD hB
      replace hsz := sizD hsz
      generalize W.drew = W0 at *
      go_upto_region 5 with fail
      refine wp_region_noPanic ?_
      refine wp_region_held_drew (S := fun W => W.cell? ⟨B, 1, none⟩ = some (.string im) ∧ W.cell? ⟨B, 2, none⟩ = some (.int .i64 bl) ∧ W.cell? ⟨B, 5, none⟩ = some (.string R)) (by kernel_rfl) (by go_keep) (fun hHeld => ?_)
      replace hX := tkrD hX
      replace hB := belD hB
      replace hsz := sizD hsz
      generalize W0.drew = W1 at *
      refine tk 0 ?_; simp only [Act.put, setIfInBounds_toArray, set_cons_zero, set_cons_succ]
      refine tk 1 ?_; simp only [Act.put, setIfInBounds_toArray, set_cons_zero, set_cons_succ]
      refine tk 2 ?_; simp only [Act.put, setIfInBounds_toArray, set_cons_zero, set_cons_succ]
      refine tk 3 ?_; simp only [Act.put, setIfInBounds_toArray, set_cons_zero, set_cons_succ]
      refine tk 4 ?_; simp only [Act.put, setIfInBounds_toArray, set_cons_zero, set_cons_succ]
      refine tk 5 ?_; simp only [Act.put, setIfInBounds_toArray, set_cons_zero, set_cons_succ]
      refine tk 6 ?_; simp only [Act.put, setIfInBounds_toArray, set_cons_zero, set_cons_succ]
      refine tk 7 ?_; simp only [Act.put, setIfInBounds_toArray, set_cons_zero, set_cons_succ]
      refine tk 8 ?_; simp only [Act.put, setIfInBounds_toArray, set_cons_zero, set_cons_succ]
      refine tk 9 ?_; simp only [Act.put, setIfInBounds_toArray, set_cons_zero, set_cons_succ]
      refine tk 10 ?_; simp only [Act.put, setIfInBounds_toArray, set_cons_zero, set_cons_succ]
      refine tk 11 ?_; simp only [Act.put, setIfInBounds_toArray, set_cons_zero, set_cons_succ]
      refine tk 12 ?_; simp only [Act.put, setIfInBounds_toArray, set_cons_zero, set_cons_succ]
      refine tk 13 ?_; simp only [Act.put, setIfInBounds_toArray, set_cons_zero, set_cons_succ]
      refine tk 14 ?_; simp only [Act.put, setIfInBounds_toArray, set_cons_zero, set_cons_succ]
      refine tk 15 ?_; simp only [Act.put, setIfInBounds_toArray, set_cons_zero, set_cons_succ]
      refine tk 16 ?_; simp only [Act.put, setIfInBounds_toArray, set_cons_zero, set_cons_succ]
      refine wpAnyH_done (by kernel_rfl) ?_ _
      refine NoPanic.normal ?_
      go_upto_region 7 with fail
      refine wp_region_noPanic ?_
      refine wp_region_held_drew (S := fun W => W.cell? ⟨B, 1, none⟩ = some (.string im) ∧ W.cell? ⟨B, 2, none⟩ = some (.int .i64 bl) ∧ W.cell? ⟨B, 5, none⟩ = some (.string R)) (by kernel_rfl) (by go_keep) (fun hHeld => ?_)
      replace hX := tkrD hX
      replace hB := belD hB
      replace hsz := sizD hsz
      generalize W1.drew = W2 at *
      refine tk 0 ?_; simp only [Act.put, setIfInBounds_toArray, set_cons_zero, set_cons_succ]
      refine tk 1 ?_; simp only [Act.put, setIfInBounds_toArray, set_cons_zero, set_cons_succ]
      refine tk 2 ?_; simp only [Act.put, setIfInBounds_toArray, set_cons_zero, set_cons_succ]
      refine ts 3 ?_; simp only [Act.put, setIfInBounds_toArray, set_cons_zero, set_cons_succ]
      refine ts 4 ?_; simp only [Act.put, setIfInBounds_toArray, set_cons_zero, set_cons_succ]
      refine ts 5 ?_; simp only [Act.put, setIfInBounds_toArray, set_cons_zero, set_cons_succ]
      refine ts 6 ?_; simp only [Act.put, setIfInBounds_toArray, set_cons_zero, set_cons_succ]
      refine ts 7 ?_; simp only [Act.put, setIfInBounds_toArray, set_cons_zero, set_cons_succ]
      refine ts 8 ?_; simp only [Act.put, setIfInBounds_toArray, set_cons_zero, set_cons_succ]
      refine ts 9 ?_; simp only [Act.put, setIfInBounds_toArray, set_cons_zero, set_cons_succ]
      refine ts 10 ?_; simp only [Act.put, setIfInBounds_toArray, set_cons_zero, set_cons_succ]
      refine ts 11 ?_; simp only [Act.put, setIfInBounds_toArray, set_cons_zero, set_cons_succ]
      refine ts 12 ?_; simp only [Act.put, setIfInBounds_toArray, set_cons_zero, set_cons_succ]
      refine ts 13 ?_; simp only [Act.put, setIfInBounds_toArray, set_cons_zero, set_cons_succ]
      refine ts 14 ?_; simp only [Act.put, setIfInBounds_toArray, set_cons_zero, set_cons_succ]
      refine ts 15 ?_; simp only [Act.put, setIfInBounds_toArray, set_cons_zero, set_cons_succ]
      refine ts 16 ?_; simp only [Act.put, setIfInBounds_toArray, set_cons_zero, set_cons_succ]
      refine ts 17 ?_; simp only [Act.put, setIfInBounds_toArray, set_cons_zero, set_cons_succ]
      refine tk 18 ?_; simp only [Act.put, setIfInBounds_toArray, set_cons_zero, set_cons_succ]
      refine tk 19 ?_; simp only [Act.put, setIfInBounds_toArray, set_cons_zero, set_cons_succ]
      refine ts 20 ?_; simp only [Act.put, setIfInBounds_toArray, set_cons_zero, set_cons_succ]
      refine ts 21 ?_; simp only [Act.put, setIfInBounds_toArray, set_cons_zero, set_cons_succ]
      refine ts 22 ?_; simp only [Act.put, setIfInBounds_toArray, set_cons_zero, set_cons_succ]
      refine ts 23 ?_; simp only [Act.put, setIfInBounds_toArray, set_cons_zero, set_cons_succ]
      refine ts 24 ?_; simp only [Act.put, setIfInBounds_toArray, set_cons_zero, set_cons_succ]
      refine ts 25 ?_; simp only [Act.put, setIfInBounds_toArray, set_cons_zero, set_cons_succ]
      refine ts 26 ?_; simp only [Act.put, setIfInBounds_toArray, set_cons_zero, set_cons_succ]
      refine ts 27 ?_; simp only [Act.put, setIfInBounds_toArray, set_cons_zero, set_cons_succ]
      refine ts 28 ?_; simp only [Act.put, setIfInBounds_toArray, set_cons_zero, set_cons_succ]
      refine ts 29 ?_; simp only [Act.put, setIfInBounds_toArray, set_cons_zero, set_cons_succ]
      refine ts 30 ?_; simp only [Act.put, setIfInBounds_toArray, set_cons_zero, set_cons_succ]
      refine tk 31 ?_; simp only [Act.put, setIfInBounds_toArray, set_cons_zero, set_cons_succ]
      refine tk 32 ?_; simp only [Act.put, setIfInBounds_toArray, set_cons_zero, set_cons_succ]
      refine wpAnyH_done (by kernel_rfl) ?_ _
      refine NoPanic.normal ?_
      go_wp2_with (go_at_call 39; refine (HA.out _ hX).mono ?_; rintro e w1 ⟨rfl, hX1, hB1⟩)
      exact bodyPost_ret (v := .tuple #[]) (by simp [results, Try.results58, go_sem]) rfl ⟨rfl, hX1, hB.trans hB1⟩
  rw [if_neg c2]
  have hc2 : ¬ (t.size : Int) < 32 := by omega
  by_cases c4 : im.size < (rd ++ t).size
  · rw [if_pos (.inl c4)]
    have hc4 : ¬ ((rd ++ t).size : Int) ≤ (im.size : Int) := by omega
    clear c4
    go_enter Try.func58, Try.ntmps58
    go_upto_region 2 with fail
    go_region
    replace hX := tkr5 hX (.string (rd ++ t))
    replace hB := hB.setCell (p := ⟨B, 5, none⟩) hb (.string (rd ++ t))
    generalize rd ++ t = R at *
    replace hsz : base ≤ (w.setCell ⟨B, 5, none⟩ (.string R)).heap.size := by rw [size_set]; exact hsz
    generalize w.setCell _ _ = W at *
    replace hX := tkrD hX
    replace hB := belD hB
    replace hsz := sizD hsz
    generalize W.drew = W0 at *
    go_upto_region 5 with fail
    refine wp_region_noPanic ?_
    refine wp_region_held_drew (S := fun W => W.cell? ⟨B, 1, none⟩ = some (.string im) ∧ W.cell? ⟨B, 2, none⟩ = some (.int .i64 bl) ∧ W.cell? ⟨B, 5, none⟩ = some (.string R)) (by kernel_rfl) (by go_keep) (fun hHeld => ?_)
    replace hX := tkrD hX
    replace hB := belD hB
    replace hsz := sizD hsz
    generalize W0.drew = W1 at *
    refine tk 0 ?_; simp only [Act.put, setIfInBounds_toArray, set_cons_zero, set_cons_succ]
    refine tk 1 ?_; simp only [Act.put, setIfInBounds_toArray, set_cons_zero, set_cons_succ]
    refine ts 2 ?_; simp only [Act.put, setIfInBounds_toArray, set_cons_zero, set_cons_succ]
    refine ts 3 ?_; simp only [Act.put, setIfInBounds_toArray, set_cons_zero, set_cons_succ]
    refine ts 4 ?_; simp only [Act.put, setIfInBounds_toArray, set_cons_zero, set_cons_succ]
    refine ts 5 ?_; simp only [Act.put, setIfInBounds_toArray, set_cons_zero, set_cons_succ]
    refine ts 6 ?_; simp only [Act.put, setIfInBounds_toArray, set_cons_zero, set_cons_succ]
    refine ts 7 ?_; simp only [Act.put, setIfInBounds_toArray, set_cons_zero, set_cons_succ]
    refine ts 8 ?_; simp only [Act.put, setIfInBounds_toArray, set_cons_zero, set_cons_succ]
    refine ts 9 ?_; simp only [Act.put, setIfInBounds_toArray, set_cons_zero, set_cons_succ]
    refine ts 10 ?_; simp only [Act.put, setIfInBounds_toArray, set_cons_zero, set_cons_succ]
    refine ts 11 ?_; simp only [Act.put, setIfInBounds_toArray, set_cons_zero, set_cons_succ]
    refine ts 12 ?_; simp only [Act.put, setIfInBounds_toArray, set_cons_zero, set_cons_succ]
    refine ts 13 ?_; simp only [Act.put, setIfInBounds_toArray, set_cons_zero, set_cons_succ]
    refine ts 14 ?_; simp only [Act.put, setIfInBounds_toArray, set_cons_zero, set_cons_succ]
    refine tk 15 ?_; simp only [Act.put, setIfInBounds_toArray, set_cons_zero, set_cons_succ]
    refine tk 16 ?_; simp only [Act.put, setIfInBounds_toArray, set_cons_zero, set_cons_succ]
    refine wpAnyH_done (by kernel_rfl) ?_ _
    refine NoPanic.normal ?_
    go_upto_region 7 with fail
    refine wp_region_noPanic ?_
    refine wp_region_held_drew (S := fun W => W.cell? ⟨B, 1, none⟩ = some (.string im) ∧ W.cell? ⟨B, 2, none⟩ = some (.int .i64 bl) ∧ W.cell? ⟨B, 5, none⟩ = some (.string R)) (by kernel_rfl) (by go_keep) (fun hHeld => ?_)
    replace hX := tkrD hX
    replace hB := belD hB
    replace hsz := sizD hsz
    generalize W1.drew = W2 at *
    refine tk 0 ?_; simp only [Act.put, setIfInBounds_toArray, set_cons_zero, set_cons_succ]
    refine tk 1 ?_; simp only [Act.put, setIfInBounds_toArray, set_cons_zero, set_cons_succ]
    refine tk 2 ?_; simp only [Act.put, setIfInBounds_toArray, set_cons_zero, set_cons_succ]
    refine tk 3 ?_; simp only [Act.put, setIfInBounds_toArray, set_cons_zero, set_cons_succ]
    refine tk 4 ?_; simp only [Act.put, setIfInBounds_toArray, set_cons_zero, set_cons_succ]
    refine tk 5 ?_; simp only [Act.put, setIfInBounds_toArray, set_cons_zero, set_cons_succ]
    refine tk 6 ?_; simp only [Act.put, setIfInBounds_toArray, set_cons_zero, set_cons_succ]
    refine tk 7 ?_; simp only [Act.put, setIfInBounds_toArray, set_cons_zero, set_cons_succ]
    refine tk 8 ?_; simp only [Act.put, setIfInBounds_toArray, set_cons_zero, set_cons_succ]
    refine tk 9 ?_; simp only [Act.put, setIfInBounds_toArray, set_cons_zero, set_cons_succ]
    refine tk 10 ?_; simp only [Act.put, setIfInBounds_toArray, set_cons_zero, set_cons_succ]
    refine tk 11 ?_; simp only [Act.put, setIfInBounds_toArray, set_cons_zero, set_cons_succ]
    refine tk 12 ?_; simp only [Act.put, setIfInBounds_toArray, set_cons_zero, set_cons_succ]
    refine tk 13 ?_; simp only [Act.put, setIfInBounds_toArray, set_cons_zero, set_cons_succ]
    refine tk 14 ?_; simp only [Act.put, setIfInBounds_toArray, set_cons_zero, set_cons_succ]
    refine tk 15 ?_; simp only [Act.put, setIfInBounds_toArray, set_cons_zero, set_cons_succ]
    refine tk 16 ?_; simp only [Act.put, setIfInBounds_toArray, set_cons_zero, set_cons_succ]
    refine tk 17 ?_; simp only [Act.put, setIfInBounds_toArray, set_cons_zero, set_cons_succ]
    refine tk 18 ?_; simp only [Act.put, setIfInBounds_toArray, set_cons_zero, set_cons_succ]
    refine tk 19 ?_; simp only [Act.put, setIfInBounds_toArray, set_cons_zero, set_cons_succ]
    refine ts 20 ?_; simp only [Act.put, setIfInBounds_toArray, set_cons_zero, set_cons_succ]
    refine ts 21 ?_; simp only [Act.put, setIfInBounds_toArray, set_cons_zero, set_cons_succ]
    refine ts 22 ?_; simp only [Act.put, setIfInBounds_toArray, set_cons_zero, set_cons_succ]
    refine ts 23 ?_; simp only [Act.put, setIfInBounds_toArray, set_cons_zero, set_cons_succ]
    refine ts 24 ?_; simp only [Act.put, setIfInBounds_toArray, set_cons_zero, set_cons_succ]
    refine ts 25 ?_; simp only [Act.put, setIfInBounds_toArray, set_cons_zero, set_cons_succ]
    refine ts 26 ?_; simp only [Act.put, setIfInBounds_toArray, set_cons_zero, set_cons_succ]
    refine ts 27 ?_; simp only [Act.put, setIfInBounds_toArray, set_cons_zero, set_cons_succ]
    refine ts 28 ?_; simp only [Act.put, setIfInBounds_toArray, set_cons_zero, set_cons_succ]
    refine ts 29 ?_; simp only [Act.put, setIfInBounds_toArray, set_cons_zero, set_cons_succ]
    refine ts 30 ?_; simp only [Act.put, setIfInBounds_toArray, set_cons_zero, set_cons_succ]
    refine tk 31 ?_; simp only [Act.put, setIfInBounds_toArray, set_cons_zero, set_cons_succ]
    refine tk 32 ?_; simp only [Act.put, setIfInBounds_toArray, set_cons_zero, set_cons_succ]
    refine wpAnyH_done (by kernel_rfl) ?_ _
    refine NoPanic.normal ?_
    go_wp2_with (go_at_call 39; refine (HA.out _ hX).mono ?_; rintro e w1 ⟨rfl, hX1, hB1⟩)
    exact bodyPost_ret (v := .tuple #[]) (by simp [results, Try.results58, go_sem]) rfl ⟨rfl, hX1, hB.trans hB1⟩
  have hc4 : ((rd ++ t).size : Int) ≤ (im.size : Int) := by omega
  generalize nP im = n at *
  by_cases c5 : (n : Int) ≤ bl
  · rw [if_pos (.inr c5)]
    have hc5 : ¬ bl < (n : Int) := by omega
    clear c4 c5
    go_enter Try.func58, Try.ntmps58
    go_upto_region 2 with fail
    go_region
    replace hX := tkr5 hX (.string (rd ++ t))
    replace hB := hB.setCell (p := ⟨B, 5, none⟩) hb (.string (rd ++ t))
    generalize rd ++ t = R at *
    replace hsz : base ≤ (w.setCell ⟨B, 5, none⟩ (.string R)).heap.size := by rw [size_set]; exact hsz
    generalize w.setCell _ _ = W at *
    replace hX := tkrD hX
    replace hB := belD hB
    replace hsz := sizD hsz
    generalize W.drew = W0 at *
    go_upto_region 5 with fail
    refine wp_region_noPanic ?_
    refine wp_region_held_drew (S := fun W => W.cell? ⟨B, 1, none⟩ = some (.string im) ∧ W.cell? ⟨B, 2, none⟩ = some (.int .i64 bl) ∧ W.cell? ⟨B, 5, none⟩ = some (.string R)) (by kernel_rfl) (by go_keep) (fun hHeld => ?_)
    replace hX := tkrD hX
    replace hB := belD hB
    replace hsz := sizD hsz
    generalize W0.drew = W1 at *
    refine tk 0 ?_; simp only [Act.put, setIfInBounds_toArray, set_cons_zero, set_cons_succ]
    refine tk 1 ?_; simp only [Act.put, setIfInBounds_toArray, set_cons_zero, set_cons_succ]
    refine ts 2 ?_; simp only [Act.put, setIfInBounds_toArray, set_cons_zero, set_cons_succ]
    refine ts 3 ?_; simp only [Act.put, setIfInBounds_toArray, set_cons_zero, set_cons_succ]
    refine ts 4 ?_; simp only [Act.put, setIfInBounds_toArray, set_cons_zero, set_cons_succ]
    refine ts 5 ?_; simp only [Act.put, setIfInBounds_toArray, set_cons_zero, set_cons_succ]
    refine ts 6 ?_; simp only [Act.put, setIfInBounds_toArray, set_cons_zero, set_cons_succ]
    refine ts 7 ?_; simp only [Act.put, setIfInBounds_toArray, set_cons_zero, set_cons_succ]
    refine ts 8 ?_; simp only [Act.put, setIfInBounds_toArray, set_cons_zero, set_cons_succ]
    refine ts 9 ?_; simp only [Act.put, setIfInBounds_toArray, set_cons_zero, set_cons_succ]
    refine ts 10 ?_; simp only [Act.put, setIfInBounds_toArray, set_cons_zero, set_cons_succ]
    refine ts 11 ?_; simp only [Act.put, setIfInBounds_toArray, set_cons_zero, set_cons_succ]
    refine ts 12 ?_; simp only [Act.put, setIfInBounds_toArray, set_cons_zero, set_cons_succ]
    refine ts 13 ?_; simp only [Act.put, setIfInBounds_toArray, set_cons_zero, set_cons_succ]
    refine ts 14 ?_; simp only [Act.put, setIfInBounds_toArray, set_cons_zero, set_cons_succ]
    refine tk 15 ?_; simp only [Act.put, setIfInBounds_toArray, set_cons_zero, set_cons_succ]
    refine tk 16 ?_; simp only [Act.put, setIfInBounds_toArray, set_cons_zero, set_cons_succ]
    refine wpAnyH_done (by kernel_rfl) ?_ _
    refine NoPanic.normal ?_
    go_upto_region 7 with fail
    refine wp_region_noPanic ?_
    refine wp_region_held_drew (S := fun W => W.cell? ⟨B, 1, none⟩ = some (.string im) ∧ W.cell? ⟨B, 2, none⟩ = some (.int .i64 bl) ∧ W.cell? ⟨B, 5, none⟩ = some (.string R)) (by kernel_rfl) (by go_keep) (fun hHeld => ?_)
    replace hX := tkrD hX
    replace hB := belD hB
    replace hsz := sizD hsz
    generalize W1.drew = W2 at *
    refine tk 0 ?_; simp only [Act.put, setIfInBounds_toArray, set_cons_zero, set_cons_succ]
    refine tk 1 ?_; simp only [Act.put, setIfInBounds_toArray, set_cons_zero, set_cons_succ]
    refine tk 2 ?_; simp only [Act.put, setIfInBounds_toArray, set_cons_zero, set_cons_succ]
    refine tk 3 ?_; simp only [Act.put, setIfInBounds_toArray, set_cons_zero, set_cons_succ]
    refine tk 4 ?_; simp only [Act.put, setIfInBounds_toArray, set_cons_zero, set_cons_succ]
    refine tk 5 ?_; simp only [Act.put, setIfInBounds_toArray, set_cons_zero, set_cons_succ]
    refine tk 6 ?_; simp only [Act.put, setIfInBounds_toArray, set_cons_zero, set_cons_succ]
    refine tk 7 ?_; simp only [Act.put, setIfInBounds_toArray, set_cons_zero, set_cons_succ]
    refine tk 8 ?_; simp only [Act.put, setIfInBounds_toArray, set_cons_zero, set_cons_succ]
    refine tk 9 ?_; simp only [Act.put, setIfInBounds_toArray, set_cons_zero, set_cons_succ]
    refine tk 10 ?_; simp only [Act.put, setIfInBounds_toArray, set_cons_zero, set_cons_succ]
    refine tk 11 ?_; simp only [Act.put, setIfInBounds_toArray, set_cons_zero, set_cons_succ]
    refine tk 12 ?_; simp only [Act.put, setIfInBounds_toArray, set_cons_zero, set_cons_succ]
    refine tk 13 ?_; simp only [Act.put, setIfInBounds_toArray, set_cons_zero, set_cons_succ]
    refine tk 14 ?_; simp only [Act.put, setIfInBounds_toArray, set_cons_zero, set_cons_succ]
    refine tk 15 ?_; simp only [Act.put, setIfInBounds_toArray, set_cons_zero, set_cons_succ]
    refine tk 16 ?_; simp only [Act.put, setIfInBounds_toArray, set_cons_zero, set_cons_succ]
    refine tk 17 ?_; simp only [Act.put, setIfInBounds_toArray, set_cons_zero, set_cons_succ]
    refine tk 18 ?_; simp only [Act.put, setIfInBounds_toArray, set_cons_zero, set_cons_succ]
    refine tk 19 ?_; simp only [Act.put, setIfInBounds_toArray, set_cons_zero, set_cons_succ]
    refine tk 20 ?_; simp only [Act.put, setIfInBounds_toArray, set_cons_zero, set_cons_succ]
    refine tk 21 ?_; simp only [Act.put, setIfInBounds_toArray, set_cons_zero, set_cons_succ]
    refine tk 22 ?_; simp only [Act.put, setIfInBounds_toArray, set_cons_zero, set_cons_succ]
    refine tk 23 ?_; simp only [Act.put, setIfInBounds_toArray, set_cons_zero, set_cons_succ]
    refine tk 24 ?_; simp only [Act.put, setIfInBounds_toArray, set_cons_zero, set_cons_succ]
    refine tk 25 ?_; simp only [Act.put, setIfInBounds_toArray, set_cons_zero, set_cons_succ]
    refine tk 26 ?_; simp only [Act.put, setIfInBounds_toArray, set_cons_zero, set_cons_succ]
    refine tk 27 ?_; simp only [Act.put, setIfInBounds_toArray, set_cons_zero, set_cons_succ]
    refine tk 28 ?_; simp only [Act.put, setIfInBounds_toArray, set_cons_zero, set_cons_succ]
    refine wpAnyH_ready (rs := [29]) (by kernel_rfl) (by simp) ?_
    refine AllReadyH.cons rfl (fun K hK => ?_) AllReadyH.nil
    go_simp
    ((go_at_call 63; refine (HP.out _ hX).mono ?_; rintro e w1 ⟨rfl, hb1⟩; replace hB := hB.trans (hb1.mono hsz); replace hX := tkrB hX hb1; clear hb1))
    refine hK.out _ _ (by go_keep) (fun hHeld => ?_)
    clear hK K
    (try simp only [Act.put, setIfInBounds_toArray, set_cons_zero, set_cons_succ])
    refine tk 30 ?_; simp only [Act.put, setIfInBounds_toArray, set_cons_zero, set_cons_succ]
    refine tk 31 ?_; simp only [Act.put, setIfInBounds_toArray, set_cons_zero, set_cons_succ]
    refine tk 32 ?_; simp only [Act.put, setIfInBounds_toArray, set_cons_zero, set_cons_succ]
    refine wpAnyH_done (by kernel_rfl) ?_ _
    refine NoPanic.normal ?_
    go_wp2_with (go_at_call 39; refine (HA.out _ hX).mono ?_; rintro e w2 ⟨rfl, hX1, hB1⟩)
    exact bodyPost_ret (v := .tuple #[]) (by simp [results, Try.results58, go_sem]) rfl ⟨rfl, hX1, hB.trans hB1⟩
  rw [if_neg (fun g => g.elim c4 c5)]
  have hc5 : bl < (n : Int) := by omega
  clear c4 c5
  go_enter Try.func58, Try.ntmps58
  go_upto_region 2 with fail
  go_region
  replace hX := tkr5 hX (.string (rd ++ t))
  replace hB := hB.setCell (p := ⟨B, 5, none⟩) hb (.string (rd ++ t))
  generalize rd ++ t = R at *
  replace hsz : base ≤ (w.setCell ⟨B, 5, none⟩ (.string R)).heap.size := by rw [size_set]; exact hsz
  generalize w.setCell _ _ = W at *
  replace hX := tkrD hX
  replace hB := belD hB
  replace hsz := sizD hsz
  generalize W.drew = W0 at *
  go_upto_region 5 with fail
  refine wp_region_noPanic ?_
  refine wp_region_held_drew (S := fun W => W.cell? ⟨B, 1, none⟩ = some (.string im) ∧ W.cell? ⟨B, 2, none⟩ = some (.int .i64 bl) ∧ W.cell? ⟨B, 5, none⟩ = some (.string R)) (by kernel_rfl) (by go_keep) (fun hHeld => ?_)
  replace hX := tkrD hX
  replace hB := belD hB
  replace hsz := sizD hsz
  generalize W0.drew = W1 at *
  refine tk 0 ?_; simp only [Act.put, setIfInBounds_toArray, set_cons_zero, set_cons_succ]
  refine tk 1 ?_; simp only [Act.put, setIfInBounds_toArray, set_cons_zero, set_cons_succ]
  refine ts 2 ?_; simp only [Act.put, setIfInBounds_toArray, set_cons_zero, set_cons_succ]
  refine ts 3 ?_; simp only [Act.put, setIfInBounds_toArray, set_cons_zero, set_cons_succ]
  refine ts 4 ?_; simp only [Act.put, setIfInBounds_toArray, set_cons_zero, set_cons_succ]
  refine ts 5 ?_; simp only [Act.put, setIfInBounds_toArray, set_cons_zero, set_cons_succ]
  refine ts 6 ?_; simp only [Act.put, setIfInBounds_toArray, set_cons_zero, set_cons_succ]
  refine ts 7 ?_; simp only [Act.put, setIfInBounds_toArray, set_cons_zero, set_cons_succ]
  refine ts 8 ?_; simp only [Act.put, setIfInBounds_toArray, set_cons_zero, set_cons_succ]
  refine ts 9 ?_; simp only [Act.put, setIfInBounds_toArray, set_cons_zero, set_cons_succ]
  refine ts 10 ?_; simp only [Act.put, setIfInBounds_toArray, set_cons_zero, set_cons_succ]
  refine ts 11 ?_; simp only [Act.put, setIfInBounds_toArray, set_cons_zero, set_cons_succ]
  refine ts 12 ?_; simp only [Act.put, setIfInBounds_toArray, set_cons_zero, set_cons_succ]
  refine ts 13 ?_; simp only [Act.put, setIfInBounds_toArray, set_cons_zero, set_cons_succ]
  refine ts 14 ?_; simp only [Act.put, setIfInBounds_toArray, set_cons_zero, set_cons_succ]
  refine tk 15 ?_; simp only [Act.put, setIfInBounds_toArray, set_cons_zero, set_cons_succ]
  refine tk 16 ?_; simp only [Act.put, setIfInBounds_toArray, set_cons_zero, set_cons_succ]
  refine wpAnyH_done (by kernel_rfl) ?_ _
  refine NoPanic.normal ?_
  go_upto_region 7 with fail
  refine wp_region_noPanic ?_
  refine wp_region_held_drew (S := fun W => W.cell? ⟨B, 1, none⟩ = some (.string im) ∧ W.cell? ⟨B, 2, none⟩ = some (.int .i64 bl) ∧ W.cell? ⟨B, 5, none⟩ = some (.string R)) (by kernel_rfl) (by go_keep) (fun hHeld => ?_)
  replace hX := tkrD hX
  replace hB := belD hB
  replace hsz := sizD hsz
  generalize W1.drew = W2 at *
  refine tk 0 ?_; simp only [Act.put, setIfInBounds_toArray, set_cons_zero, set_cons_succ]
  refine tk 1 ?_; simp only [Act.put, setIfInBounds_toArray, set_cons_zero, set_cons_succ]
  refine tk 2 ?_; simp only [Act.put, setIfInBounds_toArray, set_cons_zero, set_cons_succ]
  refine tk 3 ?_; simp only [Act.put, setIfInBounds_toArray, set_cons_zero, set_cons_succ]
  refine tk 4 ?_; simp only [Act.put, setIfInBounds_toArray, set_cons_zero, set_cons_succ]
  refine tk 5 ?_; simp only [Act.put, setIfInBounds_toArray, set_cons_zero, set_cons_succ]
  refine tk 6 ?_; simp only [Act.put, setIfInBounds_toArray, set_cons_zero, set_cons_succ]
  refine tk 7 ?_; simp only [Act.put, setIfInBounds_toArray, set_cons_zero, set_cons_succ]
  refine tk 8 ?_; simp only [Act.put, setIfInBounds_toArray, set_cons_zero, set_cons_succ]
  refine tk 9 ?_; simp only [Act.put, setIfInBounds_toArray, set_cons_zero, set_cons_succ]
  refine tk 10 ?_; simp only [Act.put, setIfInBounds_toArray, set_cons_zero, set_cons_succ]
  refine tk 11 ?_; simp only [Act.put, setIfInBounds_toArray, set_cons_zero, set_cons_succ]
  refine tk 12 ?_; simp only [Act.put, setIfInBounds_toArray, set_cons_zero, set_cons_succ]
  refine tk 13 ?_; simp only [Act.put, setIfInBounds_toArray, set_cons_zero, set_cons_succ]
  refine tk 14 ?_; simp only [Act.put, setIfInBounds_toArray, set_cons_zero, set_cons_succ]
  refine tk 15 ?_; simp only [Act.put, setIfInBounds_toArray, set_cons_zero, set_cons_succ]
  refine tk 16 ?_; simp only [Act.put, setIfInBounds_toArray, set_cons_zero, set_cons_succ]
  refine tk 17 ?_; simp only [Act.put, setIfInBounds_toArray, set_cons_zero, set_cons_succ]
  refine tk 18 ?_; simp only [Act.put, setIfInBounds_toArray, set_cons_zero, set_cons_succ]
  refine tk 19 ?_; simp only [Act.put, setIfInBounds_toArray, set_cons_zero, set_cons_succ]
  refine tk 20 ?_; simp only [Act.put, setIfInBounds_toArray, set_cons_zero, set_cons_succ]
  refine tk 21 ?_; simp only [Act.put, setIfInBounds_toArray, set_cons_zero, set_cons_succ]
  refine tk 22 ?_; simp only [Act.put, setIfInBounds_toArray, set_cons_zero, set_cons_succ]
  refine tk 23 ?_; simp only [Act.put, setIfInBounds_toArray, set_cons_zero, set_cons_succ]
  refine tk 24 ?_; simp only [Act.put, setIfInBounds_toArray, set_cons_zero, set_cons_succ]
  refine tk 25 ?_; simp only [Act.put, setIfInBounds_toArray, set_cons_zero, set_cons_succ]
  refine tk 26 ?_; simp only [Act.put, setIfInBounds_toArray, set_cons_zero, set_cons_succ]
  refine tk 27 ?_; simp only [Act.put, setIfInBounds_toArray, set_cons_zero, set_cons_succ]
  refine tk 28 ?_; simp only [Act.put, setIfInBounds_toArray, set_cons_zero, set_cons_succ]
  refine wpAnyH_ready (rs := [29]) (by kernel_rfl) (by simp) ?_
  refine AllReadyH.cons rfl (fun K hK => ?_) AllReadyH.nil
  go_simp
  ((go_at_call 63; refine (HP.out _ hX).mono ?_; rintro e w1 ⟨rfl, hb1⟩; replace hB := hB.trans (hb1.mono hsz); replace hX := tkrB hX hb1; clear hb1))
  refine hK.out _ _ (by go_keep) (fun hHeld => ?_)
  clear hK K
  (try simp only [Act.put, setIfInBounds_toArray, set_cons_zero, set_cons_succ])
  refine tk 30 ?_; simp only [Act.put, setIfInBounds_toArray, set_cons_zero, set_cons_succ]
  refine tk 31 ?_; simp only [Act.put, setIfInBounds_toArray, set_cons_zero, set_cons_succ]
  refine tk 32 ?_; simp only [Act.put, setIfInBounds_toArray, set_cons_zero, set_cons_succ]
  refine wpAnyH_done (by kernel_rfl) ?_ _
  refine NoPanic.normal ?_
  go_wp2_with fail
  exact bodyPost_ret (v := .tuple #[]) (by simp [results, Try.results58, go_sem]) rfl ⟨rfl, tkr2 hX (.int .i64 (bl + 1)), ((hB).setCell (p := ⟨B, 2, none⟩) hb _)⟩
end Go.Proofs.Ytgkmallikomnaaa.RepHear
