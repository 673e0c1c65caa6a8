/- The document's own answers to package host: what a host begins with, what it asks; of what was there nothing has turned. -/
import Derived.Test.YthegdhogpjhidaaHstRef
namespace Go.Proofs.Ythegdhogpjhidaa.HstRefs
open Go.Proofs.Ythegdhogpjhidaa Go.RowKit Go.Proofs.Ythegdhogpjhidaa.Bytes Go.Proofs.Ythegdhogpjhidaa.NorWalk Go.Proofs.Ythegdhogpjhidaa.Suf Go.Proofs.Ythegdhogpjhidaa.Idt Go.Proofs.Ythegdhogpjhidaa.Sup Go.Proofs.Ythegdhogpjhidaa.Hst Go.Proofs.Ythegdhogpjhidaa.HstWalk Go.Proofs.Ythegdhogpjhidaa.HstAsk Go.Proofs.Ythegdhogpjhidaa.HstHost Go.Proofs.Ythegdhogpjhidaa.HstRef
open Go.Proofs.Ythegdhogpjhidaa.SetWalk (resM resB set3 build_set build_no build_c)
open Go.Proofs.Ythegdhogpjhidaa.OpsRow (boxM boxB boxD thenD)
open Go.Proofs.Ythegdhogpjhidaa.SufRef (refParse_any)
open Go.Proofs.Ythegdhogpjhidaa.IdtWalk (refMatch_any ridsMay_any)
open Go.Proofs.Ythegdhogpjhidaa.SetRef (refPut_any)
open Go.Proofs.Ythegdhogpjhidaa.BloWalk (run_min2)
open Go.Proofs.Ythegdhogpjhidaa.Blo (nP pieceS)
attribute [local go_sem ↓] Go.wp_at_zero Go.wp_at_succ

set_option maxRecDepth 100000 in
set_option maxHeartbeats 4000000 in
theorem refStart_any (f : ByteArray) (v p r : Int) (w : World) (hs : f.size < 9223372036854775808) : Calls Try.prog 9 #[.string f, .agg #[.int .i64 v, .int .i64 p, .int .i64 r]] w (Begun w (stP f v p r) (stI f v p r) (stR f v p r) (errH (idsB v p r))) := by
  obtain ⟨W, hW, hX, hR, hB⟩ := start_boxes w (.int .i64 v) (.int .i64 p) (.int .i64 r)
  have b1 := build_h0
  have b2 := build_h7
  have b3 := build_h1
  have HI := hide (fun w => ridsMay_any v p r w)
  have HP := hide (fun w => refParse_any f w hs)
  have HM := hide (fun w => refMatch_any (parV f) (parP f) (parR f) v p r w)
  have hT : toB f v p r = true → toS f v p r = parI f := toS_t
  have hw := st_ways f v p r
  have hv := to_ways f v p r
  clear hs
  unfold Begun
  generalize errM (mtOk (parV f) (parP f) (parR f) v p r) = E2 at *
  generalize mtB (parV f) (parP f) (parR f) v p r = M at *
  generalize parV f = V at *
  generalize parP f = Q at *
  generalize parR f = R at *
  generalize errQ f = E at *
  generalize idsB v p r = D at *
  rcases hw with ⟨rfl, h1, h2, h3, h4⟩ | ⟨rfl, g2, h1, h2, h3, h4⟩ | ⟨rfl, g2, h1, h2, h3, h4⟩
  · rw [h1, h2, h3, h4]
    clear h1 h2 h3 h4 hT HP HM hv
    subst hW
    go_enter Try.func9, Try.ntmps9
    go_upto_region 1 with fail
    generalize (w.alloc _).alloc _ = W at *
    go_wp2_with (go_at_call 20; refine (HI.out _).mono ?_; rintro e w1 ⟨rfl, hb⟩; replace hB := thenB hB hb; replace hX := boxB hX hb; replace hR := sevRB hR hb; clear hb)
    exact bodyPost_ret (v := .tuple #[.agg #[.int .i64 0, .string ⟨#[]⟩, .int .i64 0, .bool false, .int .i64 0, .string ⟨#[]⟩, .int .i64 0], .int .i64 2200]) (by simp [results, Try.results9, go_sem, hR]) rfl ⟨rfl, set7 hB (Nat.le_succ _)⟩
  · rw [h1, h2, h3, h4]
    clear h1 h2 h3 h4 hT
    rw [g2] at hv
    generalize toS f v p r = T at *
    generalize parI f = J at *
    rcases hv with ⟨k1, -, -⟩ | ⟨rfl, rfl, -, -⟩ | ⟨-, -, -, -, k⟩
    · subst hW
      go_enter Try.func9, Try.ntmps9
      go_upto_region 1 with fail
      generalize (w.alloc _).alloc _ = W at *
      go_upto_region 4 with (first | (go_at_call 20; refine (HI.out _).mono ?_; rintro e w1 ⟨rfl, hb⟩; replace hB := thenB hB hb; replace hX := boxB hX hb; replace hR := sevRB hR hb; clear hb) | (go_at_call 21; refine (HP.out _).mono ?_; rintro e w2 ⟨rfl, hb⟩; replace hB := thenB (thenB hB hb) (hal w2 (.cells #[.int .i64 V, .int .i64 Q, .int .i64 R] 25)); replace hX := boxB (boxB hX hb) (hal w2 (.cells #[.int .i64 V, .int .i64 Q, .int .i64 R] 25)); replace hR := sevRB (sevRB hR hb) (hal w2 (.cells #[.int .i64 V, .int .i64 Q, .int .i64 R] 25)); have hY := boxM w2 (.int .i64 V) (.int .i64 Q) (.int .i64 R) 25; clear hb))
      generalize w2.alloc _ = W2 at *
      go_wp2_with (go_at_call 22; refine (HM.out _).mono ?_; rintro e w3 ⟨rfl, hb⟩; replace hB := thenB hB hb; replace hR := sevRB hR hb; clear hb)
      exact bodyPost_ret (v := .tuple #[.agg #[.int .i64 7, .string ⟨#[]⟩, .int .i64 0, .bool false, .int .i64 0, .string ⟨#[]⟩, .int .i64 3], .int .i64 0]) (by simp [results, Try.results9, go_sem, hR]) rfl ⟨rfl, set7 hB (Nat.le_succ _)⟩
    · subst hW
      go_enter Try.func9, Try.ntmps9
      go_upto_region 1 with fail
      generalize (w.alloc _).alloc _ = W at *
      go_upto_region 4 with (first | (go_at_call 20; refine (HI.out _).mono ?_; rintro e w1 ⟨rfl, hb⟩; replace hB := thenB hB hb; replace hX := boxB hX hb; replace hR := sevRB hR hb; clear hb) | (go_at_call 21; refine (HP.out _).mono ?_; rintro e w2 ⟨rfl, hb⟩; replace hB := thenB (thenB hB hb) (hal w2 (.cells #[.int .i64 V, .int .i64 Q, .int .i64 R] 25)); replace hX := boxB (boxB hX hb) (hal w2 (.cells #[.int .i64 V, .int .i64 Q, .int .i64 R] 25)); replace hR := sevRB (sevRB hR hb) (hal w2 (.cells #[.int .i64 V, .int .i64 Q, .int .i64 R] 25)); have hY := boxM w2 (.int .i64 V) (.int .i64 Q) (.int .i64 R) 25; clear hb))
      generalize w2.alloc _ = W2 at *
      go_wp2_with (go_at_call 22; refine (HM.out _).mono ?_; rintro e w3 ⟨rfl, hb⟩; replace hB := thenB hB hb; replace hR := sevRB hR hb; clear hb)
      exact bodyPost_ret (v := .tuple #[.agg #[.int .i64 7, .string ⟨#[]⟩, .int .i64 0, .bool false, .int .i64 0, .string ⟨#[]⟩, .int .i64 3], .int .i64 0]) (by simp [results, Try.results9, go_sem, hR]) rfl ⟨rfl, set7 hB (Nat.le_succ _)⟩
    · cases k
  · rw [h1, h2, h3, h4]
    clear h1 h2 h3 h4 hT
    rw [g2] at hv
    generalize toS f v p r = T at *
    generalize parI f = J at *
    rcases hv with ⟨-, -, k⟩ | ⟨-, -, -, k⟩ | ⟨rfl, rfl, -, -, -⟩
    · cases k
    · cases k
    · subst hW
      go_enter Try.func9, Try.ntmps9
      go_upto_region 1 with fail
      generalize (w.alloc _).alloc _ = W at *
      go_upto_region 4 with (first | (go_at_call 20; refine (HI.out _).mono ?_; rintro e w1 ⟨rfl, hb⟩; replace hB := thenB hB hb; replace hX := boxB hX hb; replace hR := sevRB hR hb; clear hb) | (go_at_call 21; refine (HP.out _).mono ?_; rintro e w2 ⟨rfl, hb⟩; replace hB := thenB (thenB hB hb) (hal w2 (.cells #[.int .i64 V, .int .i64 Q, .int .i64 R] 25)); replace hX := boxB (boxB hX hb) (hal w2 (.cells #[.int .i64 V, .int .i64 Q, .int .i64 R] 25)); replace hR := sevRB (sevRB hR hb) (hal w2 (.cells #[.int .i64 V, .int .i64 Q, .int .i64 R] 25)); have hY := boxM w2 (.int .i64 V) (.int .i64 Q) (.int .i64 R) 25; clear hb))
      generalize w2.alloc _ = W2 at *
      go_wp2_with (go_at_call 22; refine (HM.out _).mono ?_; rintro e w3 ⟨rfl, hb⟩; replace hB := thenB hB hb; replace hR := sevRB hR hb; clear hb)
      exact bodyPost_ret (v := .tuple #[.agg #[.int .i64 1, .string J, .int .i64 0, .bool false, .int .i64 0, .string ⟨#[]⟩, .int .i64 0], .int .i64 0]) (by simp [results, Try.results9, go_sem, hR]) rfl ⟨rfl, set7 hB (Nat.le_succ _)⟩
set_option maxRecDepth 100000 in
set_option maxHeartbeats 4000000 in
theorem refAsks_no (ph : Int) (im : ByteArray) (bl : Int) (ag : Bool) (tr : Int) (rd : ByteArray) (rp : Int) (w : World) (h : askB ph im bl tr rd rp = false) : Calls Try.prog 11 #[.agg #[.int .i64 ph, .string im, .int .i64 bl, .bool ag, .int .i64 tr, .string rd, .int .i64 rp]] w (Asked w ⟨#[]⟩ ⟨#[]⟩ 2200) := by
  have hX := sevM w (.int .i64 ph) (.string im) (.int .i64 bl) (.bool ag) (.int .i64 tr) (.string rd) (.int .i64 rp) 23
  have hB := hal w (.cells #[.int .i64 ph, .string im, .int .i64 bl, .bool ag, .int .i64 tr, .string rd, .int .i64 rp] 23)
  have HM := hide (fun w => refHMay_any ph im bl ag tr rd rp w)
  have HI := hide (fun w => rests_any ph im bl ag tr rd rp w)
  unfold Asked
  unfold askB at h
  generalize hostB ph im bl tr rd rp = M at *
  generalize restB ph = I at *
  have hw : M = false ∨ M = true ∧ I = true := by cases M <;> cases I <;> simp at h ⊢
  clear h
  rcases hw with rfl | ⟨rfl, rfl⟩
  all_goals
    go_enter Try.func11, Try.ntmps11
    go_upto_region 1 with fail
    generalize w.alloc _ = W at *
    go_wp2_with (first | (go_at_call 14; refine (HM.out _).mono ?_; rintro e w' ⟨rfl, hb⟩; replace hB := thenB hB hb; replace hX := sevB hX hb; clear hb) | (go_at_call 28; refine (HI.out _).mono ?_; rintro e w' ⟨rfl, hb⟩; replace hB := thenB hB hb; replace hX := sevB hX hb; clear hb))
    exact bodyPost_ret (v := .tuple #[.string ⟨#[]⟩, .string ⟨#[]⟩, .int .i64 2200]) (by simp [results, Try.results11, go_sem]) rfl ⟨rfl, hB⟩
theorem put_eq {U : ByteArray} {c v n : Int} (h : U = supS c v n) (w : World) : Calls Try.prog 29 #[.agg #[.int .i64 c, .int .i64 v, .int .i64 n]] w fun e w' => e = .returned (.tuple #[.string U, .int .i64 (errU (supB c v n))]) ∧ Below w.heap.size w w' := by
  subst h
  exact refPut_any c v n w
set_option maxRecDepth 100000 in
set_option maxHeartbeats 8000000 in
theorem refAsks_yes (ph : Int) (im : ByteArray) (bl : Int) (ag : Bool) (tr : Int) (rd : ByteArray) (rp : Int) (w : World) (h : askB ph im bl tr rd rp = true) : Calls Try.prog 11 #[.agg #[.int .i64 ph, .string im, .int .i64 bl, .bool ag, .int .i64 tr, .string rd, .int .i64 rp]] w (Asked w (askS ph im bl ag tr rd rp) (askD ph im bl tr rd rp) 0) := by
  obtain ⟨k1, k0, k7⟩ := ask_parts.1 h
  have hr : restB ph = false := decide_eq_false (by omega)
  obtain ⟨j, rfl, hj, h9, hz, hz2, hw⟩ := ask_ways ag h
  have hX := sevM w (.int .i64 ph) (.string im) (.int .i64 j) (.bool ag) (.int .i64 tr) (.string rd) (.int .i64 rp) 23
  have hB := hal w (.cells #[.int .i64 ph, .string im, .int .i64 j, .bool ag, .int .i64 tr, .string rd, .int .i64 rp] 23)
  have HM := hide (fun w => refHMay_any ph im j ag tr rd rp w)
  have HI := hide (fun w => rests_any ph im j ag tr rd rp w)
  have b1 := build_cn
  have b2 := build_c
  have b3 := build_cv
  have b4 := build_set
  obtain ⟨a, ha⟩ : ∃ a : Nat, a = min im.size (32 * j) := ⟨_, rfl⟩
  obtain ⟨b, hb⟩ : ∃ b : Nat, b = min im.size (32 * j + 32) := ⟨_, rfl⟩
  have hm1 := fun ts t w => run_min2 (P := Try.prog) (im.size : Int) (32 * (j : Int)) (a : Int) (by omega) ts t w
  have hm2 := fun ts t w => run_min2 (P := Try.prog) (im.size : Int) (32 * (j : Int) + 32) (b : Int) (by omega) ts t w
  have hab : a ≤ b := by omega
  have hbs : b ≤ im.size := by omega
  have hT := piece_cut im j a b ha hb
  have hTz := size_piece_le im j
  rw [k1] at HM
  rw [hr] at HI
  clear h k1 hr ha hb hj hz k0 k7
  generalize askS ph im j ag tr rd rp = U at *
  generalize askD ph im j tr rd rp = D at *
  generalize pieceS im j = T at *
  unfold Asked
  have hj8 : (j : Int) ≤ 9 := by omega
  have hj0 : (0 : Int) ≤ (j : Int) := by omega
  rcases hw with ⟨rfl, rfl, hU, rfl⟩ | ⟨rfl, rfl, rfl, hU, rfl⟩ | ⟨rfl, rfl, hne, hU, rfl⟩ | ⟨rfl, hU, rfl⟩ | ⟨rfl | rfl, hU, rfl⟩ | ⟨rfl, hU, rfl⟩ | ⟨rfl, hU, rfl⟩
  all_goals
    have CP := hide (fun w => put_eq hU w)
    clear hU
    go_enter Try.func11, Try.ntmps11
    go_upto_region 1 with fail
    generalize w.alloc _ = W at *
    go_upto_region 3 with (first | (go_at_call 14; refine (HM.out _).mono ?_; rintro e w1 ⟨rfl, hb⟩; replace hB := thenB hB hb; replace hX := sevB hX hb; clear hb) | (go_at_call 28; refine (HI.out _).mono ?_; rintro e w2 ⟨rfl, hb⟩; replace hB := thenB hB hb; replace hX := sevB hX hb; clear hb))
    have hn := hal w2 (.cells #[.int .i64 3, .int .i64 0, .int .i64 6] 48)
    have hY := resM w2 (.int .i64 3) (.int .i64 0) (.int .i64 6) 48
    replace hB := thenB hB hn
    have hlt := hX.1
    replace hX := sevB hX hn
    clear hn
    go_upto_region 5 with fail
    generalize w2.alloc _ = W3 at *
    generalize w2.heap.size = G at *
    have hG : w.heap.size ≤ G := Nat.le_of_lt hlt
    have hG1 : ¬ G = w.heap.size := by omega
    have hG2 : ¬ w.heap.size = G := by omega
    clear HM HI hlt
    go_wp2_with (go_at_call 29; refine (CP.out _).mono ?_; rintro e w4 ⟨rfl, hb⟩; replace hB := thenB (by first | with_reducible exact hB | with_reducible exact set3 hB hG | with_reducible exact (set3 hB hG).setCell hG _) hb; clear hb)
    first
      | exact bodyPost_ret (v := .tuple #[.string U, .string ⟨#[]⟩, .int .i64 0]) (by simp [results, Try.results11, go_sem]) rfl ⟨rfl, hB⟩
      | exact bodyPost_ret (v := .tuple #[.string U, .string D, .int .i64 0]) (by simp [results, Try.results11, go_sem]) rfl ⟨rfl, hB⟩
theorem refAsks_any (ph : Int) (im : ByteArray) (bl : Int) (ag : Bool) (tr : Int) (rd : ByteArray) (rp : Int) (w : World) : Calls Try.prog 11 #[.agg #[.int .i64 ph, .string im, .int .i64 bl, .bool ag, .int .i64 tr, .string rd, .int .i64 rp]] w fun e w' => e = .returned (.tuple #[.string (askS ph im bl ag tr rd rp), .string (askD ph im bl tr rd rp), .int .i64 (errH (askB ph im bl tr rd rp))]) ∧ Below w.heap.size w w' := by
  cases h : askB ph im bl tr rd rp with
  | false =>
    obtain ⟨e1, e2⟩ := ask_no ag h
    rw [e1, e2]
    exact refAsks_no ph im bl ag tr rd rp w h
  | true => exact refAsks_yes ph im bl ag tr rd rp w h
end Go.Proofs.Ythegdhogpjhidaa.HstRefs
