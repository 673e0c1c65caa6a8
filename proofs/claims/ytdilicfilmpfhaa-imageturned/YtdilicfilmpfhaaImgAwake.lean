/- The contract of 'awake' of the laws over package image, which asks what is known of the flash of one record: it answers true. -/
import Derived.Test.YtdilicfilmpfhaaHeldCalls
import Derived.Test.YtdilicfilmpfhaaImgHeld
import Derived.Test.YtdilicfilmpfhaaImgWalk
import Derived.Deep.RegionHeld3
namespace Go.Proofs.Ytdilicfilmpfhaa.ImgAwake
open Go.Proofs.Ytdilicfilmpfhaa Go.RowKit Go.Proofs.Ytdilicfilmpfhaa.Bytes Go.Proofs.Ytdilicfilmpfhaa.NorWalk Go.Proofs.Ytdilicfilmpfhaa.NorRef Go.Proofs.Ytdilicfilmpfhaa.Ent Go.Proofs.Ytdilicfilmpfhaa.EntRow Go.Proofs.Ytdilicfilmpfhaa.EntWalk Go.Proofs.Ytdilicfilmpfhaa.Jou Go.Proofs.Ytdilicfilmpfhaa.JouRow Go.Proofs.Ytdilicfilmpfhaa.JouRef Go.Proofs.Ytdilicfilmpfhaa.Act Go.Proofs.Ytdilicfilmpfhaa.ActApp Go.Proofs.Ytdilicfilmpfhaa.Held Go.Proofs.Ytdilicfilmpfhaa.HeldCalls Go.Proofs.Ytdilicfilmpfhaa.ImgWalk
attribute [local go_sem ↓] Go.wp_at_zero Go.wp_at_succ

theorem rof_held (w : World) : Calls Try.prog 25 #[.string heldS, .int .i64 0, .int .i64 12] w fun e w' => e = .returned (.tuple #[.agg #[.int .i64 2, .int .i64 0, .int .i64 12, .int .i64 sumAb], .int .i64 0]) ∧ Below w.heap.size w w' := by
  have h := refRof_any heldS 0 12 w
  obtain ⟨v1, v2, v3, v4, v5⟩ := held_rof
  rw [v1, v2, v3, v4, v5] at h
  exact h
theorem of_held (w : World) : Calls Try.prog 9 #[.string heldS, .agg #[.int .i64 2, .int .i64 0, .int .i64 12, .int .i64 sumAb]] w fun e w' => e = .returned (.tuple #[.string ⟨#[97, 98, 97, 98, 97, 98, 97, 98, 97, 98, 97, 98]⟩, .int .i64 0]) ∧ Below w.heap.size w w' := by
  have h := of_any heldS 2 0 12 sumAb w
  rw [held_img sumAb sumAb_lt 2 (by omega), held_imgOk sumAb sumAb_lt 2 (by omega)] at h
  exact h
theorem good_held (w : World) : Calls Try.prog 11 #[.string heldS, .agg #[.int .i64 2, .int .i64 0, .int .i64 12, .int .i64 sumAb]] w fun e w' => e = .returned (.tuple #[.bool true, .int .i64 0]) ∧ Below w.heap.size w w' := by
  have h := good_any heldS 2 0 12 sumAb w
  rw [held_good sumAb sumAb_lt 2 (by omega), held_imgOk sumAb sumAb_lt 2 (by omega), decide_eq_true rfl] at h
  exact h
theorem good_held1 (w : World) : Calls Try.prog 11 #[.string heldS, .agg #[.int .i64 2, .int .i64 0, .int .i64 12, .int .i64 sumAb1]] w fun e w' => e = .returned (.tuple #[.bool false, .int .i64 0]) ∧ Below w.heap.size w w' := by
  have h := good_any heldS 2 0 12 sumAb1 w
  rw [held_good sumAb1 sumAb1_ne.2 2 (by omega), held_imgOk sumAb1 sumAb1_ne.2 2 (by omega), decide_eq_false sumAb1_ne.1] at h
  exact h
theorem base_one (w : World) : Calls Try.prog 7 #[.int .i64 1] w fun e w' => e = .returned (.tuple #[.int .i64 480, .int .i64 0]) ∧ w' = w := base_any 1 w
theorem base_two (w : World) : Calls Try.prog 7 #[.int .i64 2] w fun e w' => e = .returned (.tuple #[.int .i64 0, .int .i64 600]) ∧ w' = w := base_any 2 w
theorem resD {w w' : World} {B : Nat} {x y z u : Value} (hb : Below w.heap.size w w') (h : B < w.heap.size ∧ w.cell? ⟨B, 0, none⟩ = some x ∧ w.cell? ⟨B, 1, none⟩ = some y ∧ w.cell? ⟨B, 2, none⟩ = some z ∧ w.cell? ⟨B, 3, none⟩ = some u ∧ ∀ i, w.frozen? ⟨B, i, none⟩ = false) :
    B < w'.heap.size ∧ w'.cell? ⟨B, 0, none⟩ = some x ∧ w'.cell? ⟨B, 1, none⟩ = some y ∧ w'.cell? ⟨B, 2, none⟩ = some z ∧ w'.cell? ⟨B, 3, none⟩ = some u ∧ ∀ i, w'.frozen? ⟨B, i, none⟩ = false := resB h hb
theorem res3 {w : World} {B : Nat} {x y z u v : Value} (h : B < w.heap.size ∧ w.cell? ⟨B, 0, none⟩ = some x ∧ w.cell? ⟨B, 1, none⟩ = some y ∧ w.cell? ⟨B, 2, none⟩ = some z ∧ w.cell? ⟨B, 3, none⟩ = some u ∧ ∀ i, w.frozen? ⟨B, i, none⟩ = false) :
    B < (w.setCell ⟨B, 3, none⟩ v).heap.size ∧ (w.setCell ⟨B, 3, none⟩ v).cell? ⟨B, 0, none⟩ = some x ∧ (w.setCell ⟨B, 3, none⟩ v).cell? ⟨B, 1, none⟩ = some y ∧ (w.setCell ⟨B, 3, none⟩ v).cell? ⟨B, 2, none⟩ = some z ∧ (w.setCell ⟨B, 3, none⟩ v).cell? ⟨B, 3, none⟩ = some v ∧ ∀ i, (w.setCell ⟨B, 3, none⟩ v).frozen? ⟨B, i, none⟩ = false := by
  obtain ⟨h0, h1, h2, h3, h4, h5⟩ := h
  have ne : ∀ i, i ≠ 3 → (⟨B, 3, none⟩ : Addr) ≠ ⟨B, i, none⟩ := fun i hi hc => by injection hc; exact hi (by omega)
  refine ⟨by simp [World.setCell]; omega, ?_, ?_, ?_, ?_, fun i => by rw [World.frozen?_setCell]; exact h5 i⟩
  · rw [World.cell?_setCell_other w _ _ _ (ne 0 (by omega))]; exact h1
  · rw [World.cell?_setCell_other w _ _ _ (ne 1 (by omega))]; exact h2
  · rw [World.cell?_setCell_other w _ _ _ (ne 2 (by omega))]; exact h3
  · rw [World.cell?_setCell_same w _ _ h4]
set_option maxHeartbeats 4000000 in
theorem awake_any (w : World) : Calls Try.prog 14 #[] w fun e w' => e = .returned (.bool true) ∧ Below w.heap.size w w' := by
  have hB : Below w.heap.size w w := Below.refl _ _
  have C1 := hide (fun w => held6_any w)
  have C2 := hide (fun w => rof_held w)
  have C3 := hide (fun w => base_one w)
  have C4 := hide (fun w => of_held w)
  have C5 := hide (fun w => good_held w)
  have C6 := hide (fun w => good_held1 w)
  have C7 := hide (fun w => base_two w)
  have hx : bits .xor .i64 sumAb 1 = sumAb1 := rfl
  generalize sumAb1 = M1 at *
  generalize sumAb = M at *
  generalize heldS = F at *
  go_enter Try.func14, Try.ntmps14
  go_wp2_with fail
  refine (C1.out _).mono ?_; rintro e w1 ⟨rfl, hb⟩; replace hB := thenB hB hb; clear hb
  go_wp2_with fail
  refine (C2.out _).mono ?_; rintro e w2 ⟨rfl, hb⟩; replace hB := thenB hB hb; clear hb
  have hX := resM w2 (.int .i64 2) (.int .i64 0) (.int .i64 12) (.int .i64 M) 23
  have s2 := hB.size
  replace hB := hB.alloc hB.size (.cells #[.int .i64 2, .int .i64 0, .int .i64 12, .int .i64 M] 23)
  go_wp2_with fail
  generalize w2.alloc (.cells #[.int .i64 2, .int .i64 0, .int .i64 12, .int .i64 M] 23) = W2 at *
  generalize w2.heap.size = B at *
  refine (C3.out _).mono ?_; rintro e w3 ⟨rfl, rfl⟩
  go_wp2_with fail
  go_region_held3 (fun W => W.cell? ⟨B, 0, none⟩ = some (.int .i64 2) ∧ W.cell? ⟨B, 1, none⟩ = some (.int .i64 0) ∧ W.cell? ⟨B, 2, none⟩ = some (.int .i64 12) ∧ W.cell? ⟨B, 3, none⟩ = some (.int .i64 M)) (go_keep) (first | (go_at_call 17; refine (C1.out _).mono ?_; rintro e w' ⟨rfl, hb⟩; replace hB := thenD hb hB rfl rfl rfl rfl; replace hX := resD hb hX; clear hb) | (go_at_call 9; refine (C4.out _).mono ?_; rintro e w' ⟨rfl, hb⟩; replace hB := thenD hb hB rfl rfl rfl rfl; replace hX := resD hb hX; clear hb))
  go_wp2_with fail
  go_region_held3 (fun W => W.cell? ⟨B, 0, none⟩ = some (.int .i64 2) ∧ W.cell? ⟨B, 1, none⟩ = some (.int .i64 0) ∧ W.cell? ⟨B, 2, none⟩ = some (.int .i64 12) ∧ W.cell? ⟨B, 3, none⟩ = some (.int .i64 M)) (go_keep) (first | (go_at_call 17; refine (C1.out _).mono ?_; rintro e w' ⟨rfl, hb⟩; replace hB := thenD hb hB rfl rfl rfl rfl; replace hX := resD hb hX; clear hb) | (go_at_call 11; refine (C5.out _).mono ?_; rintro e w' ⟨rfl, hb⟩; replace hB := thenD hb hB rfl rfl rfl rfl; replace hX := resD hb hX; clear hb))
  go_wp2_with fail
  replace hX := res3 (v := .int .i64 M1) hX
  replace hB := hB.setCell (p := ⟨B, 3, none⟩) s2 (.int .i64 M1)
  generalize World.setCell _ ⟨B, 3, none⟩ (.int .i64 M1) = W4 at *
  go_region_held3 (fun W => W.cell? ⟨B, 0, none⟩ = some (.int .i64 2) ∧ W.cell? ⟨B, 1, none⟩ = some (.int .i64 0) ∧ W.cell? ⟨B, 2, none⟩ = some (.int .i64 12) ∧ W.cell? ⟨B, 3, none⟩ = some (.int .i64 M1)) (go_keep) (first | (go_at_call 17; refine (C1.out _).mono ?_; rintro e w' ⟨rfl, hb⟩; replace hB := thenD hb hB rfl rfl rfl rfl; replace hX := resD hb hX; clear hb) | (go_at_call 11; refine (C6.out _).mono ?_; rintro e w' ⟨rfl, hb⟩; replace hB := thenD hb hB rfl rfl rfl rfl; replace hX := resD hb hX; clear hb))
  go_wp2_with fail
  refine (C7.out _).mono ?_; rintro e w7 ⟨rfl, rfl⟩
  go_wp2_with (go_at_call 13; refine (numJ_any _ _).mono ?_; rintro e w' ⟨rfl, rfl⟩)
  go_ret
  exact ⟨rfl, hB⟩
end Go.Proofs.Ytdilicfilmpfhaa.ImgAwake
