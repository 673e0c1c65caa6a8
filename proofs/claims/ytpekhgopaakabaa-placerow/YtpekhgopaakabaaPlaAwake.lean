/- The contract of 'awake' of the laws over package place, which asks what is known of the flash of one record: it answers true. -/
import Derived.Test.YtpekhgopaakabaaHeldCalls
import Derived.Test.YtpekhgopaakabaaPlaWalk
import Derived.Test.YtpekhgopaakabaaPlaStep
import Derived.Deep.RegionHeld3
namespace Go.Proofs.Ytpekhgopaakabaa.PlaAwake
open Go.Proofs.Ytpekhgopaakabaa Go.RowKit Go.Proofs.Ytpekhgopaakabaa.Bytes Go.Proofs.Ytpekhgopaakabaa.NorWalk Go.Proofs.Ytpekhgopaakabaa.NorRef Go.Proofs.Ytpekhgopaakabaa.Ent Go.Proofs.Ytpekhgopaakabaa.EntRow Go.Proofs.Ytpekhgopaakabaa.EntWalk Go.Proofs.Ytpekhgopaakabaa.Jou Go.Proofs.Ytpekhgopaakabaa.JouRow Go.Proofs.Ytpekhgopaakabaa.JouRef Go.Proofs.Ytpekhgopaakabaa.Ops Go.Proofs.Ytpekhgopaakabaa.Act Go.Proofs.Ytpekhgopaakabaa.ActApp Go.Proofs.Ytpekhgopaakabaa.Held Go.Proofs.Ytpekhgopaakabaa.HeldCalls Go.Proofs.Ytpekhgopaakabaa.Cho Go.Proofs.Ytpekhgopaakabaa.Pla Go.Proofs.Ytpekhgopaakabaa.PlaWalk
attribute [local go_sem ↓] Go.wp_at_zero Go.wp_at_succ

/-- The record of slot 0's first eight bytes. -/
def sum8 : Int := sumI heldS 0 8
theorem rof8 : rofQ heldS 0 8 = 2 ∧ rofT heldS 0 8 = 0 ∧ rofZ heldS 0 8 = 8 ∧ rofM heldS 0 8 = sum8 ∧ errS heldS 0 8 = 0 := by
  have h := rof_yes (f := heldS) (t := 0) (z := 8) (rofOk_parts.2 ⟨size_heldS, by omega, by omega, by omega, by omega⟩) (by rw [held_top]; omega)
  rw [held_top] at h
  exact h
theorem may8 : recMay 2 0 8 sum8 = true := by
  have hs := sumI_lt heldS 0 8
  exact recMay_parts.2 ⟨by omega, by omega, by omega, by omega, by omega, by omega, hs.1, hs.2⟩
theorem app8 : appL heldS 2 0 8 sum8 = wordsTo ((24 : Nat) : Int) (putS 2 0 8 sum8) 6 := by
  have h : appOk heldS 2 0 8 sum8 = true := imgOk_parts.2 ⟨size_heldS, may8⟩
  have hh : homeI heldS = 0 := by unfold homeI; rw [(act_may held_act).2.1]; rfl
  rw [app_ok h]
  unfold appE appA
  rw [hh, held_free.2, held_free.1]
  rfl
theorem next_held (w : World) : Calls Try.prog 8 #[.string heldS] w fun e w' => e = .returned (.tuple #[.int .i64 2, .int .i64 0]) ∧ Below w.heap.size w w' := by
  have h := next_any heldS w
  have e := next_yes (mayF_t size_heldS) (by rw [held_top]; omega)
  rw [held_top] at e
  rw [e.1, e.2] at h
  exact h
theorem rof_held8 (w : World) : Calls Try.prog 17 #[.string heldS, .int .i64 0, .int .i64 8] w fun e w' => e = .returned (.tuple #[.agg #[.int .i64 2, .int .i64 0, .int .i64 8, .int .i64 sum8], .int .i64 0]) ∧ Below w.heap.size w w' := by
  have h := refRof_any heldS 0 8 w
  obtain ⟨v1, v2, v3, v4, v5⟩ := rof8
  rw [v1, v2, v3, v4, v5] at h
  exact h
theorem append_held (w : World) : Calls Try.prog 10 #[.string heldS, .agg #[.int .i64 2, .int .i64 0, .int .i64 8, .int .i64 sum8]] w fun e w' => ∃ g cap, e = .returned (.tuple #[.slice (some ⟨g, 0, none⟩) 6 cap, .int .i64 0]) ∧ 6 ≤ cap ∧ cap ≤ maxLen ∧ (g < w'.heap.size ∧ w'.cell? ⟨g, 0, none⟩ = some (.bool false) ∧ w'.cell? ⟨g, 1, none⟩ = some (.int .i64 24)) ∧ Below w.heap.size w w' := by
  refine (append_any heldS 2 0 8 sum8 w).mono ?_
  rintro e w' ⟨v, rfl, hown, hb⟩
  have hl : (appL heldS 2 0 8 sum8).length = 6 := by rw [app8, length_wordsTo]
  rw [hl] at hown
  obtain ⟨g, cap, rfl, _, _⟩ := hown.form (by omega)
  obtain ⟨_, h1, h2⟩ := OpsRow.owns_in hown
  have hw : appOk heldS 2 0 8 sum8 = true := imgOk_parts.2 ⟨size_heldS, may8⟩
  rw [hw]
  have c0 := h2.er 0 (by omega)
  have c1 := h2.pl 0 (by omega)
  simp only [app8] at c0 c1
  rw [get_wordsTo] at c0 c1
  rcases hown.2 with ⟨h0, _⟩ | ⟨g', cap', cur, hv, _, _, h3, h4, _⟩
  · cases h0
  · simp at hv
    exact ⟨g, cap, rfl, by omega, by omega, ⟨h1, c0, c1⟩, hb⟩
theorem next_empty (w : World) : Calls Try.prog 8 #[.string ⟨#[]⟩] w fun e w' => e = .returned (.tuple #[.int .i64 0, .int .i64 800]) ∧ w' = w := next_none ⟨#[]⟩ w (by decide)
theorem append_zero (w : World) : Calls Try.prog 10 #[.string heldS, .agg #[.int .i64 0, .int .i64 0, .int .i64 0, .int .i64 0]] w fun e w' => e = .returned (.tuple #[.slice none 0 0, .int .i64 800]) ∧ Below w.heap.size w w' := append_no heldS 0 0 0 0 w (by unfold appOk; rw [show recMay 0 0 0 0 = false from by decide, Bool.and_false])
theorem resD {w w' : World} {B : Nat} {x y z u : Value} (hb : Below w.heap.size w w') (h : B < w.heap.size ∧ w.cell? ⟨B, 0, none⟩ = some x ∧ w.cell? ⟨B, 1, none⟩ = some y ∧ w.cell? ⟨B, 2, none⟩ = some z ∧ w.cell? ⟨B, 3, none⟩ = some u ∧ ∀ i, w.frozen? ⟨B, i, none⟩ = false) :
    B < w'.heap.size ∧ w'.cell? ⟨B, 0, none⟩ = some x ∧ w'.cell? ⟨B, 1, none⟩ = some y ∧ w'.cell? ⟨B, 2, none⟩ = some z ∧ w'.cell? ⟨B, 3, none⟩ = some u ∧ ∀ i, w'.frozen? ⟨B, i, none⟩ = false := resB h hb
theorem twoB {w w' : World} {g : Nat} {x y : Value} (h : g < w.heap.size ∧ w.cell? ⟨g, 0, none⟩ = some x ∧ w.cell? ⟨g, 1, none⟩ = some y) (hb : Below w.heap.size w w') : g < w'.heap.size ∧ w'.cell? ⟨g, 0, none⟩ = some x ∧ w'.cell? ⟨g, 1, none⟩ = some y :=
  ⟨Nat.lt_of_lt_of_le h.1 hb.size, by rw [old_cells hb g 0 h.1]; exact h.2.1, by rw [old_cells hb g 1 h.1]; exact h.2.2⟩
set_option maxRecDepth 100000 in
set_option maxHeartbeats 4000000 in
theorem awake_any (w : World) : Calls Try.prog 15 #[] w fun e w' => e = .returned (.bool true) ∧ Below w.heap.size w w' := by
  have hB : Below w.heap.size w w := Below.refl _ _
  have C1 := hide (fun w => held8_any w)
  have C2 := hide (fun w => next_held w)
  have C3 := hide (fun w => rof_held8 w)
  have C4 := hide (fun w => append_held w)
  have C5 := hide (fun w => next_empty w)
  have C6 := hide (fun w => append_zero w)
  have b2 := build_none
  generalize sum8 = M at *
  generalize heldS = F at *
  go_enter Try.func15, Try.ntmps15
  go_wp2_with fail
  refine (C1.out _).mono ?_; rintro e w1 ⟨rfl, hb⟩; replace hB := thenB hB hb; clear hb
  go_wp2_with fail
  refine (C2.out _).mono ?_; rintro e w2 ⟨rfl, hb⟩; replace hB := thenB hB hb; clear hb
  go_wp2_with fail
  refine (C1.out _).mono ?_; rintro e w3 ⟨rfl, hb⟩; replace hB := thenB hB hb; clear hb
  go_wp2_with fail
  refine (C3.out _).mono ?_; rintro e w4 ⟨rfl, hb⟩; replace hB := thenB hB hb; clear hb
  have hX := resM w4 (.int .i64 2) (.int .i64 0) (.int .i64 8) (.int .i64 M) 23
  replace hB := hB.alloc hB.size (.cells #[.int .i64 2, .int .i64 0, .int .i64 8, .int .i64 M] 23)
  go_wp2_with fail
  generalize w4.alloc (.cells #[.int .i64 2, .int .i64 0, .int .i64 8, .int .i64 M] 23) = W4 at *
  generalize w4.heap.size = B at *
  go_region_held3 (fun W => W.cell? ⟨B, 0, none⟩ = some (.int .i64 2) ∧ W.cell? ⟨B, 1, none⟩ = some (.int .i64 0) ∧ W.cell? ⟨B, 2, none⟩ = some (.int .i64 8) ∧ W.cell? ⟨B, 3, none⟩ = some (.int .i64 M)) (go_keep) (first | (go_at_call 24; refine (C1.out _).mono ?_; rintro e w' ⟨rfl, hb⟩; replace hB := thenD hb hB rfl rfl rfl rfl; replace hX := resD hb hX; clear hb) | (go_at_call 10; refine (C4.out _).mono ?_; rintro e w' ⟨g, cap, rfl, hc1, hc2, hg, hb⟩; replace hB := thenD hb hB rfl rfl rfl rfl; replace hX := resD hb hX; clear hb))
  go_wp2_with fail
  refine (C5.out _).mono ?_; rintro e w6 ⟨rfl, rfl⟩
  go_wp2_with fail
  refine (C1.out _).mono ?_; rintro e w7 ⟨rfl, hb⟩; replace hB := thenB hB hb; replace hg := twoB hg hb; clear hb
  go_wp2_with fail
  refine (C6.out _).mono ?_; rintro e w8 ⟨rfl, hb⟩; replace hB := thenB hB hb; replace hg := twoB hg hb; clear hb
  obtain ⟨hg0, hg1, hg2⟩ := hg
  go_wp2_with (go_at_call 12; refine (numJ_any _ _).mono ?_; rintro e w' ⟨rfl, rfl⟩)
  go_ret
  exact ⟨rfl, hB⟩
end Go.Proofs.Ytpekhgopaakabaa.PlaAwake
