/- What every program answers that is one: awake of skifflaw10. -/
import Derived.Test.YtpoigakjhhkifaaBloWalk
import Derived.Deep.Cut
namespace Go.Proofs.Ytpoigakjhhkifaa.BloAwake
open Go.Proofs.Ytpoigakjhhkifaa Go.RowKit Go.Proofs.Ytpoigakjhhkifaa.Bytes Go.Proofs.Ytpoigakjhhkifaa.NorWalk Go.Proofs.Ytpoigakjhhkifaa.TxtRow Go.Proofs.Ytpoigakjhhkifaa.TxtHelp Go.Proofs.Ytpoigakjhhkifaa.BloWalk Go.Proofs.Ytpoigakjhhkifaa.Blo

theorem hal (w : World) (o : Obj) : Below w.heap.size w (w.alloc o) := (Below.refl _ w).alloc (Nat.le_refl _) o
def awS : ByteArray := ⟨#[48, 49, 50, 51, 52, 53, 54, 55, 56, 57, 97, 98, 99, 100, 101, 102, 48, 49, 50, 51, 52, 53, 54, 55, 56, 57, 97, 98, 99, 100, 101, 102, 120, 121, 122]⟩
def awL : List ByteArray := [awS.extract 0 32, ⟨#[120, 121, 122]⟩]
theorem awS_ok : splitOk awS = true := rfl
theorem aw_split : splitL awS = awL := by
  rw [splitL_ok awS_ok]
  have e : pieceS awS 1 = ⟨#[120, 121, 122]⟩ := by
    apply ba_ext
    unfold pieceS
    rw [list_extract]
    rfl
  show [pieceS awS 0, pieceS awS 1] = _
  rw [e]
  rfl
theorem aw_join : joinS awL = awS := by rw [← aw_split]; exact join_split awS_ok
theorem aw_good : joinB awL = true := by rw [← aw_split]; exact split_good awS_ok
theorem ab_not : joinB [⟨#[97]⟩, ⟨#[98]⟩] = false := not_good (j := 0) (by decide) (fun g => by have := g.2.2 (by decide); cases this)
theorem none_not : splitOk ⟨#[]⟩ = false := rfl
theorem aw1 (w : World) : Calls Try.prog 8 #[.string awS] w fun e w' => ∃ v, e = .returned (.tuple #[v, .int .i64 0]) ∧ IsTx w' v awL ∧ Below w.heap.size w w' := by
  refine (split_any awS w).mono ?_
  rintro e w' ⟨v, rfl, hown, hb⟩
  refine ⟨v, by rw [awS_ok]; rfl, ?_, hb⟩
  rw [← aw_split]
  exact ownsT_is hown
theorem aw2 (v : Value) (w : World) (h : IsTx w v awL) : Calls Try.prog 10 #[v] w fun e w' => e = .returned (.tuple #[.string awS, .int .i64 0]) ∧ Below w.heap.size w w' := by
  have := join_yes v awL w h aw_good
  rw [← joinS_t aw_good, aw_join] at this
  exact this
theorem aw3 (w : World) : Calls Try.prog 8 #[.string ⟨#[]⟩] w fun e w' => e = .returned (.tuple #[.slice none 0 0, .int .i64 1000]) ∧ w' = w := split_no _ w none_not
theorem aw4 (w : World) : Calls Try.prog 10 #[.slice (some ⟨w.heap.size, 0, none⟩) 2 2] (w.alloc (.cells #[.string ⟨#[97]⟩, .string ⟨#[98]⟩] 9)) fun e w' => e = .returned (.tuple #[.string ⟨#[]⟩, .int .i64 1000]) ∧ Below w.heap.size w w' := by
  refine (join_no _ [⟨#[97]⟩, ⟨#[98]⟩] _ (by decide) (by intro t ht; simp at ht; rcases ht with rfl | rfl <;> decide) (made_is w [⟨#[97]⟩, ⟨#[98]⟩] 9 2 rfl (by decide)) ab_not).mono ?_
  rintro e w' ⟨rfl, rfl⟩
  exact ⟨rfl, hal w _⟩
theorem aw5 (v : Value) (w : World) (B : Nat) (hB : w.heap.size = B) (h : IsTx w v awL) : Calls Try.prog 12 #[v, .slice (some ⟨B, 0, none⟩) 2 2] (w.alloc (.cells #[.string (awS.extract 0 32), .string ⟨#[120, 121, 122]⟩] 9)) fun e w' => e = .returned (.bool true) ∧ Below w.heap.size w w' := by
  subst hB
  refine (sameT_yes v (.slice (some ⟨w.heap.size, 0, none⟩) 2 2) awL _ (by decide) (h.below (hal w _)) (made_is w awL 9 2 rfl (by decide))).mono ?_
  rintro e w' ⟨rfl, hb⟩
  exact ⟨rfl, thenB (hal w _) hb⟩
set_option maxRecDepth 100000 in
set_option maxHeartbeats 400000 in
theorem awakeB_any (w : World) : Calls Try.prog 16 #[] w fun e w' => e = .returned (.bool true) ∧ Below w.heap.size w w' := by
  have H1 := hide aw1
  have H2 := hide aw2
  have H3 := hide aw3
  have H4 := hide aw4
  have H5 := hide aw5
  have hz : awS.size = 35 := rfl
  go_enter Try.func16, Try.ntmps16
  go_upto_region 2 with fail
  unfold awS at H1 H2 H5 hz
  generalize ByteArray.mk #[48, 49, 50, 51, 52, 53, 54, 55, 56, 57, 97, 98, 99, 100, 101, 102, 48, 49, 50, 51, 52, 53, 54, 55, 56, 57, 97, 98, 99, 100, 101, 102, 120, 121, 122] = S at *
  have hz1 : 32 ≤ S.size := by omega
  have hz2 : S.size ≤ 35 := by omega
  clear hz
  go_upto_region 3 with (go_at_call 8; refine (H1.out _).mono ?_; rintro e w1 ⟨v, rfl, hv, hb1⟩)
  clear H1
  go_upto_region 4 with (go_at_call 10; refine (H2.out _ _ hv).mono ?_; rintro e w2 ⟨rfl, hb2⟩; replace hv := hv.below hb2)
  clear H2
  go_upto_region 5 with (go_at_call 8; refine (H3.out _).mono ?_; rintro e w3 ⟨rfl, rfl⟩)
  clear H3
  go_upto_region 6 with (go_at_call 10; refine (H4.out _).mono ?_; rintro e w4 ⟨rfl, hb4⟩; replace hv := hv.below hb4)
  clear H4
  go_wp2_with (first | (go_at_call 13; refine (numB_any _ _).mono ?_; rintro e w6 ⟨rfl, rfl⟩) | (go_at_call 12; refine (H5.out _ _ _ rfl hv).mono ?_; rintro e w5 ⟨rfl, hb5⟩))
  go_ret
  exact ⟨rfl, thenB (thenB (thenB hb1 hb2) hb4) hb5⟩
end Go.Proofs.Ytpoigakjhhkifaa.BloAwake
