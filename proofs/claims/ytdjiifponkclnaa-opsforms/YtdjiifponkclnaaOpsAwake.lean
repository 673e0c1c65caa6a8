/- The contract of 'awake' of the laws over package ops, which asks what is known of two words on a blank flash: it answers true. -/
import Derived.Test.YtdjiifponkclnaaOpsHelp
import Derived.Test.YtdjiifponkclnaaNorRef
namespace Go.Proofs.Ytdjiifponkclnaa.OpsAwake
open Go.Proofs.Ytdjiifponkclnaa Go.RowKit Go.Proofs.Ytdjiifponkclnaa.Bytes Go.Proofs.Ytdjiifponkclnaa.NorWalk Go.Proofs.Ytdjiifponkclnaa.NorRef Go.Proofs.Ytdjiifponkclnaa.Ops Go.Proofs.Ytdjiifponkclnaa.OpsRow Go.Proofs.Ytdjiifponkclnaa.OpsWalk Go.Proofs.Ytdjiifponkclnaa.OpsWords Go.Proofs.Ytdjiifponkclnaa.OpsHelp

def ab : ByteArray := ⟨#[97, 98, 99, 100]⟩
def ee : ByteArray := ⟨#[101, 255, 255, 255]⟩
def two : List FOp := [⟨false, 8, ab⟩, ⟨false, 12, ee⟩]
theorem okW : wordsOk 8 ⟨#[97, 98, 99, 100, 101]⟩ = true := by decide
theorem noW : wordsOk 6 ⟨#[97, 98, 99, 100]⟩ = false := by decide
theorem isW : wordsL 8 ⟨#[97, 98, 99, 100, 101]⟩ = two := by rw [wordsL_ok okW]; rfl
theorem okA : cutOk Nor.blankS false 12 ee 96 = true := by unfold cutOk; rw [Nor.size_blankS]; decide
theorem okB : cutOk Nor.blankS false 12 ee 3 = true := by unfold cutOk; rw [Nor.size_blankS]; decide
theorem okC : cutOk (cutS Nor.blankS false 12 ee 96) true 0 ⟨#[]⟩ 96 = true := by unfold cutOk; rw [size_cutS okA]; decide
theorem noK : cutOk Nor.blankS true 4 ⟨#[]⟩ 96 = false := by unfold cutOk; rw [Nor.size_blankS]; decide
theorem blank_list : Nor.blankS.data.toList = Nor.blankL := mk_toList _
theorem ee_list : ee.data.toList = [101, 255, 255, 255] := rfl
theorem n12 : (12 : Int).toNat = 12 := rfl
theorem n96 : (96 : Int).toNat = 96 := rfl
theorem n3 : (3 : Int).toNat = 3 := rfl
theorem n0 : (0 : Int).toNat = 0 := rfl
theorem step_f (f t : List UInt8) (p k : Nat) : stepL f t false p k = Nor.tornL f t p (min k 32) := rfl
theorem step_t (f t : List UInt8) (p k : Nat) : stepL f t true p k = Nor.wornL f p k := rfl
theorem isA : (cutS Nor.blankS false 12 ee 96).extract 12 16 = ⟨#[101, 255, 255, 255]⟩ := by
  apply ba_ext
  rw [list_extract, list_cutS okA, ee_list, blank_list, n12, n96, step_f]
  show List.take 4 _ = _
  rw [Nor.word_tornL _ _ _ _ (by rw [Nor.length_blankL]; omega), Nor.word_blankL _ (by omega)]
  decide +kernel
theorem isB (h : 12 < (cutS Nor.blankS false 12 ee 3).size) : (cutS Nor.blankS false 12 ee 3)[12] = 253 := by
  have e := Nor.ba_get (cutS Nor.blankS false 12 ee 3) 12 h
  rw [list_cutS okB, ee_list, blank_list, n12, n3, step_f, Nor.get_tornL, Nor.get_blankL _ (by omega)] at e
  have e2 := (Option.some.inj e).symm
  rw [e2]
  decide +kernel
theorem isC : cutS (cutS Nor.blankS false 12 ee 96) true 0 ⟨#[]⟩ 96 = Nor.blankS := by
  apply ba_ext
  rw [list_cutS okC, list_cutS okA, ee_list, blank_list, n12, n96, n0, step_f, step_t]
  exact Nor.wornL_tornL_blank _ _ _ _ (by omega) (by omega)
theorem two_in (w : World) (g : Nat) (h : OpsIn w g two) : w.cell? ⟨g, 0, none⟩ = some (.bool false) ∧ w.cell? ⟨g, 1, none⟩ = some (.int .i64 8) ∧ w.cell? ⟨g, 2, none⟩ = some (.string ab) ∧ w.cell? ⟨g, 3, none⟩ = some (.bool false) ∧ w.cell? ⟨g, 4, none⟩ = some (.int .i64 12) ∧ w.cell? ⟨g, 5, none⟩ = some (.string ee) :=
  ⟨h.er 0 (by decide), h.pl 0 (by decide), h.tx 0 (by decide), h.er 1 (by decide), h.pl 1 (by decide), h.tx 1 (by decide)⟩
theorem words_two (w : World) : Calls Try.prog 9 #[.int .i64 8, .string ⟨#[97, 98, 99, 100, 101]⟩] w fun e w' => ∃ g cap, e = .returned (.tuple #[.slice (some ⟨g, 0, none⟩) 2 cap, .int .i64 0]) ∧ 2 ≤ cap ∧ cap ≤ maxLen ∧ g < w'.heap.size ∧ OpsIn w' g two ∧ Below w.heap.size w w' := by
  refine (words_any 8 _ w).mono ?_
  rintro e w' ⟨v, rfl, hown, hb⟩
  rw [isW] at hown
  rw [okW]
  have hown2 : w'.ownsRow w.heap.size 23 3 v 2 (flat two) := hown
  obtain ⟨g, cap, rfl, _, _⟩ := hown2.form (by omega)
  obtain ⟨_, h1, h2⟩ := owns_in hown2
  rcases hown2.2 with ⟨h0, _⟩ | ⟨g', cap', cur, hv, _, _, h3, h4, _⟩
  · cases h0
  · simp at hv
    exact ⟨g, cap, rfl, by omega, by omega, h1, h2, hb⟩
theorem words_none (w : World) : Calls Try.prog 9 #[.int .i64 6, .string ⟨#[97, 98, 99, 100]⟩] w fun e w' => e = .returned (.tuple #[.slice none 0 0, .int .i64 300]) ∧ w' = w := words_no 6 _ w noW
theorem two_made (w : World) : IsOps (w.alloc (.cells #[.bool false, .int .i64 8, .string ⟨#[97, 98, 99, 100]⟩, .bool false, .int .i64 12, .string ⟨#[101, 255, 255, 255]⟩] 23)) (.slice (some ⟨w.heap.size, 0, none⟩) 2 2) two := by
  refine ⟨_, 2, rfl, .inr ⟨_, rfl, size_alloc1 _ _, ?_, ?_, ?_⟩⟩
  all_goals
    intro i hi
    obtain rfl | rfl : i = 0 ∨ i = 1 := by simp [two] at hi; omega
    all_goals
      rw [World.cell?_alloc_at _ _ _ _ rfl]
      rfl

set_option maxHeartbeats 1000000 in
theorem awake_any (w : World) : Calls Try.prog 20 #[] w fun e w' => e = .returned (.bool true) ∧ Below w.heap.size w w' := by
  have hB : Below w.heap.size w w := Below.refl _ _
  have b1 := build_at
  have b2 := build_er
  have b3 := build_er_at
  have fA := fun w => do_any Nor.blankS false 12 ee w
  have fB := fun w => cut_any Nor.blankS false 12 ee 3 w
  have fC := fun w => do_any (cutS Nor.blankS false 12 ee 96) true 0 ⟨#[]⟩ w
  have fK := fun w => do_any Nor.blankS true 4 ⟨#[]⟩ w
  have sz0 := Nor.size_blankS
  have szA := size_cutS okA
  have szB := size_cutS okB
  have iA := isA
  have iB := isB
  rw [okA] at fA
  rw [okB] at fB
  rw [okC, isC] at fC
  rw [noK] at fK
  have FA := hide fA; have FB := hide fB; have FC := hide fC; have FK := hide fK
  clear fA fB fC fK
  generalize cutS Nor.blankS false 12 ee 96 = A at *
  generalize cutS Nor.blankS false 12 ee 3 = B at *
  go_enter Try.func20, Try.ntmps20
  go_wp2_with (go_at_call 21; refine (refBlank_any _).mono ?_; rintro e w' ⟨rfl, hb⟩; replace hB := hB.trans (hb.mono hB.size); clear hb)
  refine (words_two _).mono ?_; rintro e w1 ⟨g, cap, rfl, hc1, hc2, hg, hin, hb⟩; replace hB := thenB hB hb; clear hb
  obtain ⟨c0, c1, c2, c3, c4, c5⟩ := two_in _ _ hin
  go_wp2_with fail
  refine (FA.out _).mono ?_; rintro e w2 ⟨rfl, hb⟩; replace hB := thenB hB hb; replace hin := hin.below hb hg; replace hg := Nat.lt_of_lt_of_le hg hb.size; clear hb c0 c1 c2 c3 c4 c5
  obtain ⟨c0, c1, c2, c3, c4, c5⟩ := two_in _ _ hin
  go_wp2_with fail
  refine (FB.out _).mono ?_; rintro e w3 ⟨rfl, hb⟩; replace hB := thenB hB hb; replace hin := hin.below hb hg; replace hg := Nat.lt_of_lt_of_le hg hb.size; clear hb c0 c1 c2 c3 c4 c5
  obtain ⟨c0, c1, c2, c3, c4, c5⟩ := two_in _ _ hin
  go_wp2_with fail
  refine (FC.out _).mono ?_; rintro e w4 ⟨rfl, hb⟩; replace hB := thenB hB hb; replace hin := hin.below hb hg; replace hg := Nat.lt_of_lt_of_le hg hb.size; clear hb c0 c1 c2 c3 c4 c5
  obtain ⟨c0, c1, c2, c3, c4, c5⟩ := two_in _ _ hin
  go_wp2_with fail
  refine (words_none _).mono ?_; rintro e w' ⟨rfl, rfl⟩
  go_wp2_with fail
  refine (FK.out _).mono ?_; rintro e w5 ⟨rfl, hb⟩; replace hB := thenB hB hb; replace hin := hin.below hb hg; replace hg := Nat.lt_of_lt_of_le hg hb.size; clear hb c0 c1 c2 c3 c4 c5
  obtain ⟨c0, c1, c2, c3, c4, c5⟩ := two_in _ _ hin
  go_wp2_with fail
  have e0 : errO true = 0 := rfl
  have e2 : errO false = 300 := rfl
  have hin6 := hin.below (w' := w5.alloc (.cells #[.bool false, .int .i64 8, .string ⟨#[97, 98, 99, 100]⟩, .bool false, .int .i64 12, .string ⟨#[101, 255, 255, 255]⟩] 23)) ((Below.refl w5.heap.size w5).alloc (Nat.le_refl _) _) hg
  have hg6 : g < (w5.alloc (.cells #[.bool false, .int .i64 8, .string ⟨#[97, 98, 99, 100]⟩, .bool false, .int .i64 12, .string ⟨#[101, 255, 255, 255]⟩] 23)).heap.size := Nat.lt_trans hg (size_alloc1 _ _)
  replace hB := hB.alloc hB.size (.cells #[.bool false, .int .i64 8, .string ⟨#[97, 98, 99, 100]⟩, .bool false, .int .i64 12, .string ⟨#[101, 255, 255, 255]⟩] 23)
  have htwo := two_made w5
  clear c0 c1 c2 c3 c4 c5 hin
  refine (same_yes _ _ two _ (by decide) ⟨_, cap, rfl, .inr ⟨g, rfl, hg6, hin6⟩⟩ htwo).mono ?_
  clear htwo
  rintro e w6 ⟨rfl, hb⟩
  replace hin6 := hin6.below hb hg6
  replace hB := thenB hB hb
  clear hg6 hb
  obtain ⟨c0, c1, c2, c3, c4, c5⟩ := two_in _ _ hin6
  have hm : opMay false 8 ab = true := by decide
  go_wp2_with (first | (go_at_call 17; refine (num_any _ _).mono ?_; rintro e w' ⟨rfl, rfl⟩) | (go_at_call 18; refine (opMay_any _ _ _ _).mono ?_; rintro e w7 ⟨rfl, hb⟩))
  go_ret
  exact ⟨rfl, thenB hB hb⟩
end Go.Proofs.Ytdjiifponkclnaa.OpsAwake
