/- The contracts of the law's small helpers: the number of an error, and 'awake', which asks what is known of a blank flash: it answers true. -/
import Derived.Test.YtfneeijadhahlaaNorWalk
namespace Go.Proofs.Ytfneeijadhahlaa.NorAwake
open Go.Proofs.Ytfneeijadhahlaa Go.RowKit Go.Proofs.Ytfneeijadhahlaa.Bytes Go.Proofs.Ytfneeijadhahlaa.NorWalk

theorem num_any (n : Int) (w : World) : Calls Try.prog 17 #[.int .i64 n] w fun e w' => e = .returned (.int .i64 n) ∧ w' = w := by
  go_enter Try.func17, Try.ntmps17
  go_wp2
  go_ret
  exact ⟨rfl, rfl⟩

/-- The word that 'awake' programs. -/
def wd : ByteArray := ⟨#[15, 0, 255, 1]⟩
def ab : ByteArray := ⟨#[97, 98, 99, 100]⟩
theorem mk_list (l : List UInt8) : (ByteArray.mk l.toArray).data.toList = l := rfl
theorem wd_list : wd.data.toList = [15, 0, 255, 1] := rfl
theorem blank_list : Nor.blankS.data.toList = Nor.blankL := mk_list _
theorem n0 : (0 : Int).toNat = 0 := rfl
theorem n8 : (8 : Int).toNat = 8 := rfl
theorem n9 : (9 : Int).toNat = 9 := rfl
theorem n12 : (12 : Int).toNat = 12 := rfl
theorem n32 : (32 : Int).toNat = 32 := rfl
theorem n96 : (96 : Int).toNat = 96 := rfl
theorem okA : Nor.tornOk Nor.blankS 8 wd 32 = true := by unfold Nor.tornOk; rw [Nor.size_blankS]; decide
theorem okB : Nor.tornOk Nor.blankS 8 wd 12 = true := by unfold Nor.tornOk; rw [Nor.size_blankS]; decide
theorem okJ : Nor.tornOk Nor.blankS 6 ab 32 = false := by unfold Nor.tornOk; rw [Nor.size_blankS]; decide
theorem okK : Nor.wornOk Nor.blankS 8 96 = false := by unfold Nor.wornOk; rw [Nor.size_blankS]; decide
theorem okC : Nor.wornOk (Nor.tornS Nor.blankS 8 wd 32) 0 96 = true := by unfold Nor.wornOk; rw [Nor.size_tornS okA]; decide
theorem okD : Nor.wornOk (Nor.tornS Nor.blankS 8 wd 32) 0 9 = true := by unfold Nor.wornOk; rw [Nor.size_tornS okA]; decide
theorem isA : (Nor.tornS Nor.blankS 8 wd 32).extract 8 12 = ⟨#[15, 0, 255, 1]⟩ := by
  apply ba_ext
  rw [list_extract, Nor.tornS_ok okA, mk_list, wd_list, blank_list, n8, n32]
  show List.take 4 _ = _
  rw [Nor.word_tornL _ _ _ _ (by rw [Nor.length_blankL]; omega), Nor.word_blankL _ (by omega)]
  decide +kernel
theorem isB : (Nor.tornS Nor.blankS 8 wd 12).extract 8 12 = ⟨#[15, 240, 255, 255]⟩ := by
  apply ba_ext
  rw [list_extract, Nor.tornS_ok okB, mk_list, wd_list, blank_list, n8, n12]
  show List.take 4 _ = _
  rw [Nor.word_tornL _ _ _ _ (by rw [Nor.length_blankL]; omega), Nor.word_blankL _ (by omega)]
  decide +kernel
theorem isC : Nor.wornS (Nor.tornS Nor.blankS 8 wd 32) 0 96 = Nor.blankS := by
  apply ba_ext
  rw [Nor.wornS_ok okC, Nor.tornS_ok okA, mk_list, mk_list, wd_list, blank_list, n8, n32, n0, n96]
  exact Nor.wornL_tornL_blank _ _ _ _ (by omega) (by omega)
theorem isD : (Nor.wornS (Nor.tornS Nor.blankS 8 wd 32) 0 9).extract 8 12 = ⟨#[255, 0, 255, 1]⟩ := by
  apply ba_ext
  have e : List.take 4 (List.drop 8 (Nor.tornL Nor.blankL [15, 0, 255, 1] 8 32)) = [15, 0, 255, 1] := by
    rw [Nor.word_tornL _ _ _ _ (by rw [Nor.length_blankL]; omega), Nor.word_blankL _ (by omega)]
    decide +kernel
  rw [list_extract, Nor.wornS_ok okD, Nor.tornS_ok okA, mk_list, mk_list, wd_list, blank_list, n8, n32, n0, n9]
  rw [Nor.wornL_cut _ _ _ (by rw [Nor.length_tornL, Nor.length_blankL]; omega)]
  have hl : (Nor.tornL Nor.blankL [15, 0, 255, 1] 8 32).length = 768 := by rw [Nor.length_tornL, Nor.length_blankL]
  generalize Nor.tornL Nor.blankL [15, 0, 255, 1] 8 32 = T at *
  have e2 : List.drop 8 T = 15 :: List.drop 9 T := by
    rw [List.drop_eq_getElem_cons (by omega)] at e ⊢
    rw [List.take_succ_cons] at e
    injection e with e3 e4
    rw [e3]
  rw [e2, List.take_succ_cons] at e
  injection e with e3 e4
  show List.take 4 (List.drop 8 (List.replicate 9 255 ++ List.drop 9 T)) = _
  rw [List.drop_append_of_le_length (by rw [List.length_replicate]; omega), List.drop_replicate]
  show List.take 4 (255 :: List.drop 9 T) = _
  rw [List.take_succ_cons, e4]

set_option maxHeartbeats 1000000 in
theorem awake_any (w : World) : Calls Try.prog 22 #[] w fun e w' => e = .returned (.bool true) ∧ Below w.heap.size w w' := by
  have hB : Below w.heap.size w w := Below.refl _ _
  have hw : (⟨#[15, 0, 255, 1]⟩ : ByteArray) = wd := rfl
  have fP := fun w => program_any Nor.blankS 8 wd w
  have fT := fun w => torn_any Nor.blankS 8 wd 12 w
  have fE := fun w => erase_any (Nor.tornS Nor.blankS 8 wd 32) 0 w
  have fW := fun w => worn_any (Nor.tornS Nor.blankS 8 wd 32) 0 9 w
  have fJ := fun w => program_any Nor.blankS 6 ab w
  have fK := fun w => erase_any Nor.blankS 8 w
  have sz0 := Nor.size_blankS
  have szA := Nor.size_tornS okA
  have szB := Nor.size_tornS okB
  have szD := Nor.size_wornS okD
  have iA := isA
  have iB := isB
  have iD := isD
  rw [okA] at fP
  rw [okB] at fT
  rw [okC, isC] at fE
  rw [okD] at fW
  rw [okJ] at fJ
  rw [okK] at fK
  have m1 : mayB Nor.blankS = true := by unfold mayB; rw [Nor.size_blankS]; decide
  have m0 : mayB ⟨#[]⟩ = false := by unfold mayB; decide
  have FP := hide fP; have FT := hide fT; have FE := hide fE; have FW := hide fW; have FJ := hide fJ; have FK := hide fK
  clear fP fT fE fW fJ fK hw
  generalize Nor.wornS (Nor.tornS Nor.blankS 8 wd 32) 0 9 = D at *
  generalize Nor.tornS Nor.blankS 8 wd 32 = A at *
  generalize Nor.tornS Nor.blankS 8 wd 12 = B at *
  go_enter Try.func22, Try.ntmps22
  go_wp2_with (go_at_call 20; refine (blank_any _).mono ?_; rintro e w' ⟨rfl, hb⟩; replace hB := hB.trans (hb.mono hB.size); clear hb)
  refine (FP.out _).mono ?_; rintro e w' ⟨rfl, hb⟩; replace hB := hB.trans (hb.mono hB.size); clear hb
  go_wp2_with fail
  refine (FT.out _).mono ?_; rintro e w' ⟨rfl, hb⟩; replace hB := hB.trans (hb.mono hB.size); clear hb
  go_wp2_with fail
  refine (FE.out _).mono ?_; rintro e w' ⟨rfl, hb⟩; replace hB := hB.trans (hb.mono hB.size); clear hb
  go_wp2_with fail
  refine (FW.out _).mono ?_; rintro e w' ⟨rfl, hb⟩; replace hB := hB.trans (hb.mono hB.size); clear hb
  go_wp2_with fail
  refine (FJ.out _).mono ?_; rintro e w' ⟨rfl, hb⟩; replace hB := hB.trans (hb.mono hB.size); clear hb
  go_wp2_with fail
  refine (FK.out _).mono ?_; rintro e w' ⟨rfl, hb⟩; replace hB := hB.trans (hb.mono hB.size); clear hb
  have e0 : Nor.errN true = 0 := rfl
  have e2 : Nor.errN false = 200 := rfl
  go_wp2_with (first | (go_at_call 17; refine (num_any _ _).mono ?_; rintro e w' ⟨rfl, rfl⟩) | (go_at_call 18; refine (may_any _ _).mono ?_; rintro e w' ⟨rfl, rfl⟩))
  go_ret
  exact ⟨rfl, hB⟩
end Go.Proofs.Ytfneeijadhahlaa.NorAwake
