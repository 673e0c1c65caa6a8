/- A blank flash with one image in it, whole and with one byte turned. No program is named here. -/
import Derived.Test.YtdilicfilmpfhaaImgTurn
namespace Go.Proofs.Ytdilicfilmpfhaa.Turn
open Go.Proofs.Ytdilicfilmpfhaa Go.Proofs.Ytdilicfilmpfhaa.Bytes Go.Proofs.Ytdilicfilmpfhaa.Ent Go.Proofs.Ytdilicfilmpfhaa.Ops Go.Proofs.Ytdilicfilmpfhaa.Jou Go.Proofs.Ytdilicfilmpfhaa.Act Go.Proofs.Ytdilicfilmpfhaa.Held

/-- A blank flash with the text s from place p on. -/
def fullS (s : ByteArray) (p : Nat) : ByteArray := Nor.blankS.extract 0 p ++ s ++ Nor.blankS.extract (p + s.size) Nor.blankS.size
theorem size_fullS (s : ByteArray) (p : Nat) (h : p + s.size ≤ 768) : (fullS s p).size = 768 := by
  unfold fullS
  have := Nor.size_blankS
  rw [ByteArray.size_append, ByteArray.size_append, ByteArray.size_extract, ByteArray.size_extract]
  omega
theorem mid_fullS (s : ByteArray) (p : Nat) (h : p + s.size ≤ 768) : (fullS s p).extract p (p + s.size) = s := by
  apply ba_ext
  have hb := Nor.size_blankS
  have hl : (Nor.blankS.data.toList.take p).length = p := by rw [List.length_take, Nor.size_list]; omega
  have hs : s.data.toList.length = s.size := Nor.size_list s
  rw [list_extract]
  unfold fullS
  rw [list_append, list_append, list_head, List.append_assoc, List.drop_append_of_le_length (by omega), List.drop_of_length_le (by omega), List.nil_append, show p + s.size - p = s.data.toList.length from by omega, List.take_left]
theorem full_cut (s : ByteArray) (t : Nat) (ht : t ≤ 1) (hs : s.size ≤ 288) : cutI (fullS s (192 + 288 * t)) (t : Int) (s.size : Int) = s := by
  unfold cutI
  rw [Int.toNat_natCast, Int.toNat_natCast]
  exact mid_fullS s _ (by omega)
def sumT (s : ByteArray) : Int := ((Crc.sum s.data.toList : Nat) : Int)
theorem sumT_lt (s : ByteArray) : 0 ≤ sumT s ∧ sumT s ≤ 4294967295 := by
  unfold sumT
  have := Crc.sum_lt s.data.toList
  omega
theorem full_ok (s : ByteArray) (t : Nat) (ht : t ≤ 1) (h1 : 1 ≤ s.size) (hs : s.size ≤ 288) : imgOk (fullS s (192 + 288 * t)) 1 (t : Int) (s.size : Int) (sumT s) = true := by
  have := sumT_lt s
  exact imgOk_parts.2 ⟨size_fullS s _ (by omega), recMay_parts.2 ⟨by omega, by omega, by omega, by omega, by omega, by omega, this.1, this.2⟩⟩
theorem full_good (s : ByteArray) (t : Nat) (ht : t ≤ 1) (h1 : 1 ≤ s.size) (hs : s.size ≤ 288) : goodB (fullS s (192 + 288 * t)) 1 (t : Int) (s.size : Int) (sumT s) = true := by
  unfold goodB sumI
  rw [full_ok s t ht h1 hs, full_cut s t ht hs]
  exact decide_eq_true rfl
theorem full_turned (s : ByteArray) (t k : Nat) (c : UInt8) (hc : ¬ c = 0) (ht : t ≤ 1) (h1 : 1 ≤ s.size) (hs : s.size ≤ 288) (hk : k < 288) : goodB (turnS (fullS s (192 + 288 * t)) (192 + 288 * t + k) c) 1 (t : Int) (s.size : Int) (sumT s) = decide (s.size ≤ k) := by
  have hg := full_good s t ht h1 hs
  have hz := size_fullS s (192 + 288 * t) (by omega)
  unfold goodB at hg ⊢
  rw [imgOk_turn]
  rw [full_ok s t ht h1 hs, Bool.true_and] at hg ⊢
  have hg := of_decide_eq_true hg
  by_cases h : s.size ≤ k
  · rw [decide_eq_true h]
    refine decide_eq_true ?_
    rw [← hg]
    unfold sumI
    rw [cut_out _ _ _ _ _ (.inr (by rw [Int.toNat_natCast, Int.toNat_natCast]; omega))]
  · rw [decide_eq_false h]
    refine decide_eq_false ?_
    rw [← hg]
    exact sum_in _ _ c hc _ _ (by rw [Int.toNat_natCast]; omega) (by rw [Int.toNat_natCast, Int.toNat_natCast]; omega) (by rw [Int.toNat_natCast, Int.toNat_natCast]; omega)
end Go.Proofs.Ytdilicfilmpfhaa.Turn
