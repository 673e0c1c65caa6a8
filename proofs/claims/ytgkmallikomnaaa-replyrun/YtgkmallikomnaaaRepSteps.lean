/- A carrying without a fault: which texts come, one behind the other, and which host takes each. No program is named here. -/
import Derived.Test.YtgkmallikomnaaaRepRun
import Derived.Test.YtgkmallikomnaaaBagTxt
namespace Go.Proofs.Ytgkmallikomnaaa.RepRun
open Go.Proofs.Ytgkmallikomnaaa Go.Proofs.Ytgkmallikomnaaa.Bytes Go.Proofs.Ytgkmallikomnaaa.Hst Go.Proofs.Ytgkmallikomnaaa.Rep
open Go.Proofs.Ytgkmallikomnaaa.Blo (nP pieceS)
open Go.Proofs.Ytgkmallikomnaaa.Ans (isAns aSa)
open Go.Proofs.Ytgkmallikomnaaa.TxtRow (txC txC_append length_txC)
/-- The bytes that are read back as the q-th ones. -/
def backS (im : ByteArray) (q : Nat) : ByteArray := im.extract (min im.size (32 * q)) (min im.size (32 * q + 32))
/-- The text that comes then: I idle, Z busy, D ready for more. -/
def textAt (I Z D im : ByteArray) (i : Nat) : ByteArray := if i = 0 then I else if i < 1 + 3 * nP im then (if i % 3 = 1 then ⟨#[]⟩ else if i % 3 = 2 then Z else D) else if i = 1 + 3 * nP im then ⟨#[]⟩ else if i = 2 + 3 * nP im then I else backS im (i - (3 + 3 * nP im))
/-- The first n texts. -/
def rowOf (f : Nat → ByteArray) (n : Nat) : List ByteArray := (List.range n).map f
theorem length_rowOf (f : Nat → ByteArray) (n : Nat) : (rowOf f n).length = n := by simp [rowOf]
theorem rowOf_get (f : Nat → ByteArray) (n i : Nat) (h : i < (rowOf f n).length) : (rowOf f n)[i] = f i := by simp [rowOf]
theorem rowOf_succ (f : Nat → ByteArray) (n : Nat) : rowOf f (n + 1) = rowOf f n ++ [f n] := by simp [rowOf, List.range_succ]
theorem rowOf_1 {f : Nat → ByteArray} {n : Nat} {a : ByteArray} (ha : f n = a) : txC (rowOf f (n + 1)) = txC (rowOf f n) ++ txC [a] := by
  rw [rowOf_succ, txC_append, ha]
theorem rowOf_2 {f : Nat → ByteArray} {n : Nat} {a b : ByteArray} (ha : f n = a) (hb : f (n + 1) = b) : txC (rowOf f (n + 2)) = txC (rowOf f n) ++ txC [a, b] := by
  rw [show n + 2 = (n + 1) + 1 from rfl, rowOf_1 hb, rowOf_1 ha, List.append_assoc, ← txC_append]
  rfl
theorem rowOf_3 {f : Nat → ByteArray} {n : Nat} {a b c : ByteArray} (ha : f n = a) (hb : f (n + 1) = b) (hc : f (n + 2) = c) : txC (rowOf f (n + 3)) = txC (rowOf f n) ++ txC [a, b, c] := by
  rw [show n + 3 = (n + 2) + 1 from rfl, rowOf_1 hc, rowOf_2 ha hb, List.append_assoc, ← txC_append]
  rfl
section
variable {I Z D im : ByteArray}
theorem text_0 : textAt I Z D im 0 = I := rfl
theorem text_1 {j : Nat} (h : j < nP im) : textAt I Z D im (1 + 3 * j) = ⟨#[]⟩ := by
  unfold textAt
  rw [if_neg (by omega), if_pos (by omega), if_pos (by omega)]
theorem text_2 {j : Nat} (h : j < nP im) : textAt I Z D im (2 + 3 * j) = Z := by
  unfold textAt
  rw [if_neg (by omega), if_pos (by omega), if_neg (by omega), if_pos (by omega)]
theorem text_3 {j : Nat} (h : j < nP im) : textAt I Z D im (3 + 3 * j) = D := by
  unfold textAt
  rw [if_neg (by omega), if_pos (by omega), if_neg (by omega), if_neg (by omega)]
theorem text_4 : textAt I Z D im (1 + 3 * nP im) = ⟨#[]⟩ := by
  unfold textAt
  rw [if_neg (by omega), if_neg (by omega), if_pos rfl]
theorem text_5 : textAt I Z D im (2 + 3 * nP im) = I := by
  unfold textAt
  rw [if_neg (by omega), if_neg (by omega), if_neg (by omega), if_pos rfl]
theorem text_6 (q : Nat) : textAt I Z D im (3 + 3 * nP im + q) = backS im q := by
  unfold textAt
  rw [if_neg (by omega), if_neg (by omega), if_neg (by omega), if_neg (by omega), Nat.add_sub_cancel_left]
end
/-- How many texts come. -/
def manyT (im : ByteArray) : Nat := 4 + 3 * nP im + im.size / 32
def endH (im : ByteArray) : FHost := ⟨7, im, 0, false, 0, ⟨#[]⟩, 1⟩
/-- The host that takes the i-th text. -/
def Step (im : ByteArray) (i : Nat) (h : FHost) : Prop :=
  (i = 0 ∧ h = atH im 1 0 ⟨#[]⟩) ∨ (∃ j, j < nP im ∧ i = 1 + 3 * j ∧ h = atH im 2 j ⟨#[]⟩) ∨ (∃ j, j < nP im ∧ i = 2 + 3 * j ∧ h = atH im 3 j ⟨#[]⟩) ∨ (∃ j, j < nP im ∧ i = 3 + 3 * j ∧ h = atH im 3 j ⟨#[]⟩) ∨ (i = 1 + 3 * nP im ∧ h = atH im 4 (nP im) ⟨#[]⟩) ∨ (i = 2 + 3 * nP im ∧ h = atH im 5 (nP im) ⟨#[]⟩) ∨ (∃ q, q ≤ im.size / 32 ∧ i = 3 + 3 * nP im + q ∧ h = atH im 6 q (im.extract 0 (32 * q)))
theorem back_size {im : ByteArray} {q : Nat} (h : 32 * (q + 1) ≤ im.size) : (backS im q).size = 32 := by
  unfold backS
  rw [ByteArray.size_extract]
  omega
theorem back_last {im : ByteArray} {q : Nat} (h : q = im.size / 32) : (backS im q).size < 32 := by
  unfold backS
  rw [ByteArray.size_extract]
  omega
theorem back_join {im : ByteArray} {q : Nat} (h : 32 * q ≤ im.size) : im.extract 0 (32 * q) ++ backS im q = im.extract 0 (32 * (q + 1)) := by
  unfold backS
  rw [Nat.min_eq_right h]
  by_cases h2 : 32 * q + 32 ≤ im.size
  · rw [Nat.min_eq_right h2, ByteArray.extract_append_extract, Nat.min_eq_left (Nat.zero_le _), Nat.max_eq_right (by omega)]
    rfl
  · rw [Nat.min_eq_left (by omega), ByteArray.extract_append_extract, Nat.min_eq_left (Nat.zero_le _), Nat.max_eq_right (by omega)]
    apply ba_ext
    rw [ByteArray.data_extract, ByteArray.data_extract]
    simp only [Array.toList_extract, List.extract_eq_take_drop, List.drop_zero, Nat.sub_zero]
    have hl : im.data.toList.length = im.size := by rw [Array.length_toList]; rfl
    rw [List.take_of_length_le (by omega), List.take_of_length_le (by omega)]
theorem whole {im : ByteArray} {n : Nat} (h : im.size ≤ n) : im.extract 0 n = im := by
  apply ba_ext
  rw [ByteArray.data_extract]
  simp only [Array.toList_extract, List.extract_eq_take_drop, List.drop_zero, Nat.sub_zero]
  have hl : im.data.toList.length = im.size := by rw [Array.length_toList]; rfl
  exact List.take_of_length_le (by omega)
theorem step_next {I Z D im : ByteArray} (hi : 1 ≤ im.size ∧ im.size ≤ 288) (hI : isAns I = true ∧ aSa I = 0) (hZ : isAns Z = true ∧ aSa Z = 2) (hD : isAns D = true ∧ aSa D = 3) {i : Nat} {h : FHost} (hs : Step im i h) :
    ∃ X, takeH h false false (textAt I Z D im i) = X ∧ okH h = true ∧ h.tr = 0 ∧ ¬ h.ph = 7 ∧ i < manyT im ∧ ((i + 1 < manyT im ∧ Step im (i + 1) X) ∨ (i + 1 = manyT im ∧ X = endH im)) := by
  have hN : nP im = (im.size + 31) / 32 := rfl
  unfold manyT
  refine ⟨_, rfl, ?_⟩
  rcases hs with ⟨rfl, rfl⟩ | ⟨j, hj, rfl, rfl⟩ | ⟨j, hj, rfl, rfl⟩ | ⟨j, hj, rfl, rfl⟩ | ⟨rfl, rfl⟩ | ⟨rfl, rfl⟩ | ⟨q, hq, rfl, rfl⟩
  · have g := ok_at hi (p := 1) (by omega) (Nat.zero_le (nP im)) (rd := ⟨#[]⟩) (by decide)
    refine ⟨g, rfl, by show ¬ (1 : Int) = 7; decide, by omega, .inl ⟨by omega, ?_⟩⟩
    rw [text_0, go_idle g hI.1 hI.2]
    exact .inr (.inl ⟨0, by omega, rfl, rfl⟩)
  · have g := ok_at hi (p := 2) (by omega) (Nat.le_of_lt hj) (rd := ⟨#[]⟩) (by decide)
    refine ⟨g, rfl, by show ¬ (2 : Int) = 7; decide, by omega, .inl ⟨by omega, ?_⟩⟩
    rw [go_send g]
    exact .inr (.inr (.inl ⟨j, hj, by omega, rfl⟩))
  · have g := ok_at hi (p := 3) (by omega) (Nat.le_of_lt hj) (rd := ⟨#[]⟩) (by decide)
    refine ⟨g, rfl, by show ¬ (3 : Int) = 7; decide, by omega, .inl ⟨by omega, ?_⟩⟩
    rw [text_2 hj, go_busy g hZ.1 hZ.2]
    exact .inr (.inr (.inr (.inl ⟨j, hj, by omega, rfl⟩)))
  · have g := ok_at hi (p := 3) (by omega) (Nat.le_of_lt hj) (rd := ⟨#[]⟩) (by decide)
    refine ⟨g, rfl, by show ¬ (3 : Int) = 7; decide, by omega, .inl ⟨by omega, ?_⟩⟩
    rw [text_3 hj]
    by_cases h1 : j + 1 = nP im
    · rw [go_last g hD.1 hD.2 h1]
      exact .inr (.inr (.inr (.inr (.inl ⟨by omega, rfl⟩))))
    · rw [go_down g hD.1 hD.2 (by omega)]
      exact .inr (.inl ⟨j + 1, by omega, by omega, rfl⟩)
  · have g := ok_at hi (p := 4) (by omega) (Nat.le_refl (nP im)) (rd := ⟨#[]⟩) (by decide)
    refine ⟨g, rfl, by show ¬ (4 : Int) = 7; decide, by omega, .inl ⟨by omega, ?_⟩⟩
    rw [go_end g]
    exact .inr (.inr (.inr (.inr (.inr (.inl ⟨by omega, rfl⟩)))))
  · have g := ok_at hi (p := 5) (by omega) (Nat.le_refl (nP im)) (rd := ⟨#[]⟩) (by decide)
    refine ⟨g, rfl, by show ¬ (5 : Int) = 7; decide, by omega, .inl ⟨by omega, ?_⟩⟩
    rw [text_5, go_wait g hI.1 hI.2]
    refine .inr (.inr (.inr (.inr (.inr (.inr ⟨0, Nat.zero_le _, by omega, ?_⟩)))))
    rw [show im.extract 0 (32 * 0) = ⟨#[]⟩ from by apply ba_ext; rw [ByteArray.data_extract]; simp]
  · have hr : (im.extract 0 (32 * q)).size ≤ 320 := by rw [ByteArray.size_extract]; omega
    have g := ok_at hi (p := 6) (by omega) (show q ≤ nP im by omega) hr
    refine ⟨g, rfl, by show ¬ (6 : Int) = 7; decide, by omega, ?_⟩
    rw [text_6]
    by_cases h1 : q = im.size / 32
    · refine .inr ⟨by omega, ?_⟩
      exact go_good g (back_last h1) (by rw [back_join (by omega), whole (by omega)])
    · refine .inl ⟨by omega, ?_⟩
      have e := back_join (im := im) (q := q) (by omega)
      rw [go_read g (back_size (by omega)) (by rw [e, ByteArray.size_extract]; omega) (by omega), e]
      exact .inr (.inr (.inr (.inr (.inr (.inr ⟨q + 1, by omega, by omega, rfl⟩)))))
end Go.Proofs.Ytgkmallikomnaaa.RepRun
