/- A host: may it be, what it begins with, what it asks. No program is named here. -/
import Derived.Test.YthegdhogpjhidaaBagTxt
import Derived.Test.YthegdhogpjhidaaBagSuf
import Derived.Test.YthegdhogpjhidaaBagSet
namespace Go.Proofs.Ythegdhogpjhidaa.Hst
open Go.Proofs.Ythegdhogpjhidaa Go.Proofs.Ythegdhogpjhidaa.Bytes Go.Proofs.Ythegdhogpjhidaa.Suf Go.Proofs.Ythegdhogpjhidaa.Idt
open Go.Proofs.Ythegdhogpjhidaa.Blo (nP pieceS piecesTo splitL splitOk)
open Go.Proofs.Ythegdhogpjhidaa.Sup (supB supS supB_parts)

def hostB (ph : Int) (im : ByteArray) (bl tr : Int) (rd : ByteArray) (rp : Int) : Bool := decide (0 ≤ ph ∧ ph ≤ 7 ∧ 0 ≤ rp ∧ rp ≤ 3 ∧ im.size ≤ 288 ∧ (1 ≤ im.size ∨ ph = 0 ∨ ph = 7) ∧ 0 ≤ bl ∧ bl ≤ (nP im : Int) ∧ 0 ≤ tr ∧ tr ≤ 8 ∧ rd.size ≤ 320)
theorem host_parts {ph : Int} {im : ByteArray} {bl tr : Int} {rd : ByteArray} {rp : Int} : hostB ph im bl tr rd rp = true ↔ 0 ≤ ph ∧ ph ≤ 7 ∧ 0 ≤ rp ∧ rp ≤ 3 ∧ im.size ≤ 288 ∧ (1 ≤ im.size ∨ ph = 0 ∨ ph = 7) ∧ 0 ≤ bl ∧ bl ≤ (nP im : Int) ∧ 0 ≤ tr ∧ tr ≤ 8 ∧ rd.size ≤ 320 := by unfold hostB; exact decide_eq_true_iff
theorem host_no {ph : Int} {im : ByteArray} {bl tr : Int} {rd : ByteArray} {rp : Int} (h : ¬ (0 ≤ ph ∧ ph ≤ 7 ∧ 0 ≤ rp ∧ rp ≤ 3 ∧ im.size ≤ 288 ∧ (1 ≤ im.size ∨ ph = 0 ∨ ph = 7) ∧ 0 ≤ bl ∧ bl ≤ (nP im : Int) ∧ 0 ≤ tr ∧ tr ≤ 8 ∧ rd.size ≤ 320)) : hostB ph im bl tr rd rp = false := by unfold hostB; exact decide_eq_false h
def errH (ok : Bool) : Int := if ok then 0 else 2200
theorem errH_t {ok : Bool} (h : ok = true) : errH ok = 0 := by rw [h]; rfl
theorem errH_f {ok : Bool} (h : ok = false) : errH ok = 2200 := by rw [h]; rfl

/-- Is the text a file, and for these? -/
def toB (f : ByteArray) (v p r : Int) : Bool := parB f && mtB (parV f) (parP f) (parR f) v p r
def toS (f : ByteArray) (v p r : Int) : ByteArray := if toB f v p r then parI f else ⟨#[]⟩
theorem to_parts {f : ByteArray} {v p r : Int} : toB f v p r = true ↔ parB f = true ∧ mtB (parV f) (parP f) (parR f) v p r = true := by unfold toB; rw [Bool.and_eq_true]
theorem toS_t {f : ByteArray} {v p r : Int} (h : toB f v p r = true) : toS f v p r = parI f := by unfold toS; rw [h]; rfl
theorem toS_f {f : ByteArray} {v p r : Int} (h : toB f v p r = false) : toS f v p r = ⟨#[]⟩ := by unfold toS; rw [h]; rfl
theorem to_no1 {f : ByteArray} {v p r : Int} (h : parB f = false) : toB f v p r = false := by unfold toB; rw [h]; rfl
theorem to_no2 {f : ByteArray} {v p r : Int} (h : mtB (parV f) (parP f) (parR f) v p r = false) : toB f v p r = false := by unfold toB; rw [h]; exact Bool.and_false _
theorem mtB_ok2 {v p r v' p' r' : Int} (h : mtB v p r v' p' r' = true) : mtOk v p r v' p' r' = true := by unfold mtB at h; rw [Bool.and_eq_true] at h; exact h.1
/-- The phase, the image, the report that a host begins with. -/
def stP (f : ByteArray) (v p r : Int) : Int := if idsB v p r then (if toB f v p r then 1 else 7) else 0
def stI (f : ByteArray) (v p r : Int) : ByteArray := if idsB v p r then toS f v p r else ⟨#[]⟩
def stR (f : ByteArray) (v p r : Int) : Int := if idsB v p r then (if toB f v p r then 0 else 3) else 0
theorem st_no {f : ByteArray} {v p r : Int} (h : idsB v p r = false) : stP f v p r = 0 ∧ stI f v p r = ⟨#[]⟩ ∧ stR f v p r = 0 := by unfold stP stI stR; rw [h]; exact ⟨rfl, rfl, rfl⟩
theorem st_not {f : ByteArray} {v p r : Int} (h : idsB v p r = true) (g : toB f v p r = false) : stP f v p r = 7 ∧ stI f v p r = ⟨#[]⟩ ∧ stR f v p r = 3 := by unfold stP stI stR toS; rw [h, g]; exact ⟨rfl, rfl, rfl⟩
theorem st_is {f : ByteArray} {v p r : Int} (h : idsB v p r = true) (g : toB f v p r = true) : stP f v p r = 1 ∧ stI f v p r = parI f ∧ stR f v p r = 0 := by unfold stP stI stR toS; rw [h, g]; exact ⟨rfl, rfl, rfl⟩
theorem st_ways (f : ByteArray) (v p r : Int) : (idsB v p r = false ∧ stP f v p r = 0 ∧ stI f v p r = ⟨#[]⟩ ∧ stR f v p r = 0 ∧ errH (idsB v p r) = 2200) ∨ (idsB v p r = true ∧ toB f v p r = false ∧ stP f v p r = 7 ∧ stI f v p r = ⟨#[]⟩ ∧ stR f v p r = 3 ∧ errH (idsB v p r) = 0) ∨ (idsB v p r = true ∧ toB f v p r = true ∧ stP f v p r = 1 ∧ stI f v p r = parI f ∧ stR f v p r = 0 ∧ errH (idsB v p r) = 0) := by
  cases h : idsB v p r with
  | false => exact .inl ⟨rfl, (st_no h).1, (st_no h).2.1, (st_no h).2.2, rfl⟩
  | true => cases g : toB f v p r with
    | false => exact .inr (.inl ⟨rfl, rfl, (st_not h g).1, (st_not h g).2.1, (st_not h g).2.2, rfl⟩)
    | true => exact .inr (.inr ⟨rfl, rfl, (st_is h g).1, (st_is h g).2.1, (st_is h g).2.2, rfl⟩)

theorem len_split {s : ByteArray} (h : s.size ≤ 288) : (splitL s).length = nP s := by
  cases g : splitOk s with
  | true => rw [Blo.splitL_ok g, Blo.length_piecesTo]
  | false =>
    rw [Blo.splitL_no g]
    have := of_decide_eq_false g
    unfold nP
    show 0 = _
    omega
theorem get_split {s : ByteArray} {j : Nat} (h : j < (splitL s).length) : (splitL s)[j] = pieceS s j := by
  cases g : splitOk s with
  | true =>
    have e := Blo.splitL_ok g
    have : ∀ (l : List ByteArray) (h : j < l.length), l = piecesTo s (nP s) → l[j] = pieceS s j := by
      rintro l h rfl
      exact Blo.get_piecesTo s _ j h
    exact this _ h e
  | false => rw [Blo.splitL_no g] at h; exact absurd h (Nat.not_lt_zero _)
theorem nP_le {s : ByteArray} (h : s.size ≤ 288) : nP s ≤ 9 := by unfold nP; omega
theorem nP_iff {s : ByteArray} {j : Nat} : j < nP s ↔ 32 * j < s.size := by unfold nP; omega
/-- Behind the last one there is no piece. -/
theorem piece_end (s : ByteArray) : pieceS s (nP s) = ⟨#[]⟩ := by
  apply ba_ext
  apply List.eq_nil_of_length_eq_zero
  have := Blo.size_piece s (nP s)
  have e : (pieceS s (nP s)).data.toList.length = (pieceS s (nP s)).size := rfl
  rw [e, this]
  unfold nP
  omega
theorem size_piece_le (s : ByteArray) (j : Nat) : (pieceS s j).size ≤ 32 := by rw [Blo.size_piece]; omega
/-- As the document cuts it. -/
theorem piece_cut (s : ByteArray) (j a b : Nat) (ha : a = min s.size (32 * j)) (hb : b = min s.size (32 * j + 32)) : s.extract a b = pieceS s j := by
  apply ba_ext
  unfold pieceS
  rw [list_extract, list_extract]
  subst ha hb
  by_cases h : 32 * j ≤ s.size
  · rw [Nat.min_eq_right h, Nat.min_comm]
  · have hl : s.data.toList.length = s.size := rfl
    rw [List.drop_eq_nil_of_le (by omega), List.drop_eq_nil_of_le (by omega), List.take_nil, List.take_nil]

/-- Has it nothing to do? -/
def restB (ph : Int) : Bool := decide (ph = 0 ∨ ph = 7)
def askB (ph : Int) (im : ByteArray) (bl tr : Int) (rd : ByteArray) (rp : Int) : Bool := hostB ph im bl tr rd rp && !restB ph
theorem ask_parts {ph : Int} {im : ByteArray} {bl tr : Int} {rd : ByteArray} {rp : Int} : askB ph im bl tr rd rp = true ↔ hostB ph im bl tr rd rp = true ∧ ¬ ph = 0 ∧ ¬ ph = 7 := by
  unfold askB restB
  rw [Bool.and_eq_true, Bool.not_eq_true', decide_eq_false_iff_not]
  simp only [not_or]
/-- What is asked: the code, the value, the length; what goes with it. -/
def reqC (ph bl : Int) (ag : Bool) : Int := if ph = 1 then (if ag then (if bl = 0 then 4 else 6) else 3) else if ph = 2 ∨ ph = 4 then 1 else if ph = 6 then 2 else 3
def reqV (ph bl : Int) : Int := if ph = 2 ∨ ph = 4 ∨ ph = 6 then bl else 0
def reqN (ph : Int) (im : ByteArray) (bl : Int) (ag : Bool) : Int := if ph = 1 then (if ag then 0 else 6) else if ph = 2 then ((pieceS im bl.toNat).size : Int) else if ph = 4 then 0 else if ph = 6 then 32 else 6
def reqD (ph : Int) (im : ByteArray) (bl : Int) : ByteArray := if ph = 2 then pieceS im bl.toNat else ⟨#[]⟩
def askS (ph : Int) (im : ByteArray) (bl : Int) (ag : Bool) (tr : Int) (rd : ByteArray) (rp : Int) : ByteArray := if askB ph im bl tr rd rp then supS (reqC ph bl ag) (reqV ph bl) (reqN ph im bl ag) else ⟨#[]⟩
def askD (ph : Int) (im : ByteArray) (bl tr : Int) (rd : ByteArray) (rp : Int) : ByteArray := if askB ph im bl tr rd rp then reqD ph im bl else ⟨#[]⟩
theorem ask_no {ph : Int} {im : ByteArray} {bl : Int} (ag : Bool) {tr : Int} {rd : ByteArray} {rp : Int} (h : askB ph im bl tr rd rp = false) : askS ph im bl ag tr rd rp = ⟨#[]⟩ ∧ askD ph im bl tr rd rp = ⟨#[]⟩ := by unfold askS askD; rw [h]; exact ⟨rfl, rfl⟩
theorem ask_yes {ph : Int} {im : ByteArray} {bl : Int} (ag : Bool) {tr : Int} {rd : ByteArray} {rp : Int} (h : askB ph im bl tr rd rp = true) : askS ph im bl ag tr rd rp = supS (reqC ph bl ag) (reqV ph bl) (reqN ph im bl ag) ∧ askD ph im bl tr rd rp = reqD ph im bl := by unfold askS askD; rw [h]; exact ⟨rfl, rfl⟩
theorem ask_few {ph : Int} {im : ByteArray} {bl : Int} (ag : Bool) {tr : Int} {rd : ByteArray} {rp : Int} (h : askB ph im bl tr rd rp = true) : supB (reqC ph bl ag) (reqV ph bl) (reqN ph im bl ag) = true := by
  obtain ⟨h1, -, -⟩ := ask_parts.1 h
  obtain ⟨_, _, _, _, g1, _, g2, g3, _⟩ := host_parts.1 h1
  have := nP_le g1
  have := size_piece_le im bl.toNat
  rw [supB_parts]
  refine ⟨?_, ?_, ?_, ?_, ?_, ?_⟩
  · unfold reqC; split <;> (try split) <;> (try split) <;> (try split) <;> decide
  · unfold reqC; split <;> (try split) <;> (try split) <;> (try split) <;> decide
  · unfold reqV; split <;> omega
  · unfold reqV; split <;> omega
  · unfold reqN; split <;> (try split) <;> (try split) <;> (try split) <;> omega
  · unfold reqN; split <;> (try split) <;> (try split) <;> (try split) <;> omega
/-- The ways of a host that asks: its phase, and what is asked. -/
theorem ask_ways {ph : Int} {im : ByteArray} {bl : Int} (ag : Bool) {tr : Int} {rd : ByteArray} {rp : Int} (h : askB ph im bl tr rd rp = true) : ∃ j : Nat, bl = (j : Int) ∧ j ≤ nP im ∧ j ≤ 9 ∧ 1 ≤ im.size ∧ im.size ≤ 288 ∧
    ((ph = 1 ∧ ag = false ∧ askS ph im bl ag tr rd rp = supS 3 0 6 ∧ askD ph im bl tr rd rp = ⟨#[]⟩) ∨
    (ph = 1 ∧ ag = true ∧ j = 0 ∧ askS ph im bl ag tr rd rp = supS 4 0 0 ∧ askD ph im bl tr rd rp = ⟨#[]⟩) ∨
    (ph = 1 ∧ ag = true ∧ ¬ j = 0 ∧ askS ph im bl ag tr rd rp = supS 6 0 0 ∧ askD ph im bl tr rd rp = ⟨#[]⟩) ∨
    (ph = 2 ∧ askS ph im bl ag tr rd rp = supS 1 j (pieceS im j).size ∧ askD ph im bl tr rd rp = pieceS im j) ∨
    ((ph = 3 ∨ ph = 5) ∧ askS ph im bl ag tr rd rp = supS 3 0 6 ∧ askD ph im bl tr rd rp = ⟨#[]⟩) ∨
    (ph = 4 ∧ askS ph im bl ag tr rd rp = supS 1 j 0 ∧ askD ph im bl tr rd rp = ⟨#[]⟩) ∨
    (ph = 6 ∧ askS ph im bl ag tr rd rp = supS 2 j 32 ∧ askD ph im bl tr rd rp = ⟨#[]⟩)) := by
  obtain ⟨e1, e2⟩ := ask_yes ag h
  obtain ⟨h1, n0, n7⟩ := ask_parts.1 h
  obtain ⟨p0, p7, _, _, g1, g0, g2, g3, _⟩ := host_parts.1 h1
  obtain ⟨j, rfl⟩ : ∃ j : Nat, bl = (j : Int) := ⟨bl.toNat, by omega⟩
  have := nP_le g1
  rw [e1, e2]
  refine ⟨j, rfl, by omega, by omega, by omega, g1, ?_⟩
  have hj : ((j : Int)).toNat = j := Int.toNat_natCast j
  obtain rfl | rfl | rfl | rfl | rfl | rfl : ph = 1 ∨ ph = 2 ∨ ph = 3 ∨ ph = 4 ∨ ph = 5 ∨ ph = 6 := by omega
  · cases ag with
    | false => exact .inl ⟨rfl, rfl, rfl, rfl⟩
    | true =>
      by_cases h0 : j = 0
      · subst h0
        exact .inr (.inl ⟨rfl, rfl, rfl, rfl, rfl⟩)
      · have h00 : ¬ (j : Int) = 0 := by omega
        refine .inr (.inr (.inl ⟨rfl, rfl, h0, ?_, rfl⟩))
        show supS (if (j : Int) = 0 then 4 else 6) 0 0 = _
        rw [if_neg h00]
  · refine .inr (.inr (.inr (.inl ⟨rfl, ?_, ?_⟩)))
    · show supS 1 j ((pieceS im ((j : Int)).toNat).size : Int) = _
      rw [hj]
    · show pieceS im ((j : Int)).toNat = _
      rw [hj]
  · exact .inr (.inr (.inr (.inr (.inl ⟨.inl rfl, rfl, rfl⟩))))
  · exact .inr (.inr (.inr (.inr (.inr (.inl ⟨rfl, rfl, rfl⟩)))))
  · exact .inr (.inr (.inr (.inr (.inl ⟨.inr rfl, rfl, rfl⟩))))
  · exact .inr (.inr (.inr (.inr (.inr (.inr ⟨rfl, rfl, rfl⟩)))))
end Go.Proofs.Ythegdhogpjhidaa.Hst
