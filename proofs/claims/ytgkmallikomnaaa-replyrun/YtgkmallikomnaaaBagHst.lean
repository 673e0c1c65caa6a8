/- A host: may it be, what it begins with, what it asks. No program is named here. -/
import Derived.Test.YtgkmallikomnaaaBagTxt
import Derived.Test.YtgkmallikomnaaaBagSuf
import Derived.Test.YtgkmallikomnaaaBagSet
import Derived.Test.YtgkmallikomnaaaBagNor
import Derived.Test.YtgkmallikomnaaaBagOps
import Derived.Deep.RegionHeld3
import Derived.Deep.Cut
namespace Go.Proofs.Ytgkmallikomnaaa.Hst
open Go.Proofs.Ytgkmallikomnaaa Go.Proofs.Ytgkmallikomnaaa.Bytes Go.Proofs.Ytgkmallikomnaaa.Suf Go.Proofs.Ytgkmallikomnaaa.Idt
open Go.Proofs.Ytgkmallikomnaaa.Blo (nP pieceS piecesTo splitL splitOk)
open Go.Proofs.Ytgkmallikomnaaa.Sup (supB supS supB_parts)

def hostB (ph : Int) (im : ByteArray) (bl tr : Int) (rd : ByteArray) (rp : Int) : Bool := decide (0 ≤ ph ∧ ph ≤ 7 ∧ 0 ≤ rp ∧ rp ≤ 3 ∧ im.size ≤ 288 ∧ (1 ≤ im.size ∨ ph = 0 ∨ ph = 7) ∧ 0 ≤ bl ∧ bl ≤ (nP im : Int) ∧ 0 ≤ tr ∧ tr ≤ 8 ∧ rd.size ≤ 320)
theorem host_parts {ph : Int} {im : ByteArray} {bl tr : Int} {rd : ByteArray} {rp : Int} : hostB ph im bl tr rd rp = true ↔ 0 ≤ ph ∧ ph ≤ 7 ∧ 0 ≤ rp ∧ rp ≤ 3 ∧ im.size ≤ 288 ∧ (1 ≤ im.size ∨ ph = 0 ∨ ph = 7) ∧ 0 ≤ bl ∧ bl ≤ (nP im : Int) ∧ 0 ≤ tr ∧ tr ≤ 8 ∧ rd.size ≤ 320 := by unfold hostB; exact decide_eq_true_iff
theorem host_no {ph : Int} {im : ByteArray} {bl tr : Int} {rd : ByteArray} {rp : Int} (h : ¬ (0 ≤ ph ∧ ph ≤ 7 ∧ 0 ≤ rp ∧ rp ≤ 3 ∧ im.size ≤ 288 ∧ (1 ≤ im.size ∨ ph = 0 ∨ ph = 7) ∧ 0 ≤ bl ∧ bl ≤ (nP im : Int) ∧ 0 ≤ tr ∧ tr ≤ 8 ∧ rd.size ≤ 320)) : hostB ph im bl tr rd rp = false := by unfold hostB; exact decide_eq_false h
def errH (ok : Bool) : Int := if ok then 0 else 2200
theorem errH_t {ok : Bool} (h : ok = true) : errH ok = 0 := by rw [h]; rfl
theorem errH_f {ok : Bool} (h : ok = false) : errH ok = 2200 := by rw [h]; rfl

/-- Is the text a file, and for these? -/
def toB (f : ByteArray) (v p r : Int) : Bool := parB f && mtB (parV f) (parP f) (parR f) v p r
def toS (f : ByteArray) (v p r : Int) : ByteArray := if toB f v p r then parI f else ⟨#[]⟩
theorem to_parts {f : ByteArray} {v p r : Int} : toB f v p r = true ↔ parB f = true ∧ mtB (parV f) (parP f) (parR f) v p r = true := by unfold toB; rw [Bool.and_eq_true]
theorem toS_t {f : ByteArray} {v p r : Int} (h : toB f v p r = true) : toS f v p r = parI f := by unfold toS; rw [h]; rfl
theorem toS_f {f : ByteArray} {v p r : Int} (h : toB f v p r = false) : toS f v p r = ⟨#[]⟩ := by unfold toS; rw [h]; rfl
theorem to_no1 {f : ByteArray} {v p r : Int} (h : parB f = false) : toB f v p r = false := by unfold toB; rw [h]; rfl
theorem to_no2 {f : ByteArray} {v p r : Int} (h : mtB (parV f) (parP f) (parR f) v p r = false) : toB f v p r = false := by unfold toB; rw [h]; exact Bool.and_false _
theorem mtB_ok2 {v p r v' p' r' : Int} (h : mtB v p r v' p' r' = true) : mtOk v p r v' p' r' = true := by unfold mtB at h; rw [Bool.and_eq_true] at h; exact h.1
/-- The phase, the image, the report that a host begins with. -/
def stP (f : ByteArray) (v p r : Int) : Int := if idsB v p r then (if toB f v p r then 1 else 7) else 0
def stI (f : ByteArray) (v p r : Int) : ByteArray := if idsB v p r then toS f v p r else ⟨#[]⟩
def stR (f : ByteArray) (v p r : Int) : Int := if idsB v p r then (if toB f v p r then 0 else 3) else 0
theorem st_no {f : ByteArray} {v p r : Int} (h : idsB v p r = false) : stP f v p r = 0 ∧ stI f v p r = ⟨#[]⟩ ∧ stR f v p r = 0 := by unfold stP stI stR; rw [h]; exact ⟨rfl, rfl, rfl⟩
theorem st_not {f : ByteArray} {v p r : Int} (h : idsB v p r = true) (g : toB f v p r = false) : stP f v p r = 7 ∧ stI f v p r = ⟨#[]⟩ ∧ stR f v p r = 3 := by unfold stP stI stR toS; rw [h, g]; exact ⟨rfl, rfl, rfl⟩
theorem st_is {f : ByteArray} {v p r : Int} (h : idsB v p r = true) (g : toB f v p r = true) : stP f v p r = 1 ∧ stI f v p r = parI f ∧ stR f v p r = 0 := by unfold stP stI stR toS; rw [h, g]; exact ⟨rfl, rfl, rfl⟩
theorem st_ways (f : ByteArray) (v p r : Int) : (idsB v p r = false ∧ stP f v p r = 0 ∧ stI f v p r = ⟨#[]⟩ ∧ stR f v p r = 0 ∧ errH (idsB v p r) = 2200) ∨ (idsB v p r = true ∧ toB f v p r = false ∧ stP f v p r = 7 ∧ stI f v p r = ⟨#[]⟩ ∧ stR f v p r = 3 ∧ errH (idsB v p r) = 0) ∨ (idsB v p r = true ∧ toB f v p r = true ∧ stP f v p r = 1 ∧ stI f v p r = parI f ∧ stR f v p r = 0 ∧ errH (idsB v p r) = 0) := by
  cases h : idsB v p r with
  | false => exact .inl ⟨rfl, (st_no h).1, (st_no h).2.1, (st_no h).2.2, rfl⟩
  | true => cases g : toB f v p r with
    | false => exact .inr (.inl ⟨rfl, rfl, (st_not h g).1, (st_not h g).2.1, (st_not h g).2.2, rfl⟩)
    | true => exact .inr (.inr ⟨rfl, rfl, (st_is h g).1, (st_is h g).2.1, (st_is h g).2.2, rfl⟩)

theorem len_split {s : ByteArray} (h : s.size ≤ 288) : (splitL s).length = nP s := by
  cases g : splitOk s with
  | true => rw [Blo.splitL_ok g, Blo.length_piecesTo]
  | false =>
    rw [Blo.splitL_no g]
    have := of_decide_eq_false g
    unfold nP
    show 0 = _
    omega
theorem get_split {s : ByteArray} {j : Nat} (h : j < (splitL s).length) : (splitL s)[j] = pieceS s j := by
  cases g : splitOk s with
  | true =>
    have e := Blo.splitL_ok g
    have : ∀ (l : List ByteArray) (h : j < l.length), l = piecesTo s (nP s) → l[j] = pieceS s j := by
      rintro l h rfl
      exact Blo.get_piecesTo s _ j h
    exact this _ h e
  | false => rw [Blo.splitL_no g] at h; exact absurd h (Nat.not_lt_zero _)
theorem nP_le {s : ByteArray} (h : s.size ≤ 288) : nP s ≤ 9 := by unfold nP; omega
theorem nP_iff {s : ByteArray} {j : Nat} : j < nP s ↔ 32 * j < s.size := by unfold nP; omega
/-- Behind the last one there is no piece. -/
theorem piece_end (s : ByteArray) : pieceS s (nP s) = ⟨#[]⟩ := by
  apply ba_ext
  apply List.eq_nil_of_length_eq_zero
  have := Blo.size_piece s (nP s)
  have e : (pieceS s (nP s)).data.toList.length = (pieceS s (nP s)).size := rfl
  rw [e, this]
  unfold nP
  omega
theorem size_piece_le (s : ByteArray) (j : Nat) : (pieceS s j).size ≤ 32 := by rw [Blo.size_piece]; omega
/-- As the document cuts it. -/
theorem piece_cut (s : ByteArray) (j a b : Nat) (ha : a = min s.size (32 * j)) (hb : b = min s.size (32 * j + 32)) : s.extract a b = pieceS s j := by
  apply ba_ext
  unfold pieceS
  rw [list_extract, list_extract]
  subst ha hb
  by_cases h : 32 * j ≤ s.size
  · rw [Nat.min_eq_right h, Nat.min_comm]
  · have hl : s.data.toList.length = s.size := rfl
    rw [List.drop_eq_nil_of_le (by omega), List.drop_eq_nil_of_le (by omega), List.take_nil, List.take_nil]

/-- Has it nothing to do? -/
def restB (ph : Int) : Bool := decide (ph = 0 ∨ ph = 7)
def askB (ph : Int) (im : ByteArray) (bl tr : Int) (rd : ByteArray) (rp : Int) : Bool := hostB ph im bl tr rd rp && !restB ph
theorem ask_parts {ph : Int} {im : ByteArray} {bl tr : Int} {rd : ByteArray} {rp : Int} : askB ph im bl tr rd rp = true ↔ hostB ph im bl tr rd rp = true ∧ ¬ ph = 0 ∧ ¬ ph = 7 := by
  unfold askB restB
  rw [Bool.and_eq_true, Bool.not_eq_true', decide_eq_false_iff_not]
  simp only [not_or]
/-- What is asked: the code, the value, the length; what goes with it. -/
def reqC (ph bl : Int) (ag : Bool) : Int := if ph = 1 then (if ag then (if bl = 0 then 4 else 6) else 3) else if ph = 2 ∨ ph = 4 then 1 else if ph = 6 then 2 else 3
def reqV (ph bl : Int) : Int := if ph = 2 ∨ ph = 4 ∨ ph = 6 then bl else 0
def reqN (ph : Int) (im : ByteArray) (bl : Int) (ag : Bool) : Int := if ph = 1 then (if ag then 0 else 6) else if ph = 2 then ((pieceS im bl.toNat).size : Int) else if ph = 4 then 0 else if ph = 6 then 32 else 6
def reqD (ph : Int) (im : ByteArray) (bl : Int) : ByteArray := if ph = 2 then pieceS im bl.toNat else ⟨#[]⟩
def askS (ph : Int) (im : ByteArray) (bl : Int) (ag : Bool) (tr : Int) (rd : ByteArray) (rp : Int) : ByteArray := if askB ph im bl tr rd rp then supS (reqC ph bl ag) (reqV ph bl) (reqN ph im bl ag) else ⟨#[]⟩
def askD (ph : Int) (im : ByteArray) (bl tr : Int) (rd : ByteArray) (rp : Int) : ByteArray := if askB ph im bl tr rd rp then reqD ph im bl else ⟨#[]⟩
theorem ask_no {ph : Int} {im : ByteArray} {bl : Int} (ag : Bool) {tr : Int} {rd : ByteArray} {rp : Int} (h : askB ph im bl tr rd rp = false) : askS ph im bl ag tr rd rp = ⟨#[]⟩ ∧ askD ph im bl tr rd rp = ⟨#[]⟩ := by unfold askS askD; rw [h]; exact ⟨rfl, rfl⟩
theorem ask_yes {ph : Int} {im : ByteArray} {bl : Int} (ag : Bool) {tr : Int} {rd : ByteArray} {rp : Int} (h : askB ph im bl tr rd rp = true) : askS ph im bl ag tr rd rp = supS (reqC ph bl ag) (reqV ph bl) (reqN ph im bl ag) ∧ askD ph im bl tr rd rp = reqD ph im bl := by unfold askS askD; rw [h]; exact ⟨rfl, rfl⟩
theorem ask_few {ph : Int} {im : ByteArray} {bl : Int} (ag : Bool) {tr : Int} {rd : ByteArray} {rp : Int} (h : askB ph im bl tr rd rp = true) : supB (reqC ph bl ag) (reqV ph bl) (reqN ph im bl ag) = true := by
  obtain ⟨h1, -, -⟩ := ask_parts.1 h
  obtain ⟨_, _, _, _, g1, _, g2, g3, _⟩ := host_parts.1 h1
  have := nP_le g1
  have := size_piece_le im bl.toNat
  rw [supB_parts]
  refine ⟨?_, ?_, ?_, ?_, ?_, ?_⟩
  · unfold reqC; split <;> (try split) <;> (try split) <;> (try split) <;> decide
  · unfold reqC; split <;> (try split) <;> (try split) <;> (try split) <;> decide
  · unfold reqV; split <;> omega
  · unfold reqV; split <;> omega
  · unfold reqN; split <;> (try split) <;> (try split) <;> (try split) <;> omega
  · unfold reqN; split <;> (try split) <;> (try split) <;> (try split) <;> omega
/-- The ways of a host that asks: its phase, and what is asked. -/
theorem ask_ways {ph : Int} {im : ByteArray} {bl : Int} (ag : Bool) {tr : Int} {rd : ByteArray} {rp : Int} (h : askB ph im bl tr rd rp = true) : ∃ j : Nat, bl = (j : Int) ∧ j ≤ nP im ∧ j ≤ 9 ∧ 1 ≤ im.size ∧ im.size ≤ 288 ∧
    ((ph = 1 ∧ ag = false ∧ askS ph im bl ag tr rd rp = supS 3 0 6 ∧ askD ph im bl tr rd rp = ⟨#[]⟩) ∨
    (ph = 1 ∧ ag = true ∧ j = 0 ∧ askS ph im bl ag tr rd rp = supS 4 0 0 ∧ askD ph im bl tr rd rp = ⟨#[]⟩) ∨
    (ph = 1 ∧ ag = true ∧ ¬ j = 0 ∧ askS ph im bl ag tr rd rp = supS 6 0 0 ∧ askD ph im bl tr rd rp = ⟨#[]⟩) ∨
    (ph = 2 ∧ askS ph im bl ag tr rd rp = supS 1 j (pieceS im j).size ∧ askD ph im bl tr rd rp = pieceS im j) ∨
    ((ph = 3 ∨ ph = 5) ∧ askS ph im bl ag tr rd rp = supS 3 0 6 ∧ askD ph im bl tr rd rp = ⟨#[]⟩) ∨
    (ph = 4 ∧ askS ph im bl ag tr rd rp = supS 1 j 0 ∧ askD ph im bl tr rd rp = ⟨#[]⟩) ∨
    (ph = 6 ∧ askS ph im bl ag tr rd rp = supS 2 j 32 ∧ askD ph im bl tr rd rp = ⟨#[]⟩)) := by
  obtain ⟨e1, e2⟩ := ask_yes ag h
  obtain ⟨h1, n0, n7⟩ := ask_parts.1 h
  obtain ⟨p0, p7, _, _, g1, g0, g2, g3, _⟩ := host_parts.1 h1
  obtain ⟨j, rfl⟩ : ∃ j : Nat, bl = (j : Int) := ⟨bl.toNat, by omega⟩
  have := nP_le g1
  rw [e1, e2]
  refine ⟨j, rfl, by omega, by omega, by omega, g1, ?_⟩
  have hj : ((j : Int)).toNat = j := Int.toNat_natCast j
  obtain rfl | rfl | rfl | rfl | rfl | rfl : ph = 1 ∨ ph = 2 ∨ ph = 3 ∨ ph = 4 ∨ ph = 5 ∨ ph = 6 := by omega
  · cases ag with
    | false => exact .inl ⟨rfl, rfl, rfl, rfl⟩
    | true =>
      by_cases h0 : j = 0
      · subst h0
        exact .inr (.inl ⟨rfl, rfl, rfl, rfl, rfl⟩)
      · have h00 : ¬ (j : Int) = 0 := by omega
        refine .inr (.inr (.inl ⟨rfl, rfl, h0, ?_, rfl⟩))
        show supS (if (j : Int) = 0 then 4 else 6) 0 0 = _
        rw [if_neg h00]
  · refine .inr (.inr (.inr (.inl ⟨rfl, ?_, ?_⟩)))
    · show supS 1 j ((pieceS im ((j : Int)).toNat).size : Int) = _
      rw [hj]
    · show pieceS im ((j : Int)).toNat = _
      rw [hj]
  · exact .inr (.inr (.inr (.inr (.inl ⟨.inl rfl, rfl, rfl⟩))))
  · exact .inr (.inr (.inr (.inr (.inr (.inl ⟨rfl, rfl, rfl⟩)))))
  · exact .inr (.inr (.inr (.inr (.inl ⟨.inr rfl, rfl, rfl⟩))))
  · exact .inr (.inr (.inr (.inr (.inr (.inr ⟨rfl, rfl, rfl⟩)))))
end Go.Proofs.Ytgkmallikomnaaa.Hst

/- The contracts of package host: may a host be, what it begins with, what it asks; of what was there nothing has turned. -/
namespace Go.Proofs.Ytgkmallikomnaaa.HstWalk
open Go.Proofs.Ytgkmallikomnaaa Go.RowKit Go.Proofs.Ytgkmallikomnaaa.Bytes Go.Proofs.Ytgkmallikomnaaa.NorWalk Go.Proofs.Ytgkmallikomnaaa.Suf Go.Proofs.Ytgkmallikomnaaa.Idt Go.Proofs.Ytgkmallikomnaaa.Sup Go.Proofs.Ytgkmallikomnaaa.Hst
open Go.Proofs.Ytgkmallikomnaaa.EntRow (size_alloc1)
open Go.Proofs.Ytgkmallikomnaaa.OpsRow (boxM boxB boxD thenD)
open Go.Proofs.Ytgkmallikomnaaa.BloWalk (split_any)
open Go.Proofs.Ytgkmallikomnaaa.TxtRow (txC)
open Go.Proofs.Ytgkmallikomnaaa.Blo (nP pieceS piecesTo splitL splitOk)
open Go.Proofs.Ytgkmallikomnaaa.Take
open List (setIfInBounds_toArray set_cons_zero set_cons_succ)
attribute [local go_sem ↓] Go.wp_at_zero Go.wp_at_succ

/-- A struct of seven cells, told as a row of facts. -/
abbrev Sev (w : World) (B : Nat) (x0 x1 x2 x3 x4 x5 x6 : Value) : Prop := B < w.heap.size ∧ w.cell? ⟨B, 0, none⟩ = some x0 ∧ w.cell? ⟨B, 1, none⟩ = some x1 ∧ w.cell? ⟨B, 2, none⟩ = some x2 ∧ w.cell? ⟨B, 3, none⟩ = some x3 ∧ w.cell? ⟨B, 4, none⟩ = some x4 ∧ w.cell? ⟨B, 5, none⟩ = some x5 ∧ w.cell? ⟨B, 6, none⟩ = some x6
theorem sevM (w : World) (x0 x1 x2 x3 x4 x5 x6 : Value) (e : TypeId) : Sev (w.alloc (.cells #[x0, x1, x2, x3, x4, x5, x6] e)) w.heap.size x0 x1 x2 x3 x4 x5 x6 := by
  refine ⟨by simp, ?_⟩
  refine ⟨?_, ?_, ?_, ?_, ?_, ?_, ?_⟩
  all_goals
    rw [World.cell?_alloc_at _ e _ _ rfl]
    rfl
theorem sevB {w w' : World} {B : Nat} {x0 x1 x2 x3 x4 x5 x6 : Value} (h : Sev w B x0 x1 x2 x3 x4 x5 x6) (hb : Below w.heap.size w w') : Sev w' B x0 x1 x2 x3 x4 x5 x6 := by
  obtain ⟨h, h0, h1, h2, h3, h4, h5, h6⟩ := h
  have o : ∀ j, w'.cell? ⟨B, j, none⟩ = w.cell? ⟨B, j, none⟩ := fun j => hb.cell (p := ⟨B, j, none⟩) h
  exact ⟨Nat.lt_of_lt_of_le h hb.size, by rw [o]; exact h0, by rw [o]; exact h1, by rw [o]; exact h2, by rw [o]; exact h3, by rw [o]; exact h4, by rw [o]; exact h5, by rw [o]; exact h6⟩
theorem sevD {w w' : World} {B : Nat} {x0 x1 x2 x3 x4 x5 x6 : Value} (hb : Below w.heap.size w w') (h : Sev w B x0 x1 x2 x3 x4 x5 x6) : Sev w' B x0 x1 x2 x3 x4 x5 x6 := sevB h hb
/-- The same, that may be written. -/
abbrev SevR (w : World) (B : Nat) (x0 x1 x2 x3 x4 x5 x6 : Value) : Prop := B < w.heap.size ∧ w.cell? ⟨B, 0, none⟩ = some x0 ∧ w.cell? ⟨B, 1, none⟩ = some x1 ∧ w.cell? ⟨B, 2, none⟩ = some x2 ∧ w.cell? ⟨B, 3, none⟩ = some x3 ∧ w.cell? ⟨B, 4, none⟩ = some x4 ∧ w.cell? ⟨B, 5, none⟩ = some x5 ∧ w.cell? ⟨B, 6, none⟩ = some x6 ∧ ∀ i, w.frozen? ⟨B, i, none⟩ = false
theorem sevRM (w : World) (x0 x1 x2 x3 x4 x5 x6 : Value) (e : TypeId) : SevR (w.alloc (.cells #[x0, x1, x2, x3, x4, x5, x6] e)) w.heap.size x0 x1 x2 x3 x4 x5 x6 := by
  obtain ⟨h, h0, h1, h2, h3, h4, h5, h6⟩ := sevM w x0 x1 x2 x3 x4 x5 x6 e
  exact ⟨h, h0, h1, h2, h3, h4, h5, h6, fun i => World.frozen?_alloc_at _ e _ i rfl⟩
theorem sevRB {w w' : World} {B : Nat} {x0 x1 x2 x3 x4 x5 x6 : Value} (h : SevR w B x0 x1 x2 x3 x4 x5 x6) (hb : Below w.heap.size w w') : SevR w' B x0 x1 x2 x3 x4 x5 x6 := by
  obtain ⟨h, h0, h1, h2, h3, h4, h5, h6, h7⟩ := h
  obtain ⟨g, g0, g1, g2, g3, g4, g5, g6⟩ := sevB ⟨h, h0, h1, h2, h3, h4, h5, h6⟩ hb
  exact ⟨g, g0, g1, g2, g3, g4, g5, g6, fun i => by rw [hb.frozen (p := ⟨B, i, none⟩) h]; exact h7 i⟩
theorem SevR.sev {w : World} {B : Nat} {x0 x1 x2 x3 x4 x5 x6 : Value} (h : SevR w B x0 x1 x2 x3 x4 x5 x6) : Sev w B x0 x1 x2 x3 x4 x5 x6 := by
  obtain ⟨h, h0, h1, h2, h3, h4, h5, h6, h7⟩ := h
  exact ⟨h, h0, h1, h2, h3, h4, h5, h6⟩

theorem phase_any (ph : Int) (w : World) : Calls Try.prog 34 #[.int .i64 ph] w fun e w' => e = .returned (.bool (decide (0 ≤ ph ∧ ph ≤ 7))) ∧ w' = w := by
  go_enter Try.func34, Try.ntmps34
  go_wp2
  all_goals
    go_ret
    exact ⟨ret_bool (by rw [Bool.eq_iff_iff]; simp; try omega), rfl⟩
theorem report_any (rp : Int) (w : World) : Calls Try.prog 35 #[.int .i64 rp] w fun e w' => e = .returned (.bool (decide (0 ≤ rp ∧ rp ≤ 3))) ∧ w' = w := by
  go_enter Try.func35, Try.ntmps35
  go_wp2
  all_goals
    go_ret
    exact ⟨ret_bool (by rw [Bool.eq_iff_iff]; simp; try omega), rfl⟩
theorem idle_any (ph : Int) (w : World) : Calls Try.prog 51 #[.int .i64 ph] w fun e w' => e = .returned (.bool (restB ph)) ∧ w' = w := by
  go_enter Try.func51, Try.ntmps51
  go_wp2
  all_goals
    go_ret
    exact ⟨ret_bool (by unfold restB; rw [Bool.eq_iff_iff]; simp; try omega), rfl⟩
theorem owns_form {w : World} {base : Nat} {e : TypeId} {size : Nat} {v : Value} {n : Nat} {xs : List Value} (h : w.ownsRow base e size v n xs) : ∃ a c, v = .slice a n c := by
  rcases h.2 with ⟨rfl, rfl⟩ | ⟨g, cap, cur, rfl, _⟩
  · exact ⟨none, 0, rfl⟩
  · exact ⟨_, _, rfl⟩
def imageB (ph : Int) (im : ByteArray) : Bool := decide (im.size ≤ 288 ∧ (1 ≤ im.size ∨ ph = 0 ∨ ph = 7))
theorem image_ways (ph : Int) (im : ByteArray) : (¬ (im.size : Int) ≤ 288 ∧ imageB ph im = false) ∨ ((im.size : Int) ≤ 288 ∧ 1 ≤ (im.size : Int) ∧ imageB ph im = true) ∨ ((im.size : Int) ≤ 288 ∧ ¬ 1 ≤ (im.size : Int) ∧ imageB ph im = restB ph) := by
  unfold imageB restB
  by_cases h1 : im.size ≤ 288
  · by_cases h2 : 1 ≤ im.size
    · exact .inr (.inl ⟨by omega, by omega, by rw [decide_eq_true_iff]; exact ⟨h1, .inl h2⟩⟩)
    · refine .inr (.inr ⟨by omega, by omega, ?_⟩)
      rw [Bool.eq_iff_iff, decide_eq_true_iff, decide_eq_true_iff]
      omega
  · exact .inl ⟨by omega, decide_eq_false (by omega)⟩
set_option maxRecDepth 100000 in
theorem himage_any (ph : Int) (im : ByteArray) (bl : Int) (ag : Bool) (tr : Int) (rd : ByteArray) (rp : Int) (w : World) : Calls Try.prog 36 #[.agg #[.int .i64 ph, .string im, .int .i64 bl, .bool ag, .int .i64 tr, .string rd, .int .i64 rp]] w fun e w' => e = .returned (.bool (imageB ph im)) ∧ Below w.heap.size w w' := by
  have hX := sevM w (.int .i64 ph) (.string im) (.int .i64 bl) (.bool ag) (.int .i64 tr) (.string rd) (.int .i64 rp) 23
  rcases image_ways ph im with ⟨h1, h⟩ | ⟨h1, h2, h⟩ | ⟨h1, h2, h⟩
  all_goals
    rw [h]
    clear h
    go_enter Try.func36, Try.ntmps36
    go_wp2_with (go_at_call 51; refine (idle_any _ _).mono ?_; rintro e w' ⟨rfl, rfl⟩)
    go_ret
    exact ⟨rfl, (Below.refl _ _).alloc (Nat.le_refl _) _⟩
theorem pieces_any (s : ByteArray) (w : World) : Calls Try.prog 37 #[.string s] w fun e w' => ∃ v, e = .returned v ∧ w'.ownsRow w.heap.size 9 1 v (splitL s).length (txC (splitL s)) ∧ Below w.heap.size w w' := by
  go_enter Try.func37, Try.ntmps37
  go_wp2_with (go_at_call 52; refine (split_any _ _).mono ?_; rintro e w' ⟨v, rfl, hown, hb⟩)
  go_ret
  exact ⟨v, rfl, hown, hb⟩
theorem hmay_ways (ph : Int) (im : ByteArray) (bl tr : Int) (rd : ByteArray) (rp : Int) :
    (decide (0 ≤ ph ∧ ph ≤ 7) = false ∧ hostB ph im bl tr rd rp = false) ∨
    (decide (0 ≤ ph ∧ ph ≤ 7) = true ∧ decide (0 ≤ rp ∧ rp ≤ 3) = false ∧ hostB ph im bl tr rd rp = false) ∨
    (decide (0 ≤ ph ∧ ph ≤ 7) = true ∧ decide (0 ≤ rp ∧ rp ≤ 3) = true ∧ imageB ph im = false ∧ hostB ph im bl tr rd rp = false) ∨
    (decide (0 ≤ ph ∧ ph ≤ 7) = true ∧ decide (0 ≤ rp ∧ rp ≤ 3) = true ∧ imageB ph im = true ∧ (splitL im).length = nP im ∧
      hostB ph im bl tr rd rp = (decide (0 ≤ bl) && (decide (bl ≤ (nP im : Int)) && (decide (0 ≤ tr) && (decide (tr ≤ 8) && decide ((rd.size : Int) ≤ 320)))))) := by
  cases h1 : decide (0 ≤ ph ∧ ph ≤ 7) with
  | false =>
    have := of_decide_eq_false h1
    exact .inl ⟨rfl, host_no (by omega)⟩
  | true => cases h2 : decide (0 ≤ rp ∧ rp ≤ 3) with
    | false =>
      have := of_decide_eq_false h2
      exact .inr (.inl ⟨rfl, rfl, host_no (by omega)⟩)
    | true => cases h3 : imageB ph im with
      | false =>
        have := of_decide_eq_false h3
        exact .inr (.inr (.inl ⟨rfl, rfl, rfl, host_no (fun h => this ⟨h.2.2.2.2.1, h.2.2.2.2.2.1⟩)⟩))
      | true =>
        have p1 := of_decide_eq_true h1
        have p2 := of_decide_eq_true h2
        have p3 := of_decide_eq_true h3
        refine .inr (.inr (.inr ⟨rfl, rfl, rfl, len_split p3.1, ?_⟩))
        rw [Bool.eq_iff_iff, host_parts]
        simp only [Bool.and_eq_true, decide_eq_true_iff]
        omega
set_option maxRecDepth 100000 in
set_option maxHeartbeats 4000000 in
theorem hmay_any (ph : Int) (im : ByteArray) (bl : Int) (ag : Bool) (tr : Int) (rd : ByteArray) (rp : Int) (w : World) : Calls Try.prog 16 #[.agg #[.int .i64 ph, .string im, .int .i64 bl, .bool ag, .int .i64 tr, .string rd, .int .i64 rp]] w fun e w' => e = .returned (.bool (hostB ph im bl tr rd rp)) ∧ Below w.heap.size w w' := by
  have hB := (Below.refl w.heap.size w).alloc (Nat.le_refl _) (.cells #[.int .i64 ph, .string im, .int .i64 bl, .bool ag, .int .i64 tr, .string rd, .int .i64 rp] 23)
  have hX := sevM w (.int .i64 ph) (.string im) (.int .i64 bl) (.bool ag) (.int .i64 tr) (.string rd) (.int .i64 rp) 23
  have hw := hmay_ways ph im bl tr rd rp
  have HM := hide (fun w => himage_any ph im bl ag tr rd rp w)
  have HP : Hid (∀ w, Calls Try.prog 37 #[.string im] w fun e w' => ∃ a c, e = .returned (.slice a (splitL im).length c) ∧ Below w.heap.size w w') := fun w => (pieces_any im w).mono fun e w' ⟨v, he, hown, hb⟩ => by
    obtain ⟨a, c, rfl⟩ := owns_form hown
    exact ⟨a, c, he, hb⟩
  generalize hostB ph im bl tr rd rp = R at *
  generalize nP im = N at *
  generalize imageB ph im = I at *
  rcases hw with ⟨h1, h⟩ | ⟨h1, h2, h⟩ | ⟨h1, h2, h3, h⟩ | ⟨h1, h2, h3, hN, h⟩
  iterate 3
    · rw [h]
      clear h
      go_enter Try.func16, Try.ntmps16
      go_wp2_with (first | (go_at_call 34; refine (phase_any _ _).mono ?_; rintro e w' ⟨rfl, rfl⟩) | (go_at_call 35; refine (report_any _ _).mono ?_; rintro e w' ⟨rfl, rfl⟩) | (go_at_call 36; refine (HM.out _).mono ?_; rintro e w' ⟨rfl, hb⟩; replace hB := thenB hB hb; replace hX := sevB hX hb; clear hb))
      go_ret
      exact ⟨rfl, hB⟩
  · rw [hN] at HP
    clear hN
    rw [h]
    clear h
    cases g0 : decide (0 ≤ bl) with
    | false =>
      go_enter Try.func16, Try.ntmps16
      go_upto_region 3 with (first | (go_at_call 34; refine (phase_any _ _).mono ?_; rintro e w' ⟨rfl, rfl⟩) | (go_at_call 35; refine (report_any _ _).mono ?_; rintro e w' ⟨rfl, rfl⟩) | (go_at_call 36; refine (HM.out _).mono ?_; rintro e w' ⟨rfl, hb⟩; replace hB := thenB hB hb; replace hX := sevB hX hb; clear hb))
      -- MAY 0
      refine wp_region_held_drew (S := fun W => W.cell? ⟨w.heap.size, 1, none⟩ = some (.string im) ∧ W.cell? ⟨w.heap.size, 2, none⟩ = some (.int .i64 bl) ∧ W.cell? ⟨w.heap.size, 4, none⟩ = some (.int .i64 tr) ∧ W.cell? ⟨w.heap.size, 5, none⟩ = some (.string rd)) (by kernel_rfl) (by go_keep) (fun hHeld => ?_)
      refine tk 0 ?_; simp only [Act.put, setIfInBounds_toArray, set_cons_zero, set_cons_succ]
      refine tk 1 ?_; simp only [Act.put, setIfInBounds_toArray, set_cons_zero, set_cons_succ]
      refine tk 2 ?_; simp only [Act.put, setIfInBounds_toArray, set_cons_zero, set_cons_succ]
      refine tk 3 ?_; simp only [Act.put, setIfInBounds_toArray, set_cons_zero, set_cons_succ]
      refine ts 4 ?_; simp only [Act.put, setIfInBounds_toArray, set_cons_zero, set_cons_succ]
      refine ts 5 ?_; simp only [Act.put, setIfInBounds_toArray, set_cons_zero, set_cons_succ]
      refine ts 6 ?_; simp only [Act.put, setIfInBounds_toArray, set_cons_zero, set_cons_succ]
      refine ts 7 ?_; simp only [Act.put, setIfInBounds_toArray, set_cons_zero, set_cons_succ]
      refine ts 8 ?_; simp only [Act.put, setIfInBounds_toArray, set_cons_zero, set_cons_succ]
      refine ts 9 ?_; simp only [Act.put, setIfInBounds_toArray, set_cons_zero, set_cons_succ]
      refine ts 10 ?_; simp only [Act.put, setIfInBounds_toArray, set_cons_zero, set_cons_succ]
      refine tk 11 ?_; simp only [Act.put, setIfInBounds_toArray, set_cons_zero, set_cons_succ]
      refine tk 12 ?_; simp only [Act.put, setIfInBounds_toArray, set_cons_zero, set_cons_succ]
      refine ts 13 ?_; simp only [Act.put, setIfInBounds_toArray, set_cons_zero, set_cons_succ]
      refine ts 14 ?_; simp only [Act.put, setIfInBounds_toArray, set_cons_zero, set_cons_succ]
      refine ts 15 ?_; simp only [Act.put, setIfInBounds_toArray, set_cons_zero, set_cons_succ]
      refine tk 16 ?_; simp only [Act.put, setIfInBounds_toArray, set_cons_zero, set_cons_succ]
      refine tk 17 ?_; simp only [Act.put, setIfInBounds_toArray, set_cons_zero, set_cons_succ]
      refine ts 18 ?_; simp only [Act.put, setIfInBounds_toArray, set_cons_zero, set_cons_succ]
      refine ts 19 ?_; simp only [Act.put, setIfInBounds_toArray, set_cons_zero, set_cons_succ]
      refine ts 20 ?_; simp only [Act.put, setIfInBounds_toArray, set_cons_zero, set_cons_succ]
      refine tk 21 ?_; simp only [Act.put, setIfInBounds_toArray, set_cons_zero, set_cons_succ]
      refine tk 22 ?_; simp only [Act.put, setIfInBounds_toArray, set_cons_zero, set_cons_succ]
      refine ts 23 ?_; simp only [Act.put, setIfInBounds_toArray, set_cons_zero, set_cons_succ]
      refine ts 24 ?_; simp only [Act.put, setIfInBounds_toArray, set_cons_zero, set_cons_succ]
      refine ts 25 ?_; simp only [Act.put, setIfInBounds_toArray, set_cons_zero, set_cons_succ]
      refine ts 26 ?_; simp only [Act.put, setIfInBounds_toArray, set_cons_zero, set_cons_succ]
      refine tk 27 ?_; simp only [Act.put, setIfInBounds_toArray, set_cons_zero, set_cons_succ]
      refine tk 28 ?_; simp only [Act.put, setIfInBounds_toArray, set_cons_zero, set_cons_succ]
      refine wpAnyH_done (by kernel_rfl) ?_ _
      -- END
      go_wp2
      go_ret
      exact ⟨rfl, ⟨hB.os, hB.tape, hB.output, hB.size, hB.block⟩⟩
    | true =>
      cases g1 : decide (bl ≤ (N : Int)) with
      | false =>
        go_enter Try.func16, Try.ntmps16
        go_upto_region 3 with (first | (go_at_call 34; refine (phase_any _ _).mono ?_; rintro e w' ⟨rfl, rfl⟩) | (go_at_call 35; refine (report_any _ _).mono ?_; rintro e w' ⟨rfl, rfl⟩) | (go_at_call 36; refine (HM.out _).mono ?_; rintro e w' ⟨rfl, hb⟩; replace hB := thenB hB hb; replace hX := sevB hX hb; clear hb))
        -- MAY 1
        refine wp_region_held_drew (S := fun W => W.cell? ⟨w.heap.size, 1, none⟩ = some (.string im) ∧ W.cell? ⟨w.heap.size, 2, none⟩ = some (.int .i64 bl) ∧ W.cell? ⟨w.heap.size, 4, none⟩ = some (.int .i64 tr) ∧ W.cell? ⟨w.heap.size, 5, none⟩ = some (.string rd)) (by kernel_rfl) (by go_keep) (fun hHeld => ?_)
        refine tk 0 ?_; simp only [Act.put, setIfInBounds_toArray, set_cons_zero, set_cons_succ]
        refine tk 1 ?_; simp only [Act.put, setIfInBounds_toArray, set_cons_zero, set_cons_succ]
        refine tk 2 ?_; simp only [Act.put, setIfInBounds_toArray, set_cons_zero, set_cons_succ]
        refine tk 3 ?_; simp only [Act.put, setIfInBounds_toArray, set_cons_zero, set_cons_succ]
        refine tk 4 ?_; simp only [Act.put, setIfInBounds_toArray, set_cons_zero, set_cons_succ]
        refine tk 5 ?_; simp only [Act.put, setIfInBounds_toArray, set_cons_zero, set_cons_succ]
        refine tk 6 ?_; simp only [Act.put, setIfInBounds_toArray, set_cons_zero, set_cons_succ]
        refine tk 7 ?_; simp only [Act.put, setIfInBounds_toArray, set_cons_zero, set_cons_succ]
        refine wpAnyH_ready (rs := [8]) (by kernel_rfl) (by simp) ?_
        refine AllReadyH.cons rfl (fun K hK => ?_) AllReadyH.nil
        go_simp
        ((go_at_call 37; refine (HP.out _).mono ?_; rintro e w' ⟨a, ca, rfl, hb⟩; replace hB := thenD hb hB rfl rfl rfl rfl; replace hX := sevD hb hX; clear hb))
        refine hK.out _ _ (by go_keep) (fun hHeld => ?_)
        clear hK K
        (try simp only [Act.put, setIfInBounds_toArray, set_cons_zero, set_cons_succ])
        refine tk 9 ?_; simp only [Act.put, setIfInBounds_toArray, set_cons_zero, set_cons_succ]
        refine tk 10 ?_; simp only [Act.put, setIfInBounds_toArray, set_cons_zero, set_cons_succ]
        refine tk 11 ?_; simp only [Act.put, setIfInBounds_toArray, set_cons_zero, set_cons_succ]
        refine tk 12 ?_; simp only [Act.put, setIfInBounds_toArray, set_cons_zero, set_cons_succ]
        refine ts 13 ?_; simp only [Act.put, setIfInBounds_toArray, set_cons_zero, set_cons_succ]
        refine ts 14 ?_; simp only [Act.put, setIfInBounds_toArray, set_cons_zero, set_cons_succ]
        refine ts 15 ?_; simp only [Act.put, setIfInBounds_toArray, set_cons_zero, set_cons_succ]
        refine tk 16 ?_; simp only [Act.put, setIfInBounds_toArray, set_cons_zero, set_cons_succ]
        refine tk 17 ?_; simp only [Act.put, setIfInBounds_toArray, set_cons_zero, set_cons_succ]
        refine ts 18 ?_; simp only [Act.put, setIfInBounds_toArray, set_cons_zero, set_cons_succ]
        refine ts 19 ?_; simp only [Act.put, setIfInBounds_toArray, set_cons_zero, set_cons_succ]
        refine ts 20 ?_; simp only [Act.put, setIfInBounds_toArray, set_cons_zero, set_cons_succ]
        refine tk 21 ?_; simp only [Act.put, setIfInBounds_toArray, set_cons_zero, set_cons_succ]
        refine tk 22 ?_; simp only [Act.put, setIfInBounds_toArray, set_cons_zero, set_cons_succ]
        refine ts 23 ?_; simp only [Act.put, setIfInBounds_toArray, set_cons_zero, set_cons_succ]
        refine ts 24 ?_; simp only [Act.put, setIfInBounds_toArray, set_cons_zero, set_cons_succ]
        refine ts 25 ?_; simp only [Act.put, setIfInBounds_toArray, set_cons_zero, set_cons_succ]
        refine ts 26 ?_; simp only [Act.put, setIfInBounds_toArray, set_cons_zero, set_cons_succ]
        refine tk 27 ?_; simp only [Act.put, setIfInBounds_toArray, set_cons_zero, set_cons_succ]
        refine tk 28 ?_; simp only [Act.put, setIfInBounds_toArray, set_cons_zero, set_cons_succ]
        refine wpAnyH_done (by kernel_rfl) ?_ _
        -- END
        go_wp2
        go_ret
        exact ⟨rfl, hB⟩
      | true =>
        cases g2 : decide (0 ≤ tr) with
        | false =>
          go_enter Try.func16, Try.ntmps16
          go_upto_region 3 with (first | (go_at_call 34; refine (phase_any _ _).mono ?_; rintro e w' ⟨rfl, rfl⟩) | (go_at_call 35; refine (report_any _ _).mono ?_; rintro e w' ⟨rfl, rfl⟩) | (go_at_call 36; refine (HM.out _).mono ?_; rintro e w' ⟨rfl, hb⟩; replace hB := thenB hB hb; replace hX := sevB hX hb; clear hb))
          -- MAY 2
          refine wp_region_held_drew (S := fun W => W.cell? ⟨w.heap.size, 1, none⟩ = some (.string im) ∧ W.cell? ⟨w.heap.size, 2, none⟩ = some (.int .i64 bl) ∧ W.cell? ⟨w.heap.size, 4, none⟩ = some (.int .i64 tr) ∧ W.cell? ⟨w.heap.size, 5, none⟩ = some (.string rd)) (by kernel_rfl) (by go_keep) (fun hHeld => ?_)
          refine tk 0 ?_; simp only [Act.put, setIfInBounds_toArray, set_cons_zero, set_cons_succ]
          refine tk 1 ?_; simp only [Act.put, setIfInBounds_toArray, set_cons_zero, set_cons_succ]
          refine tk 2 ?_; simp only [Act.put, setIfInBounds_toArray, set_cons_zero, set_cons_succ]
          refine tk 3 ?_; simp only [Act.put, setIfInBounds_toArray, set_cons_zero, set_cons_succ]
          refine tk 4 ?_; simp only [Act.put, setIfInBounds_toArray, set_cons_zero, set_cons_succ]
          refine tk 5 ?_; simp only [Act.put, setIfInBounds_toArray, set_cons_zero, set_cons_succ]
          refine tk 6 ?_; simp only [Act.put, setIfInBounds_toArray, set_cons_zero, set_cons_succ]
          refine tk 7 ?_; simp only [Act.put, setIfInBounds_toArray, set_cons_zero, set_cons_succ]
          refine wpAnyH_ready (rs := [8]) (by kernel_rfl) (by simp) ?_
          refine AllReadyH.cons rfl (fun K hK => ?_) AllReadyH.nil
          go_simp
          ((go_at_call 37; refine (HP.out _).mono ?_; rintro e w' ⟨a, ca, rfl, hb⟩; replace hB := thenD hb hB rfl rfl rfl rfl; replace hX := sevD hb hX; clear hb))
          refine hK.out _ _ (by go_keep) (fun hHeld => ?_)
          clear hK K
          (try simp only [Act.put, setIfInBounds_toArray, set_cons_zero, set_cons_succ])
          refine tk 9 ?_; simp only [Act.put, setIfInBounds_toArray, set_cons_zero, set_cons_succ]
          refine tk 10 ?_; simp only [Act.put, setIfInBounds_toArray, set_cons_zero, set_cons_succ]
          refine tk 11 ?_; simp only [Act.put, setIfInBounds_toArray, set_cons_zero, set_cons_succ]
          refine tk 12 ?_; simp only [Act.put, setIfInBounds_toArray, set_cons_zero, set_cons_succ]
          refine tk 13 ?_; simp only [Act.put, setIfInBounds_toArray, set_cons_zero, set_cons_succ]
          refine tk 14 ?_; simp only [Act.put, setIfInBounds_toArray, set_cons_zero, set_cons_succ]
          refine tk 15 ?_; simp only [Act.put, setIfInBounds_toArray, set_cons_zero, set_cons_succ]
          refine tk 16 ?_; simp only [Act.put, setIfInBounds_toArray, set_cons_zero, set_cons_succ]
          refine tk 17 ?_; simp only [Act.put, setIfInBounds_toArray, set_cons_zero, set_cons_succ]
          refine ts 18 ?_; simp only [Act.put, setIfInBounds_toArray, set_cons_zero, set_cons_succ]
          refine ts 19 ?_; simp only [Act.put, setIfInBounds_toArray, set_cons_zero, set_cons_succ]
          refine ts 20 ?_; simp only [Act.put, setIfInBounds_toArray, set_cons_zero, set_cons_succ]
          refine tk 21 ?_; simp only [Act.put, setIfInBounds_toArray, set_cons_zero, set_cons_succ]
          refine tk 22 ?_; simp only [Act.put, setIfInBounds_toArray, set_cons_zero, set_cons_succ]
          refine ts 23 ?_; simp only [Act.put, setIfInBounds_toArray, set_cons_zero, set_cons_succ]
          refine ts 24 ?_; simp only [Act.put, setIfInBounds_toArray, set_cons_zero, set_cons_succ]
          refine ts 25 ?_; simp only [Act.put, setIfInBounds_toArray, set_cons_zero, set_cons_succ]
          refine ts 26 ?_; simp only [Act.put, setIfInBounds_toArray, set_cons_zero, set_cons_succ]
          refine tk 27 ?_; simp only [Act.put, setIfInBounds_toArray, set_cons_zero, set_cons_succ]
          refine tk 28 ?_; simp only [Act.put, setIfInBounds_toArray, set_cons_zero, set_cons_succ]
          refine wpAnyH_done (by kernel_rfl) ?_ _
          -- END
          go_wp2
          go_ret
          exact ⟨rfl, hB⟩
        | true =>
          cases g3 : decide (tr ≤ 8) with
          | false =>
            go_enter Try.func16, Try.ntmps16
            go_upto_region 3 with (first | (go_at_call 34; refine (phase_any _ _).mono ?_; rintro e w' ⟨rfl, rfl⟩) | (go_at_call 35; refine (report_any _ _).mono ?_; rintro e w' ⟨rfl, rfl⟩) | (go_at_call 36; refine (HM.out _).mono ?_; rintro e w' ⟨rfl, hb⟩; replace hB := thenB hB hb; replace hX := sevB hX hb; clear hb))
            -- MAY 3
            refine wp_region_held_drew (S := fun W => W.cell? ⟨w.heap.size, 1, none⟩ = some (.string im) ∧ W.cell? ⟨w.heap.size, 2, none⟩ = some (.int .i64 bl) ∧ W.cell? ⟨w.heap.size, 4, none⟩ = some (.int .i64 tr) ∧ W.cell? ⟨w.heap.size, 5, none⟩ = some (.string rd)) (by kernel_rfl) (by go_keep) (fun hHeld => ?_)
            refine tk 0 ?_; simp only [Act.put, setIfInBounds_toArray, set_cons_zero, set_cons_succ]
            refine tk 1 ?_; simp only [Act.put, setIfInBounds_toArray, set_cons_zero, set_cons_succ]
            refine tk 2 ?_; simp only [Act.put, setIfInBounds_toArray, set_cons_zero, set_cons_succ]
            refine tk 3 ?_; simp only [Act.put, setIfInBounds_toArray, set_cons_zero, set_cons_succ]
            refine tk 4 ?_; simp only [Act.put, setIfInBounds_toArray, set_cons_zero, set_cons_succ]
            refine tk 5 ?_; simp only [Act.put, setIfInBounds_toArray, set_cons_zero, set_cons_succ]
            refine tk 6 ?_; simp only [Act.put, setIfInBounds_toArray, set_cons_zero, set_cons_succ]
            refine tk 7 ?_; simp only [Act.put, setIfInBounds_toArray, set_cons_zero, set_cons_succ]
            refine wpAnyH_ready (rs := [8]) (by kernel_rfl) (by simp) ?_
            refine AllReadyH.cons rfl (fun K hK => ?_) AllReadyH.nil
            go_simp
            ((go_at_call 37; refine (HP.out _).mono ?_; rintro e w' ⟨a, ca, rfl, hb⟩; replace hB := thenD hb hB rfl rfl rfl rfl; replace hX := sevD hb hX; clear hb))
            refine hK.out _ _ (by go_keep) (fun hHeld => ?_)
            clear hK K
            (try simp only [Act.put, setIfInBounds_toArray, set_cons_zero, set_cons_succ])
            refine tk 9 ?_; simp only [Act.put, setIfInBounds_toArray, set_cons_zero, set_cons_succ]
            refine tk 10 ?_; simp only [Act.put, setIfInBounds_toArray, set_cons_zero, set_cons_succ]
            refine tk 11 ?_; simp only [Act.put, setIfInBounds_toArray, set_cons_zero, set_cons_succ]
            refine tk 12 ?_; simp only [Act.put, setIfInBounds_toArray, set_cons_zero, set_cons_succ]
            refine tk 13 ?_; simp only [Act.put, setIfInBounds_toArray, set_cons_zero, set_cons_succ]
            refine tk 14 ?_; simp only [Act.put, setIfInBounds_toArray, set_cons_zero, set_cons_succ]
            refine tk 15 ?_; simp only [Act.put, setIfInBounds_toArray, set_cons_zero, set_cons_succ]
            refine tk 16 ?_; simp only [Act.put, setIfInBounds_toArray, set_cons_zero, set_cons_succ]
            refine tk 17 ?_; simp only [Act.put, setIfInBounds_toArray, set_cons_zero, set_cons_succ]
            refine tk 18 ?_; simp only [Act.put, setIfInBounds_toArray, set_cons_zero, set_cons_succ]
            refine tk 19 ?_; simp only [Act.put, setIfInBounds_toArray, set_cons_zero, set_cons_succ]
            refine tk 20 ?_; simp only [Act.put, setIfInBounds_toArray, set_cons_zero, set_cons_succ]
            refine tk 21 ?_; simp only [Act.put, setIfInBounds_toArray, set_cons_zero, set_cons_succ]
            refine tk 22 ?_; simp only [Act.put, setIfInBounds_toArray, set_cons_zero, set_cons_succ]
            refine ts 23 ?_; simp only [Act.put, setIfInBounds_toArray, set_cons_zero, set_cons_succ]
            refine ts 24 ?_; simp only [Act.put, setIfInBounds_toArray, set_cons_zero, set_cons_succ]
            refine ts 25 ?_; simp only [Act.put, setIfInBounds_toArray, set_cons_zero, set_cons_succ]
            refine ts 26 ?_; simp only [Act.put, setIfInBounds_toArray, set_cons_zero, set_cons_succ]
            refine tk 27 ?_; simp only [Act.put, setIfInBounds_toArray, set_cons_zero, set_cons_succ]
            refine tk 28 ?_; simp only [Act.put, setIfInBounds_toArray, set_cons_zero, set_cons_succ]
            refine wpAnyH_done (by kernel_rfl) ?_ _
            -- END
            go_wp2
            go_ret
            exact ⟨rfl, hB⟩
          | true =>
            go_enter Try.func16, Try.ntmps16
            go_upto_region 3 with (first | (go_at_call 34; refine (phase_any _ _).mono ?_; rintro e w' ⟨rfl, rfl⟩) | (go_at_call 35; refine (report_any _ _).mono ?_; rintro e w' ⟨rfl, rfl⟩) | (go_at_call 36; refine (HM.out _).mono ?_; rintro e w' ⟨rfl, hb⟩; replace hB := thenB hB hb; replace hX := sevB hX hb; clear hb))
            -- MAY 4
            refine wp_region_held_drew (S := fun W => W.cell? ⟨w.heap.size, 1, none⟩ = some (.string im) ∧ W.cell? ⟨w.heap.size, 2, none⟩ = some (.int .i64 bl) ∧ W.cell? ⟨w.heap.size, 4, none⟩ = some (.int .i64 tr) ∧ W.cell? ⟨w.heap.size, 5, none⟩ = some (.string rd)) (by kernel_rfl) (by go_keep) (fun hHeld => ?_)
            refine tk 0 ?_; simp only [Act.put, setIfInBounds_toArray, set_cons_zero, set_cons_succ]
            refine tk 1 ?_; simp only [Act.put, setIfInBounds_toArray, set_cons_zero, set_cons_succ]
            refine tk 2 ?_; simp only [Act.put, setIfInBounds_toArray, set_cons_zero, set_cons_succ]
            refine tk 3 ?_; simp only [Act.put, setIfInBounds_toArray, set_cons_zero, set_cons_succ]
            refine tk 4 ?_; simp only [Act.put, setIfInBounds_toArray, set_cons_zero, set_cons_succ]
            refine tk 5 ?_; simp only [Act.put, setIfInBounds_toArray, set_cons_zero, set_cons_succ]
            refine tk 6 ?_; simp only [Act.put, setIfInBounds_toArray, set_cons_zero, set_cons_succ]
            refine tk 7 ?_; simp only [Act.put, setIfInBounds_toArray, set_cons_zero, set_cons_succ]
            refine wpAnyH_ready (rs := [8]) (by kernel_rfl) (by simp) ?_
            refine AllReadyH.cons rfl (fun K hK => ?_) AllReadyH.nil
            go_simp
            ((go_at_call 37; refine (HP.out _).mono ?_; rintro e w' ⟨a, ca, rfl, hb⟩; replace hB := thenD hb hB rfl rfl rfl rfl; replace hX := sevD hb hX; clear hb))
            refine hK.out _ _ (by go_keep) (fun hHeld => ?_)
            clear hK K
            (try simp only [Act.put, setIfInBounds_toArray, set_cons_zero, set_cons_succ])
            refine tk 9 ?_; simp only [Act.put, setIfInBounds_toArray, set_cons_zero, set_cons_succ]
            refine tk 10 ?_; simp only [Act.put, setIfInBounds_toArray, set_cons_zero, set_cons_succ]
            refine tk 11 ?_; simp only [Act.put, setIfInBounds_toArray, set_cons_zero, set_cons_succ]
            refine tk 12 ?_; simp only [Act.put, setIfInBounds_toArray, set_cons_zero, set_cons_succ]
            refine tk 13 ?_; simp only [Act.put, setIfInBounds_toArray, set_cons_zero, set_cons_succ]
            refine tk 14 ?_; simp only [Act.put, setIfInBounds_toArray, set_cons_zero, set_cons_succ]
            refine tk 15 ?_; simp only [Act.put, setIfInBounds_toArray, set_cons_zero, set_cons_succ]
            refine tk 16 ?_; simp only [Act.put, setIfInBounds_toArray, set_cons_zero, set_cons_succ]
            refine tk 17 ?_; simp only [Act.put, setIfInBounds_toArray, set_cons_zero, set_cons_succ]
            refine tk 18 ?_; simp only [Act.put, setIfInBounds_toArray, set_cons_zero, set_cons_succ]
            refine tk 19 ?_; simp only [Act.put, setIfInBounds_toArray, set_cons_zero, set_cons_succ]
            refine tk 20 ?_; simp only [Act.put, setIfInBounds_toArray, set_cons_zero, set_cons_succ]
            refine tk 21 ?_; simp only [Act.put, setIfInBounds_toArray, set_cons_zero, set_cons_succ]
            refine tk 22 ?_; simp only [Act.put, setIfInBounds_toArray, set_cons_zero, set_cons_succ]
            refine tk 23 ?_; simp only [Act.put, setIfInBounds_toArray, set_cons_zero, set_cons_succ]
            refine tk 24 ?_; simp only [Act.put, setIfInBounds_toArray, set_cons_zero, set_cons_succ]
            refine tk 25 ?_; simp only [Act.put, setIfInBounds_toArray, set_cons_zero, set_cons_succ]
            refine tk 26 ?_; simp only [Act.put, setIfInBounds_toArray, set_cons_zero, set_cons_succ]
            refine tk 27 ?_; simp only [Act.put, setIfInBounds_toArray, set_cons_zero, set_cons_succ]
            refine tk 28 ?_; simp only [Act.put, setIfInBounds_toArray, set_cons_zero, set_cons_succ]
            refine wpAnyH_done (by kernel_rfl) ?_ _
            -- END
            go_wp2
            go_ret
            exact ⟨rfl, hB⟩
end Go.Proofs.Ytgkmallikomnaaa.HstWalk

/- The contracts of package host's own requests, of what it begins with, of what it asks; of what was there nothing has turned. -/
namespace Go.Proofs.Ytgkmallikomnaaa.HstAsk
open Go.Proofs.Ytgkmallikomnaaa Go.RowKit Go.Proofs.Ytgkmallikomnaaa.Bytes Go.Proofs.Ytgkmallikomnaaa.NorWalk Go.Proofs.Ytgkmallikomnaaa.Suf Go.Proofs.Ytgkmallikomnaaa.Idt Go.Proofs.Ytgkmallikomnaaa.Sup Go.Proofs.Ytgkmallikomnaaa.Hst Go.Proofs.Ytgkmallikomnaaa.HstWalk
open Go.Proofs.Ytgkmallikomnaaa.SetWalk (resM resB set3)
open Go.Proofs.Ytgkmallikomnaaa.OpsRow (boxM boxB boxD thenD)
open Go.Proofs.Ytgkmallikomnaaa.TxtRow (txC TxIn IsTx ownsT_is)
open Go.Proofs.Ytgkmallikomnaaa.Blo (nP pieceS piecesTo splitL splitOk)
attribute [local go_sem ↓] Go.wp_at_zero Go.wp_at_succ

theorem hal (w : World) (b : Obj) : Below w.heap.size w (w.alloc b) := (Below.refl _ _).alloc (Nat.le_refl _) b
theorem build_h0 (w : World) : (Instr.build 23 #[]).run Try.prog w = .ok (.agg #[.int .i64 0, .string ⟨#[]⟩, .int .i64 0, .bool false, .int .i64 0, .string ⟨#[]⟩, .int .i64 0]) w := run_build w 23 _ _ (by kernel_rfl)
theorem build_h7 (p r : Int) (w : World) : (Instr.build 23 #[(0, .int .i64 p), (6, .int .i64 r)]).run Try.prog w = .ok (.agg #[.int .i64 p, .string ⟨#[]⟩, .int .i64 0, .bool false, .int .i64 0, .string ⟨#[]⟩, .int .i64 r]) w := run_build w 23 _ _ (by kernel_rfl)
theorem build_h1 (p : Int) (s : ByteArray) (w : World) : (Instr.build 23 #[(0, .int .i64 p), (1, .string s)]).run Try.prog w = .ok (.agg #[.int .i64 p, .string s, .int .i64 0, .bool false, .int .i64 0, .string ⟨#[]⟩, .int .i64 0]) w := run_build w 23 _ _ (by kernel_rfl)

/-- A request, and what goes with it. -/
def Req (w : World) (c v n : Int) (s : ByteArray) (e : Ending) (w' : World) : Prop := e = .returned (.tuple #[.agg #[.int .i64 c, .int .i64 v, .int .i64 n], .string s]) ∧ Below w.heap.size w w'
end Go.Proofs.Ytgkmallikomnaaa.HstAsk

/- The contracts of package host's own three: what a host begins with, what it asks; of what was there nothing has turned. -/
namespace Go.Proofs.Ytgkmallikomnaaa.HstHost
open Go.Proofs.Ytgkmallikomnaaa Go.RowKit Go.Proofs.Ytgkmallikomnaaa.Bytes Go.Proofs.Ytgkmallikomnaaa.NorWalk Go.Proofs.Ytgkmallikomnaaa.Suf Go.Proofs.Ytgkmallikomnaaa.Idt Go.Proofs.Ytgkmallikomnaaa.Sup Go.Proofs.Ytgkmallikomnaaa.Hst Go.Proofs.Ytgkmallikomnaaa.HstWalk Go.Proofs.Ytgkmallikomnaaa.HstAsk
open Go.Proofs.Ytgkmallikomnaaa.SetWalk (resM resB set3)
open Go.Proofs.Ytgkmallikomnaaa.OpsRow (boxM boxB boxD thenD)


open Go.Proofs.Ytgkmallikomnaaa.Blo (nP pieceS)
attribute [local go_sem ↓] Go.wp_at_zero Go.wp_at_succ

/-- The ways of a file that is looked at. -/
theorem to_ways (f : ByteArray) (v p r : Int) : (¬ errQ f = 0 ∧ toS f v p r = ⟨#[]⟩ ∧ toB f v p r = false) ∨ (errQ f = 0 ∧ mtB (parV f) (parP f) (parR f) v p r = false ∧ toS f v p r = ⟨#[]⟩ ∧ toB f v p r = false) ∨ (errQ f = 0 ∧ mtB (parV f) (parP f) (parR f) v p r = true ∧ errM (mtOk (parV f) (parP f) (parR f) v p r) = 0 ∧ toS f v p r = parI f ∧ toB f v p r = true) := by
  cases h1 : parB f with
  | false => exact .inl ⟨errQ_no h1, toS_f (to_no1 h1), to_no1 h1⟩
  | true => cases h2 : mtB (parV f) (parP f) (parR f) v p r with
    | false => exact .inr (.inl ⟨errQ_ok h1, rfl, toS_f (to_no2 h2), to_no2 h2⟩)
    | true =>
      have h3 := to_parts.2 ⟨h1, h2⟩
      exact .inr (.inr ⟨errQ_ok h1, rfl, by rw [mtB_ok2 h2]; rfl, toS_t h3, h3⟩)
/-- A host and an error given. -/
def Begun (w : World) (p : Int) (s : ByteArray) (r k : Int) (e : Ending) (w' : World) : Prop := e = .returned (.tuple #[.agg #[.int .i64 p, .string s, .int .i64 0, .bool false, .int .i64 0, .string ⟨#[]⟩, .int .i64 r], .int .i64 k]) ∧ Below w.heap.size w w'
theorem set7 {B0 : Nat} {w w' : World} {B : Nat} {x0 x1 x2 x3 x4 x5 x6 : Value} (h : Below B0 w w') (hB : B0 ≤ B) : Below B0 w (((((((w'.setCell ⟨B, 0, none⟩ x0).setCell ⟨B, 1, none⟩ x1).setCell ⟨B, 2, none⟩ x2).setCell ⟨B, 3, none⟩ x3).setCell ⟨B, 4, none⟩ x4).setCell ⟨B, 5, none⟩ x5).setCell ⟨B, 6, none⟩ x6) :=
  ((((((h.setCell (p := ⟨B, 0, none⟩) hB _).setCell (p := ⟨B, 1, none⟩) hB _).setCell (p := ⟨B, 2, none⟩) hB _).setCell (p := ⟨B, 3, none⟩) hB _).setCell (p := ⟨B, 4, none⟩) hB _).setCell (p := ⟨B, 5, none⟩) hB _).setCell (p := ⟨B, 6, none⟩) hB _
/-- What is asked: a request, what goes with it, an error. -/
def Asked (w : World) (U s : ByteArray) (k : Int) (e : Ending) (w' : World) : Prop := e = .returned (.tuple #[.string U, .string s, .int .i64 k]) ∧ Below w.heap.size w w'
/-- The boxes at a beginning: whom for, the host that is given. -/
theorem start_boxes (w : World) (v p r : Value) : ∃ W, (w.alloc (.cells #[v, p, r] 58)).alloc (.cells #[.int .i64 0, .string ⟨#[]⟩, .int .i64 0, .bool false, .int .i64 0, .string ⟨#[]⟩, .int .i64 0] 23) = W ∧ (w.heap.size < W.heap.size ∧ W.cell? ⟨w.heap.size, 0, none⟩ = some v ∧ W.cell? ⟨w.heap.size, 1, none⟩ = some p ∧ W.cell? ⟨w.heap.size, 2, none⟩ = some r) ∧ SevR W (w.heap.size + 1) (.int .i64 0) (.string ⟨#[]⟩) (.int .i64 0) (.bool false) (.int .i64 0) (.string ⟨#[]⟩) (.int .i64 0) ∧ Below w.heap.size w W := by
  refine ⟨_, rfl, ?_⟩
  have h1 := boxM w v p r 58
  have n1 := hal w (.cells #[v, p, r] 58)
  have s1 : (w.alloc (.cells #[v, p, r] 58)).heap.size = w.heap.size + 1 := by simp
  generalize w.alloc (.cells #[v, p, r] 58) = W1 at *
  have h2 := sevRM W1 (.int .i64 0) (.string ⟨#[]⟩) (.int .i64 0) (.bool false) (.int .i64 0) (.string ⟨#[]⟩) (.int .i64 0) 23
  have n2 := hal W1 (.cells #[.int .i64 0, .string ⟨#[]⟩, .int .i64 0, .bool false, .int .i64 0, .string ⟨#[]⟩, .int .i64 0] 23)
  rw [s1] at h2
  exact ⟨boxB h1 n2, h2, thenB n1 n2⟩
end Go.Proofs.Ytgkmallikomnaaa.HstHost

/- A struct of seven cells that is stored field by field: what it holds behind each store. No program is named here. -/
namespace Go.Proofs.Ytgkmallikomnaaa.HstSet
open Go.Proofs.Ytgkmallikomnaaa Go.RowKit Go.Proofs.Ytgkmallikomnaaa.Bytes Go.Proofs.Ytgkmallikomnaaa.HstWalk
theorem ne_off {B i j : Nat} (h : i ≠ j) : (⟨B, i, none⟩ : Addr) ≠ ⟨B, j, none⟩ := fun e => by injection e; exact h (by omega)
theorem ne_blk {A B i j : Nat} (h : A ≠ B) : (⟨A, i, none⟩ : Addr) ≠ ⟨B, j, none⟩ := fun e => by injection e; exact h (by omega)
theorem size_set (w : World) (a : Addr) (v : Value) : (w.setCell a v).heap.size = w.heap.size := by simp [World.setCell]
section
variable {w : World} {B : Nat} {x0 x1 x2 x3 x4 x5 x6 : Value}
theorem set0 (h : SevR w B x0 x1 x2 x3 x4 x5 x6) (y : Value) : SevR (w.setCell ⟨B, 0, none⟩ y) B y x1 x2 x3 x4 x5 x6 := by
  obtain ⟨h, h0, h1, h2, h3, h4, h5, h6, h7⟩ := h
  have o : ∀ j, j ≠ 0 → (w.setCell ⟨B, 0, none⟩ y).cell? ⟨B, j, none⟩ = w.cell? ⟨B, j, none⟩ := fun j hj => World.cell?_setCell_other w _ _ _ (ne_off (Ne.symm hj))
  exact ⟨by rw [size_set]; exact h, World.cell?_setCell_same w _ _ h0, by rw [o 1 (by omega)]; exact h1, by rw [o 2 (by omega)]; exact h2, by rw [o 3 (by omega)]; exact h3, by rw [o 4 (by omega)]; exact h4, by rw [o 5 (by omega)]; exact h5, by rw [o 6 (by omega)]; exact h6, fun i => by rw [World.frozen?_setCell]; exact h7 i⟩
theorem set1 (h : SevR w B x0 x1 x2 x3 x4 x5 x6) (y : Value) : SevR (w.setCell ⟨B, 1, none⟩ y) B x0 y x2 x3 x4 x5 x6 := by
  obtain ⟨h, h0, h1, h2, h3, h4, h5, h6, h7⟩ := h
  have o : ∀ j, j ≠ 1 → (w.setCell ⟨B, 1, none⟩ y).cell? ⟨B, j, none⟩ = w.cell? ⟨B, j, none⟩ := fun j hj => World.cell?_setCell_other w _ _ _ (ne_off (Ne.symm hj))
  exact ⟨by rw [size_set]; exact h, by rw [o 0 (by omega)]; exact h0, World.cell?_setCell_same w _ _ h1, by rw [o 2 (by omega)]; exact h2, by rw [o 3 (by omega)]; exact h3, by rw [o 4 (by omega)]; exact h4, by rw [o 5 (by omega)]; exact h5, by rw [o 6 (by omega)]; exact h6, fun i => by rw [World.frozen?_setCell]; exact h7 i⟩
theorem set2 (h : SevR w B x0 x1 x2 x3 x4 x5 x6) (y : Value) : SevR (w.setCell ⟨B, 2, none⟩ y) B x0 x1 y x3 x4 x5 x6 := by
  obtain ⟨h, h0, h1, h2, h3, h4, h5, h6, h7⟩ := h
  have o : ∀ j, j ≠ 2 → (w.setCell ⟨B, 2, none⟩ y).cell? ⟨B, j, none⟩ = w.cell? ⟨B, j, none⟩ := fun j hj => World.cell?_setCell_other w _ _ _ (ne_off (Ne.symm hj))
  exact ⟨by rw [size_set]; exact h, by rw [o 0 (by omega)]; exact h0, by rw [o 1 (by omega)]; exact h1, World.cell?_setCell_same w _ _ h2, by rw [o 3 (by omega)]; exact h3, by rw [o 4 (by omega)]; exact h4, by rw [o 5 (by omega)]; exact h5, by rw [o 6 (by omega)]; exact h6, fun i => by rw [World.frozen?_setCell]; exact h7 i⟩
theorem set3 (h : SevR w B x0 x1 x2 x3 x4 x5 x6) (y : Value) : SevR (w.setCell ⟨B, 3, none⟩ y) B x0 x1 x2 y x4 x5 x6 := by
  obtain ⟨h, h0, h1, h2, h3, h4, h5, h6, h7⟩ := h
  have o : ∀ j, j ≠ 3 → (w.setCell ⟨B, 3, none⟩ y).cell? ⟨B, j, none⟩ = w.cell? ⟨B, j, none⟩ := fun j hj => World.cell?_setCell_other w _ _ _ (ne_off (Ne.symm hj))
  exact ⟨by rw [size_set]; exact h, by rw [o 0 (by omega)]; exact h0, by rw [o 1 (by omega)]; exact h1, by rw [o 2 (by omega)]; exact h2, World.cell?_setCell_same w _ _ h3, by rw [o 4 (by omega)]; exact h4, by rw [o 5 (by omega)]; exact h5, by rw [o 6 (by omega)]; exact h6, fun i => by rw [World.frozen?_setCell]; exact h7 i⟩
theorem set4 (h : SevR w B x0 x1 x2 x3 x4 x5 x6) (y : Value) : SevR (w.setCell ⟨B, 4, none⟩ y) B x0 x1 x2 x3 y x5 x6 := by
  obtain ⟨h, h0, h1, h2, h3, h4, h5, h6, h7⟩ := h
  have o : ∀ j, j ≠ 4 → (w.setCell ⟨B, 4, none⟩ y).cell? ⟨B, j, none⟩ = w.cell? ⟨B, j, none⟩ := fun j hj => World.cell?_setCell_other w _ _ _ (ne_off (Ne.symm hj))
  exact ⟨by rw [size_set]; exact h, by rw [o 0 (by omega)]; exact h0, by rw [o 1 (by omega)]; exact h1, by rw [o 2 (by omega)]; exact h2, by rw [o 3 (by omega)]; exact h3, World.cell?_setCell_same w _ _ h4, by rw [o 5 (by omega)]; exact h5, by rw [o 6 (by omega)]; exact h6, fun i => by rw [World.frozen?_setCell]; exact h7 i⟩
theorem set5 (h : SevR w B x0 x1 x2 x3 x4 x5 x6) (y : Value) : SevR (w.setCell ⟨B, 5, none⟩ y) B x0 x1 x2 x3 x4 y x6 := by
  obtain ⟨h, h0, h1, h2, h3, h4, h5, h6, h7⟩ := h
  have o : ∀ j, j ≠ 5 → (w.setCell ⟨B, 5, none⟩ y).cell? ⟨B, j, none⟩ = w.cell? ⟨B, j, none⟩ := fun j hj => World.cell?_setCell_other w _ _ _ (ne_off (Ne.symm hj))
  exact ⟨by rw [size_set]; exact h, by rw [o 0 (by omega)]; exact h0, by rw [o 1 (by omega)]; exact h1, by rw [o 2 (by omega)]; exact h2, by rw [o 3 (by omega)]; exact h3, by rw [o 4 (by omega)]; exact h4, World.cell?_setCell_same w _ _ h5, by rw [o 6 (by omega)]; exact h6, fun i => by rw [World.frozen?_setCell]; exact h7 i⟩
theorem set6 (h : SevR w B x0 x1 x2 x3 x4 x5 x6) (y : Value) : SevR (w.setCell ⟨B, 6, none⟩ y) B x0 x1 x2 x3 x4 x5 y := by
  obtain ⟨h, h0, h1, h2, h3, h4, h5, h6, h7⟩ := h
  have o : ∀ j, j ≠ 6 → (w.setCell ⟨B, 6, none⟩ y).cell? ⟨B, j, none⟩ = w.cell? ⟨B, j, none⟩ := fun j hj => World.cell?_setCell_other w _ _ _ (ne_off (Ne.symm hj))
  exact ⟨by rw [size_set]; exact h, by rw [o 0 (by omega)]; exact h0, by rw [o 1 (by omega)]; exact h1, by rw [o 2 (by omega)]; exact h2, by rw [o 3 (by omega)]; exact h3, by rw [o 4 (by omega)]; exact h4, by rw [o 5 (by omega)]; exact h5, World.cell?_setCell_same w _ _ h6, fun i => by rw [World.frozen?_setCell]; exact h7 i⟩
/-- Of another block. -/
theorem setO (h : SevR w B x0 x1 x2 x3 x4 x5 x6) {A : Nat} (hA : A ≠ B) (i : Nat) (y : Value) : SevR (w.setCell ⟨A, i, none⟩ y) B x0 x1 x2 x3 x4 x5 x6 := by
  obtain ⟨h, h0, h1, h2, h3, h4, h5, h6, h7⟩ := h
  have o : ∀ j, (w.setCell ⟨A, i, none⟩ y).cell? ⟨B, j, none⟩ = w.cell? ⟨B, j, none⟩ := fun j => World.cell?_setCell_other w _ _ _ (ne_blk hA)
  exact ⟨by rw [size_set]; exact h, by rw [o 0]; exact h0, by rw [o 1]; exact h1, by rw [o 2]; exact h2, by rw [o 3]; exact h3, by rw [o 4]; exact h4, by rw [o 5]; exact h5, by rw [o 6]; exact h6, fun i => by rw [World.frozen?_setCell]; exact h7 i⟩
end
/-- A struct of three cells that is stored whole; of another block. -/
abbrev Tri (w : World) (B : Nat) (x y z : Value) : Prop := B < w.heap.size ∧ w.cell? ⟨B, 0, none⟩ = some x ∧ w.cell? ⟨B, 1, none⟩ = some y ∧ w.cell? ⟨B, 2, none⟩ = some z ∧ ∀ i, w.frozen? ⟨B, i, none⟩ = false
theorem tri_set {w : World} {B : Nat} {x y z : Value} (h : Tri w B x y z) (x' y' z' : Value) : Tri (((w.setCell ⟨B, 0, none⟩ x').setCell ⟨B, 1, none⟩ y').setCell ⟨B, 2, none⟩ z') B x' y' z' := by
  obtain ⟨h, h0, h1, h2, h3⟩ := h
  have a0 : (w.setCell ⟨B, 0, none⟩ x').cell? ⟨B, 0, none⟩ = some x' := World.cell?_setCell_same w _ _ h0
  have a1 : (w.setCell ⟨B, 0, none⟩ x').cell? ⟨B, 1, none⟩ = some y := by rw [World.cell?_setCell_other w _ _ _ (ne_off (by decide))]; exact h1
  have a2 : (w.setCell ⟨B, 0, none⟩ x').cell? ⟨B, 2, none⟩ = some z := by rw [World.cell?_setCell_other w _ _ _ (ne_off (by decide))]; exact h2
  have c0 : ((w.setCell ⟨B, 0, none⟩ x').setCell ⟨B, 1, none⟩ y').cell? ⟨B, 0, none⟩ = some x' := by rw [World.cell?_setCell_other _ _ _ _ (ne_off (by decide))]; exact a0
  have c1 : ((w.setCell ⟨B, 0, none⟩ x').setCell ⟨B, 1, none⟩ y').cell? ⟨B, 1, none⟩ = some y' := World.cell?_setCell_same _ _ _ a1
  have c2 : ((w.setCell ⟨B, 0, none⟩ x').setCell ⟨B, 1, none⟩ y').cell? ⟨B, 2, none⟩ = some z := by rw [World.cell?_setCell_other _ _ _ _ (ne_off (by decide))]; exact a2
  exact ⟨by rw [size_set, size_set, size_set]; exact h, by rw [World.cell?_setCell_other _ _ _ _ (ne_off (by decide))]; exact c0, by rw [World.cell?_setCell_other _ _ _ _ (ne_off (by decide))]; exact c1, World.cell?_setCell_same _ _ _ c2, fun i => by rw [World.frozen?_setCell, World.frozen?_setCell, World.frozen?_setCell]; exact h3 i⟩
theorem tri_one {w : World} {B : Nat} {x y z : Value} (h : Tri w B x y z) {A : Nat} (hA : A ≠ B) (i : Nat) (v : Value) : Tri (w.setCell ⟨A, i, none⟩ v) B x y z := by
  obtain ⟨h, h0, h1, h2, h3⟩ := h
  have o : ∀ j, (w.setCell ⟨A, i, none⟩ v).cell? ⟨B, j, none⟩ = w.cell? ⟨B, j, none⟩ := fun j => World.cell?_setCell_other w _ _ _ (ne_blk hA)
  exact ⟨by rw [size_set]; exact h, by rw [o 0]; exact h0, by rw [o 1]; exact h1, by rw [o 2]; exact h2, fun i => by rw [World.frozen?_setCell]; exact h3 i⟩
theorem tri_other {w : World} {B : Nat} {x y z : Value} (h : Tri w B x y z) {A : Nat} (hA : A ≠ B) (x' y' z' : Value) : Tri (((w.setCell ⟨A, 0, none⟩ x').setCell ⟨A, 1, none⟩ y').setCell ⟨A, 2, none⟩ z') B x y z := tri_one (tri_one (tri_one h hA 0 x') hA 1 y') hA 2 z'
/-- Three cells of another block stored. -/
theorem setO3 {w : World} {B : Nat} {x0 x1 x2 x3 x4 x5 x6 : Value} (h : SevR w B x0 x1 x2 x3 x4 x5 x6) {A : Nat} (hA : A ≠ B) (x' y' z' : Value) : SevR (((w.setCell ⟨A, 0, none⟩ x').setCell ⟨A, 1, none⟩ y').setCell ⟨A, 2, none⟩ z') B x0 x1 x2 x3 x4 x5 x6 := setO (setO (setO h hA 0 x') hA 1 y') hA 2 z'
end Go.Proofs.Ytgkmallikomnaaa.HstSet
