/- The steps that erase a slot, what they leave of a flash; the record of a slot's first bytes, of which one byte is turned: as mathematics of texts. No program is named here. -/
import Derived.Test.YthpoefaipmcceaaPlaStep
import Derived.Test.YthpoefaipmcceaaImgTurn
namespace Go.Proofs.Ythpoefaipmcceaa.Sta
open Go.Proofs.Ythpoefaipmcceaa Go.Proofs.Ythpoefaipmcceaa.Bytes Go.Proofs.Ythpoefaipmcceaa.Ent Go.Proofs.Ythpoefaipmcceaa.Ops Go.Proofs.Ythpoefaipmcceaa.Jou Go.Proofs.Ythpoefaipmcceaa.Act Go.Proofs.Ythpoefaipmcceaa.Held Go.Proofs.Ythpoefaipmcceaa.Cho Go.Proofs.Ythpoefaipmcceaa.Pla Go.Proofs.Ythpoefaipmcceaa.Turn

/-- The first n steps that erase sectors from place b on, in their row. -/
def erTo (b : Int) : Nat → List FOp
  | 0 => []
  | n + 1 => erTo b n ++ [⟨true, b + 96 * (n : Int), ⟨#[]⟩⟩]
theorem erTo_succ (b : Int) (n : Nat) : erTo b (n + 1) = erTo b n ++ [⟨true, b + 96 * (n : Int), ⟨#[]⟩⟩] := rfl
theorem length_erTo (b : Int) (n : Nat) : (erTo b n).length = n := by
  induction n with
  | zero => rfl
  | succ n ih => rw [erTo_succ, List.length_append, ih]; rfl
theorem get_erTo (b : Int) (n i : Nat) (h : i < n) : (erTo b n)[i]? = some ⟨true, b + 96 * (i : Int), ⟨#[]⟩⟩ := by
  induction n with
  | zero => omega
  | succ n ih =>
    rw [erTo_succ]
    by_cases e : i < n
    · rw [List.getElem?_append_left (by rw [length_erTo]; exact e)]
      exact ih e
    · obtain rfl : i = n := by omega
      rw [List.getElem?_append_right (by rw [length_erTo]; omega), length_erTo, Nat.sub_self]
      rfl
def erL (t : Int) : List FOp := if baseOk t then erTo (baseI t) 3 else []
def errG (ok : Bool) : Int := if ok then 0 else 900
theorem erL_no {t : Int} (h : baseOk t = false) : erL t = [] := by unfold erL; rw [h]; rfl
theorem erL_ok {t : Int} (h : baseOk t = true) : erL t = erTo (baseI t) 3 := by unfold erL; rw [if_pos h]
theorem erL_few (t : Int) : (erL t).length ≤ 65536 := by
  cases h : baseOk t with
  | false => rw [erL_no h]; simp
  | true => rw [erL_ok h, length_erTo]; omega

/-- Behind the first n steps: the first 96 n bytes from place b on are blank, all others as they were. -/
structure Gone (f y : ByteArray) (b n : Nat) : Prop where
  sy : y.size = 768
  out : ∀ i, (i < b ∨ b + 96 * n ≤ i) → y.data.toList[i]? = f.data.toList[i]?
  ins : ∀ i, b ≤ i → i < b + 96 * n → y.data.toList[i]? = some 255
theorem gone_zero {f : ByteArray} (hf : f.size = 768) (b : Nat) : Gone f f b 0 := ⟨hf, fun _ _ => rfl, fun i h1 h2 => by omega⟩
theorem gone_step {f y : ByteArray} {b n : Nat} (h : Gone f y b n) (hb : b % 96 = 0) (hn : b + 96 * n + 96 ≤ 768) : cutOk y true ((b : Int) + 96 * (n : Int)) ⟨#[]⟩ 96 = true ∧ Gone f (cutS y true ((b : Int) + 96 * (n : Int)) ⟨#[]⟩ 96) b (n + 1) := by
  have e : cutOk y true ((b : Int) + 96 * (n : Int)) ⟨#[]⟩ 96 = true := cutOk_parts.2 ⟨h.sy, may_er.2 ⟨by omega, by omega, by omega, rfl⟩, by omega, by omega⟩
  obtain ⟨g1, g2⟩ := cut_er e
  obtain ⟨s, hs⟩ : ∃ s : Nat, 96 * s = b + 96 * n := ⟨(b + 96 * n) / 96, by omega⟩
  rw [show ((b : Int) + 96 * (n : Int)) / 96 = (s : Int) from by omega] at g1 g2
  refine ⟨e, ?_⟩
  rw [g2]
  refine ⟨Nor.size_wornS g1, fun i hi => ?_, fun i h1 h2 => ?_⟩
  · rw [worn_all g1 i (by omega)]
    exact h.out i (by omega)
  · by_cases hl : i < b + 96 * n
    · rw [worn_all g1 i (by omega)]
      exact h.ins i h1 hl
    · rw [bt_at _ i (by rw [Nor.size_wornS g1]; omega), bt_worn g1 i (by omega), if_pos (by omega)]
theorem ext_out {f y : ByteArray} {p q : Nat} (h : ∀ i, p ≤ i → i < q → y.data.toList[i]? = f.data.toList[i]?) : y.extract p q = f.extract p q := by
  apply ba_ext
  apply List.ext_getElem?
  intro i
  rw [list_extract, list_extract, List.getElem?_take, List.getElem?_take]
  by_cases hi : i < q - p
  · rw [if_pos hi, if_pos hi, List.getElem?_drop, List.getElem?_drop]
    exact h _ (by omega) (by omega)
  · rw [if_neg hi, if_neg hi]
theorem gone_end {f y : ByteArray} {b : Nat} (hf : f.size = 768) (h : Gone f y b 3) : y.extract 0 b = f.extract 0 b ∧ y.extract b (b + 288) = Nor.blankS.extract 0 288 ∧ y.extract (b + 288) y.size = f.extract (b + 288) f.size := by
  refine ⟨ext_out fun i _ h2 => h.out i (by omega), ?_, ?_⟩
  · apply ba_ext
    apply List.ext_getElem?
    intro i
    rw [list_extract, list_extract, List.getElem?_take, List.getElem?_take]
    by_cases hi : i < 288
    · rw [if_pos (by omega), if_pos (by omega), List.getElem?_drop, List.getElem?_drop, h.ins _ (by omega) (by omega), Held.list_blankS, Nor.get_blankL _ (by omega)]
    · rw [if_neg (by omega), if_neg (by omega)]
  · rw [h.sy, hf]
    exact ext_out fun i h1 _ => h.out i (by omega)

/-- A byte of a slot turned: the records stand, and so do the next number and what may be. -/
theorem turn_scan {f : ByteArray} (hf : f.size = 768) (k : Nat) (c : UInt8) (h : 192 ≤ k) : scanL (turnS f k c) = scanL f :=
  scan_eq ((size_turnS f k c).trans hf) hf fun i hi => by
    rw [list_turnS]
    unfold turnL
    rw [List.getElem?_set_ne (by omega)]
theorem turn_top {f : ByteArray} (hf : f.size = 768) (k : Nat) (c : UInt8) (h : 192 ≤ k) : topI (turnS f k c) = topI f := by unfold topI; rw [turn_scan hf k c h]
theorem turn_rof {f : ByteArray} {t z : Int} (h : errS f t z = 0) (k : Nat) (c : UInt8) (hk : 192 ≤ k) : f.size = 768 ∧ rofQ f t z = topI f + 1 ∧ rofT f t z = t ∧ rofZ f t z = z ∧ rofM f t z = sumI f t z ∧ rofQ (turnS f k c) t z = topI f + 1 ∧ rofT (turnS f k c) t z = t ∧ rofZ (turnS f k c) t z = z ∧ rofM (turnS f k c) t z = sumI (turnS f k c) t z ∧ errS (turnS f k c) t z = 0 := by
  cases ho : rofOk f t z with
  | false => rw [(rof_no ho).2.2.2.2] at h; cases h
  | true =>
    by_cases ht : topI f < 1048576
    · obtain ⟨hf, p1, p2, p3, p4⟩ := rofOk_parts.1 ho
      have e := turn_top hf k c hk
      have ho2 : rofOk (turnS f k c) t z = true := rofOk_parts.2 ⟨(size_turnS f k c).trans hf, p1, p2, p3, p4⟩
      obtain ⟨v1, v2, v3, v4, _⟩ := rof_yes ho ht
      obtain ⟨u1, u2, u3, u4, u5⟩ := rof_yes ho2 (by rw [e]; exact ht)
      rw [e] at u1
      exact ⟨hf, v1, v2, v3, v4, u1, u2, u3, u4, u5⟩
    · rw [(rof_full ho ht).2.2.2.2] at h; cases h
end Go.Proofs.Ythpoefaipmcceaa.Sta
