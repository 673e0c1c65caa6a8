/- Steps of a flash, whole and cut short, and a text in words, as plain functions of texts and numbers; what they leave of each byte, and how two of them meet. No program is named here. -/
import Derived.Test.YthpoefaipmcceaaNorMath
namespace Go.Proofs.Ythpoefaipmcceaa.Ops
open Go.Proofs.Ythpoefaipmcceaa

/-- A step: is it an erasing, where, what. -/
structure FOp where
  er : Bool
  pl : Int
  tx : ByteArray

def opMay (e : Bool) (a : Int) (t : ByteArray) : Bool := if e then decide (0 ≤ a ∧ a < 768 ∧ a % 96 = 0 ∧ t.size = 0) else decide (0 ≤ a ∧ a < 768 ∧ a % 4 = 0 ∧ t.size = 4)
def cutOk (f : ByteArray) (e : Bool) (a : Int) (t : ByteArray) (k : Int) : Bool := decide (f.size = 768) && opMay e a t && decide (0 ≤ k ∧ k ≤ 96)
def errO (ok : Bool) : Int := if ok then 0 else 300
def cutS (f : ByteArray) (e : Bool) (a : Int) (t : ByteArray) (k : Int) : ByteArray := if cutOk f e a t k then (if e then Nor.wornS f (a / 96) k else Nor.tornS f a t (min k 32)) else ⟨#[]⟩

theorem errO_t {ok : Bool} (h : ok = true) : errO ok = 0 := by rw [h]; rfl
theorem errO_f {ok : Bool} (h : ok = false) : errO ok = 300 := by rw [h]; rfl
theorem cutS_no {f : ByteArray} {e : Bool} {a : Int} {t : ByteArray} {k : Int} (h : cutOk f e a t k = false) : cutS f e a t k = ⟨#[]⟩ := by unfold cutS; rw [h]; rfl
theorem cutOk_parts {f : ByteArray} {e : Bool} {a : Int} {t : ByteArray} {k : Int} : cutOk f e a t k = true ↔ f.size = 768 ∧ opMay e a t = true ∧ 0 ≤ k ∧ k ≤ 96 := by
  unfold cutOk
  rw [Bool.and_eq_true, Bool.and_eq_true, decide_eq_true_iff, decide_eq_true_iff, and_assoc]
theorem may_er {a : Int} {t : ByteArray} : opMay true a t = true ↔ 0 ≤ a ∧ a < 768 ∧ a % 96 = 0 ∧ t.size = 0 := by unfold opMay; simp
theorem may_pr {a : Int} {t : ByteArray} : opMay false a t = true ↔ 0 ≤ a ∧ a < 768 ∧ a % 4 = 0 ∧ t.size = 4 := by unfold opMay; simp
theorem cut_er {f : ByteArray} {a : Int} {t : ByteArray} {k : Int} (h : cutOk f true a t k = true) : Nor.wornOk f (a / 96) k = true ∧ cutS f true a t k = Nor.wornS f (a / 96) k := by
  obtain ⟨h1, h2, h3, h4⟩ := cutOk_parts.1 h
  have h5 := may_er.1 h2
  refine ⟨by unfold Nor.wornOk; exact decide_eq_true ⟨h1, by omega, by omega, h3, h4⟩, ?_⟩
  unfold cutS
  rw [if_pos h]
  rfl
theorem cut_pr {f : ByteArray} {a : Int} {t : ByteArray} {k : Int} (h : cutOk f false a t k = true) : Nor.tornOk f a t (min k 32) = true ∧ cutS f false a t k = Nor.tornS f a t (min k 32) := by
  obtain ⟨h1, h2, h3, h4⟩ := cutOk_parts.1 h
  have h5 := may_pr.1 h2
  refine ⟨by unfold Nor.tornOk; exact decide_eq_true ⟨h1, by omega, by omega, h5.2.2.1, h5.2.2.2, by omega, by omega⟩, ?_⟩
  unfold cutS
  rw [if_pos h]
  rfl

/-- On lists: what a step leaves after k of its parts. -/
def stepL (f t : List UInt8) (e : Bool) (p k : Nat) : List UInt8 := if e then Nor.wornL f p k else Nor.tornL f t p (min k 32)
theorem length_stepL (f t : List UInt8) (e : Bool) (p k : Nat) : (stepL f t e p k).length = f.length := by
  unfold stepL
  cases e
  · exact Nor.length_tornL _ _ _ _
  · exact Nor.length_wornL _ _ _
theorem list_cutS {f : ByteArray} {e : Bool} {a : Int} {t : ByteArray} {k : Int} (h : cutOk f e a t k = true) : (cutS f e a t k).data.toList = stepL f.data.toList t.data.toList e a.toNat k.toNat := by
  cases e with
  | true =>
    obtain ⟨h1, h2⟩ := cut_er h
    have h5 := may_er.1 (cutOk_parts.1 h).2.1
    rw [h2, Nor.list_wornS h1]
    show Nor.wornL _ _ _ = Nor.wornL _ _ _
    congr 1
    omega
  | false =>
    obtain ⟨h1, h2⟩ := cut_pr h
    have h5 := (cutOk_parts.1 h).2.2
    rw [h2, Nor.list_tornS h1]
    show Nor.tornL _ _ _ _ = Nor.tornL _ _ _ _
    congr 1
    omega
theorem size_cutS {f : ByteArray} {e : Bool} {a : Int} {t : ByteArray} {k : Int} (h : cutOk f e a t k = true) : (cutS f e a t k).size = 768 := by
  rw [← Nor.size_list, list_cutS h, length_stepL, Nor.size_list]
  exact (cutOk_parts.1 h).1
theorem size_of_cutOk {f : ByteArray} {e : Bool} {a : Int} {t : ByteArray} {k : Int} (h : cutOk f e a t k = true) : f.size = 768 := (cutOk_parts.1 h).1
theorem cutOk_size {f g : ByteArray} (h : f.size = g.size) (e : Bool) (a : Int) (t : ByteArray) (k : Int) : cutOk f e a t k = cutOk g e a t k := by unfold cutOk; rw [h]
theorem cutOk_any (f : ByteArray) (e : Bool) (a : Int) (t : ByteArray) (j k : Int) (h1 : 0 ≤ j) (h2 : j ≤ 96) (h3 : 0 ≤ k) (h4 : k ≤ 96) : cutOk f e a t j = cutOk f e a t k := by
  unfold cutOk
  rw [decide_eq_true (show 0 ≤ j ∧ j ≤ 96 from ⟨h1, h2⟩), decide_eq_true (show 0 ≤ k ∧ k ≤ 96 from ⟨h3, h4⟩)]
theorem cutOk_mayF {f : ByteArray} {e : Bool} {a : Int} {t : ByteArray} {k : Int} (h : opMay e a t = false) : cutOk f e a t k = false := by unfold cutOk; rw [h]; simp
theorem cutOk_sizeF {f : ByteArray} {e : Bool} {a : Int} {t : ByteArray} {k : Int} (h : ¬ f.size = 768) : cutOk f e a t k = false := by unfold cutOk; rw [decide_eq_false h]; simp
theorem cutOk_cutF {f : ByteArray} {e : Bool} {a : Int} {t : ByteArray} {k : Int} (h : ¬ (0 ≤ k ∧ k ≤ 96)) : cutOk f e a t k = false := by unfold cutOk; rw [decide_eq_false h]; simp

/-- A step that was cut, done again. -/
theorem stepL_stepL (f t : List UInt8) (e : Bool) (p j k : Nat) : stepL (stepL f t e p j) t e p k = stepL f t e p (max j k) := by
  unfold stepL
  cases e
  · show Nor.tornL (Nor.tornL _ _ _ _) _ _ _ = Nor.tornL _ _ _ _
    rw [Nor.tornL_tornL]
    congr 1
    omega
  · exact Nor.wornL_wornL _ _ _ _
theorem stepL_0 (f t : List UInt8) (e : Bool) (p : Nat) : stepL f t e p 0 = f := by
  unfold stepL
  cases e
  · exact Nor.tornL_0 _ _ _
  · exact Nor.wornL_0 _ _
theorem cut_do {f : ByteArray} {e : Bool} {a : Int} {t : ByteArray} {k : Int} (h : cutOk f e a t k = true) : cutOk (cutS f e a t k) e a t 96 = true ∧ cutS (cutS f e a t k) e a t 96 = cutS f e a t 96 := by
  obtain ⟨h1, h2, h3, h4⟩ := cutOk_parts.1 h
  have e1 : cutOk f e a t 96 = true := by rw [cutOk_any f e a t 96 k (by omega) (by omega) h3 h4]; exact h
  have e2 : cutOk (cutS f e a t k) e a t 96 = true := by rw [cutOk_size ((size_cutS h).trans h1.symm)]; exact e1
  refine ⟨e2, Nor.ba_eq ?_⟩
  rw [list_cutS e2, list_cutS h, list_cutS e1, stepL_stepL]
  congr 1
  omega
theorem cut_none {f : ByteArray} {e : Bool} {a : Int} {t : ByteArray} (h : cutOk f e a t 0 = true) : cutS f e a t 0 = f := by
  apply Nor.ba_eq
  rw [list_cutS h]
  exact stepL_0 _ _ _ _

theorem get_stepL (f t : List UInt8) (e : Bool) (p k i : Nat) : ∃ g : UInt8 → UInt8, (stepL f t e p k)[i]? = f[i]?.map (fun c => if p ≤ i ∧ i < p + (if e then k else 4) then g c else c) ∧ ∀ f' : List UInt8, (stepL f' t e p k)[i]? = f'[i]?.map (fun c => if p ≤ i ∧ i < p + (if e then k else 4) then g c else c) := by
  cases e
  · exact ⟨_, Nor.get_tornL f t p (min k 32) i, fun f' => Nor.get_tornL f' t p (min k 32) i⟩
  · exact ⟨fun _ => 255, Nor.get_wornL f p k i, fun f' => Nor.get_wornL f' p k i⟩
/-- Steps at places that don't meet may be done in either row. -/
theorem stepL_apart (f s t : List UInt8) (d e : Bool) (p q j k : Nat) (h : p + (if d then j else 4) ≤ q ∨ q + (if e then k else 4) ≤ p) : stepL (stepL f s d p j) t e q k = stepL (stepL f t e q k) s d p j := by
  apply List.ext_getElem?
  intro i
  obtain ⟨g1, _, u1⟩ := get_stepL f s d p j i
  obtain ⟨g2, _, u2⟩ := get_stepL f t e q k i
  rw [u1 (stepL f t e q k), u2 (stepL f s d p j), u1 f, u2 f]
  cases f[i]? with
  | none => rfl
  | some c =>
    simp only [Option.map_some]
    generalize (if d then j else 4) = m at *
    generalize (if e then k else 4) = n at *
    by_cases h1 : p ≤ i ∧ i < p + m <;> by_cases h2 : q ≤ i ∧ i < q + n
    · omega
    · simp only [if_pos h1, if_neg h2]
    · simp only [if_neg h1, if_pos h2]
    · simp only [if_neg h1, if_neg h2]
theorem apart {f : ByteArray} {d e : Bool} {a b : Int} {s t : ByteArray} (h : cutOk f d a s 96 = true) (g : cutOk f e b t 96 = true) (hn : ¬ (a < b + (if e then 96 else 4) ∧ b < a + (if d then 96 else 4))) :
    cutOk (cutS f d a s 96) e b t 96 = true ∧ cutOk (cutS f e b t 96) d a s 96 = true ∧ cutS (cutS f d a s 96) e b t 96 = cutS (cutS f e b t 96) d a s 96 := by
  have hz := size_of_cutOk h
  have e1 : cutOk (cutS f d a s 96) e b t 96 = true := by rw [cutOk_size ((size_cutS h).trans hz.symm)]; exact g
  have e2 : cutOk (cutS f e b t 96) d a s 96 = true := by rw [cutOk_size ((size_cutS g).trans hz.symm)]; exact h
  refine ⟨e1, e2, Nor.ba_eq ?_⟩
  have ha : 0 ≤ a := by
    have := (cutOk_parts.1 h).2.1
    cases d
    · exact (may_pr.1 this).1
    · exact (may_er.1 this).1
  have hb : 0 ≤ b := by
    have := (cutOk_parts.1 g).2.1
    cases e
    · exact (may_pr.1 this).1
    · exact (may_er.1 this).1
  rw [list_cutS e1, list_cutS e2, list_cutS h, list_cutS g]
  refine stepL_apart _ _ _ _ _ _ _ _ _ ?_
  show a.toNat + (if d = true then 96 else 4) ≤ b.toNat ∨ b.toNat + (if e = true then 96 else 4) ≤ a.toNat
  cases d <;> cases e <;> simp at hn ⊢ <;> omega

/-- A text in words of four, the last one filled. -/
def wordL (l : List UInt8) (i : Nat) : List UInt8 := [l.getD (4 * i) 255, l.getD (4 * i + 1) 255, l.getD (4 * i + 2) 255, l.getD (4 * i + 3) 255]
def wordS (t : ByteArray) (i : Nat) : ByteArray := ⟨(wordL t.data.toList i).toArray⟩
def wordsOk (a : Int) (t : ByteArray) : Bool := decide (0 ≤ a ∧ a ≤ 768 ∧ a % 4 = 0 ∧ (t.size : Int) ≤ 768 - a)
def wordsN (t : ByteArray) : Nat := (t.size + 3) / 4
def wordsTo (a : Int) (t : ByteArray) (n : Nat) : List FOp := (List.range n).map fun (i : Nat) => ⟨false, a + 4 * (i : Int), wordS t i⟩
def wordsL (a : Int) (t : ByteArray) : List FOp := if wordsOk a t then wordsTo a t (wordsN t) else []
theorem wordsTo_succ (a : Int) (t : ByteArray) (n : Nat) : wordsTo a t (n + 1) = wordsTo a t n ++ [⟨false, a + 4 * (n : Int), wordS t n⟩] := by unfold wordsTo; rw [List.range_succ, List.map_append]; rfl
theorem length_wordsTo (a : Int) (t : ByteArray) (n : Nat) : (wordsTo a t n).length = n := by simp [wordsTo]
theorem get_wordsTo (a : Int) (t : ByteArray) (n i : Nat) (h : i < (wordsTo a t n).length) : (wordsTo a t n)[i] = ⟨false, a + 4 * (i : Int), wordS t i⟩ := by simp [wordsTo]
theorem wordsL_ok {a : Int} {t : ByteArray} (h : wordsOk a t = true) : wordsL a t = wordsTo a t (wordsN t) := by unfold wordsL; rw [if_pos h]
theorem wordsL_no {a : Int} {t : ByteArray} (h : wordsOk a t = false) : wordsL a t = [] := by unfold wordsL; rw [h]; rfl
theorem size_wordS (t : ByteArray) (i : Nat) : (wordS t i).size = 4 := rfl
theorem wordsOk_parts {a : Int} {t : ByteArray} : wordsOk a t = true ↔ 0 ≤ a ∧ a ≤ 768 ∧ a % 4 = 0 ∧ (t.size : Int) ≤ 768 - a := by unfold wordsOk; rw [decide_eq_true_iff]
/-- Each of a text's words may be a step. -/
theorem wordsMay {a : Int} {t : ByteArray} (h : wordsOk a t = true) (i : Nat) (hi : i < wordsN t) : opMay false (a + 4 * (i : Int)) (wordS t i) = true := by
  rw [may_pr]
  have := wordsOk_parts.1 h
  unfold wordsN at hi
  exact ⟨by omega, by omega, by omega, size_wordS t i⟩
/-- What stands behind so many words on a blank flash. -/
def wroteL (l : List UInt8) (p n : Nat) : List UInt8 := Nor.blankL.mapIdx fun i c => if p ≤ i ∧ i < p + 4 * n then l.getD (i - p) 255 else c
theorem get_wroteL (l : List UInt8) (p n i : Nat) : (wroteL l p n)[i]? = Nor.blankL[i]?.map fun c => if p ≤ i ∧ i < p + 4 * n then l.getD (i - p) 255 else c := by simp [wroteL]
theorem length_wroteL (l : List UInt8) (p n : Nat) : (wroteL l p n).length = 768 := by unfold wroteL; rw [List.length_mapIdx, Nor.length_blankL]
theorem wroteL_0 (l : List UInt8) (p : Nat) : wroteL l p 0 = Nor.blankL := by
  apply List.ext_getElem?
  intro i
  rw [get_wroteL]
  cases Nor.blankL[i]? with
  | none => rfl
  | some c => simp only [Option.map_some]; rw [if_neg (by omega)]
theorem and_ff (b : UInt8) : 255 &&& b = b := by
  have h : ∀ n : Fin 256, 255 &&& UInt8.ofNat n.val = UInt8.ofNat n.val := by decide +kernel
  have := h ⟨b.toNat, b.toNat_lt⟩
  simpa using this
theorem wordL_get (l : List UInt8) (i j : Nat) (h : j < 4) : (wordL l i).getD j 0 = l.getD (4 * i + j) 255 := by
  obtain rfl | rfl | rfl | rfl : j = 0 ∨ j = 1 ∨ j = 2 ∨ j = 3 := by omega
  all_goals rfl
theorem wroteL_succ (l : List UInt8) (p n : Nat) : Nor.tornL (wroteL l p n) (wordL l n) (p + 4 * n) 32 = wroteL l p (n + 1) := by
  apply List.ext_getElem?
  intro i
  rw [Nor.get_tornL, get_wroteL, get_wroteL]
  by_cases hi : i < 768
  · rw [Nor.get_blankL i hi]
    simp only [Option.map_some]
    by_cases h1 : p + 4 * n ≤ i ∧ i < p + 4 * n + 4
    · rw [if_pos h1, if_neg (by omega), if_pos (by omega), Nor.keep_8 _ _ (by omega), and_ff, wordL_get _ _ _ (by omega), show 4 * n + (i - (p + 4 * n)) = i - p from by omega]
    · rw [if_neg h1]
      by_cases h2 : p ≤ i ∧ i < p + 4 * n
      · rw [if_pos h2, if_pos (by omega)]
      · rw [if_neg h2, if_neg (by omega)]
  · rw [List.getElem?_eq_none (by rw [Nor.length_blankL]; omega)]
    rfl
def wroteS (t : ByteArray) (p n : Nat) : ByteArray := ⟨(wroteL t.data.toList p n).toArray⟩
theorem mk_toList (l : List UInt8) : (ByteArray.mk l.toArray).data.toList = l := rfl
theorem list_wroteS (t : ByteArray) (p n : Nat) : (wroteS t p n).data.toList = wroteL t.data.toList p n := mk_toList _
theorem size_wroteS (t : ByteArray) (p n : Nat) : (wroteS t p n).size = 768 := by rw [← Nor.size_list, list_wroteS, length_wroteL]
theorem wroteS_0 (t : ByteArray) (p : Nat) : wroteS t p 0 = Nor.blankS := by unfold wroteS; rw [wroteL_0]; rfl
theorem wrote_step {p : Nat} {t : ByteArray} (h : wordsOk (p : Int) t = true) (i : Nat) (hi : i < wordsN t) : cutOk (wroteS t p i) false ((p : Int) + 4 * (i : Int)) (wordS t i) 96 = true ∧ cutS (wroteS t p i) false ((p : Int) + 4 * (i : Int)) (wordS t i) 96 = wroteS t p (i + 1) := by
  have e : cutOk (wroteS t p i) false ((p : Int) + 4 * (i : Int)) (wordS t i) 96 = true := cutOk_parts.2 ⟨size_wroteS t p i, wordsMay h i hi, by omega, by omega⟩
  refine ⟨e, Nor.ba_eq ?_⟩
  have hs : ∀ (f t : List UInt8) (q : Nat), stepL f t false q 96 = Nor.tornL f t q 32 := fun _ _ _ => rfl
  have h96 : (96 : Int).toNat = 96 := rfl
  rw [list_cutS e, list_wroteS, list_wroteS, h96, hs, show ((p : Int) + 4 * (i : Int)).toNat = p + 4 * i from by omega]
  exact wroteL_succ _ _ _
theorem wrote_mid {p : Nat} {t : ByteArray} (h : wordsOk (p : Int) t = true) : ((wroteL t.data.toList p (wordsN t)).drop p).take t.size = t.data.toList := by
  have hk := wordsOk_parts.1 h
  have hn : t.size ≤ 4 * wordsN t := by unfold wordsN; omega
  apply List.ext_getElem?
  intro i
  by_cases hi : i < t.size
  · rw [List.getElem?_take_of_lt hi, List.getElem?_drop, get_wroteL, Nor.get_blankL _ (by omega)]
    simp only [Option.map_some]
    rw [if_pos (by omega), show p + i - p = i from by omega, List.getD_eq_getElem?_getD, List.getElem?_eq_getElem (by rw [Nor.size_list]; exact hi)]
    rfl
  · rw [List.getElem?_eq_none (by rw [List.length_take]; omega), List.getElem?_eq_none (by rw [Nor.size_list]; omega)]
theorem wrote_head (t : ByteArray) (p n : Nat) : (wroteL t.data.toList p n).take p = Nor.blankL.take p := by
  apply List.ext_getElem?
  intro i
  by_cases hi : i < p
  · rw [List.getElem?_take_of_lt hi, List.getElem?_take_of_lt hi, get_wroteL]
    cases Nor.blankL[i]? with
    | none => rfl
    | some c => simp only [Option.map_some]; rw [if_neg (by omega)]
  · rw [List.getElem?_eq_none (by rw [List.length_take]; omega), List.getElem?_eq_none (by rw [List.length_take]; omega)]
theorem wrote_tail (t : ByteArray) (p n : Nat) : (wroteL t.data.toList p n).drop (p + t.size) = Nor.blankL.drop (p + t.size) := by
  apply List.ext_getElem?
  intro i
  rw [List.getElem?_drop, List.getElem?_drop, get_wroteL]
  by_cases hi : p + t.size + i < 768
  · rw [Nor.get_blankL _ hi]
    simp only [Option.map_some]
    by_cases h2 : p ≤ p + t.size + i ∧ p + t.size + i < p + 4 * n
    · rw [if_pos h2, List.getD_eq_getElem?_getD, List.getElem?_eq_none (by rw [Nor.size_list]; omega)]
      rfl
    · rw [if_neg h2]
  · rw [List.getElem?_eq_none (by rw [Nor.length_blankL]; omega)]
    rfl
/-- The document's way: the text filled up, then cut. -/
theorem word_of_filled (l : List UInt8) (m i : Nat) (h : 4 * i + 4 ≤ l.length + m) : ((l ++ List.replicate m 255).drop (4 * i)).take 4 = wordL l i := by
  have hg : ∀ j, j < 4 → (l ++ List.replicate m 255)[4 * i + j]? = some (l.getD (4 * i + j) 255) := by
    intro j hj
    by_cases hl : 4 * i + j < l.length
    · rw [List.getElem?_append_left hl, List.getD_eq_getElem?_getD, List.getElem?_eq_getElem hl]
      rfl
    · rw [List.getElem?_append_right (by omega), List.getElem?_replicate, if_pos (by omega), List.getD_eq_getElem?_getD, List.getElem?_eq_none (by omega)]
      rfl
  apply List.ext_getElem?
  intro j
  by_cases hj : j < 4
  · rw [List.getElem?_take_of_lt hj, List.getElem?_drop, hg j hj]
    obtain rfl | rfl | rfl | rfl : j = 0 ∨ j = 1 ∨ j = 2 ∨ j = 3 := by omega
    all_goals rfl
  · rw [List.getElem?_eq_none (by rw [List.length_take]; omega), List.getElem?_eq_none (by show 4 ≤ j; omega)]
/-- All words, one behind the other. -/
def joinTo (t : ByteArray) : Nat → ByteArray
  | 0 => ⟨#[]⟩
  | n + 1 => joinTo t n ++ wordS t n
theorem list_joinTo (t : ByteArray) (n : Nat) : (joinTo t n).data.toList = (List.range (4 * n)).map fun i => t.data.toList.getD i 255 := by
  induction n with
  | zero => rfl
  | succ n ih =>
    show (joinTo t n ++ wordS t n).data.toList = _
    rw [ByteArray.data_append, Array.toList_append, ih, show 4 * (n + 1) = 4 * n + 4 from by omega, List.range_add, List.map_append]
    rfl
theorem size_joinTo (t : ByteArray) (n : Nat) : (joinTo t n).size = 4 * n := by rw [← Nor.size_list, list_joinTo]; simp
theorem join_head (t : ByteArray) (n : Nat) (h : t.size ≤ 4 * n) : (joinTo t n).data.toList.take t.size = t.data.toList := by
  rw [list_joinTo]
  apply List.ext_getElem?
  intro i
  by_cases hi : i < t.size
  · rw [List.getElem?_take_of_lt hi, List.getElem?_map, List.getElem?_range (by omega), List.getElem?_eq_getElem (by rw [Nor.size_list]; exact hi)]
    simp only [Option.map_some]
    rw [List.getD_eq_getElem?_getD, List.getElem?_eq_getElem (by rw [Nor.size_list]; exact hi)]
    rfl
  · rw [List.getElem?_eq_none (by rw [List.length_take]; omega), List.getElem?_eq_none (by rw [Nor.size_list]; omega)]
theorem join_get (t : ByteArray) (n i : Nat) (h : t.size ≤ i) (hi : i < (joinTo t n).size) : (joinTo t n)[i] = 255 := by
  have e := Nor.ba_get (joinTo t n) i hi
  rw [size_joinTo] at hi
  rw [list_joinTo, List.getElem?_map, List.getElem?_range hi] at e
  simp only [Option.map_some] at e
  rw [List.getD_eq_getElem?_getD, List.getElem?_eq_none (by rw [Nor.size_list]; omega)] at e
  exact (Option.some.inj e).symm
end Go.Proofs.Ythpoefaipmcceaa.Ops
