/- Steps of a flash, whole and cut short, and a text in words, as plain functions of texts and numbers; what they leave of each byte, and how two of them meet. No program is named here. -/
import Derived.Test.YtgkmallikomnaaaBagNor
import Derived.Laws.IdiomCopy
import Derived.Deep.AppendLies
import Derived.Deep.RegionWith
import Derived.Laws.Closers25
import Derived.Laws.Tables
import Derived.Deep.RegionHeld3
namespace Go.Proofs.Ytgkmallikomnaaa.Ops
open Go.Proofs.Ytgkmallikomnaaa

/-- A step: is it an erasing, where, what. -/
structure FOp where
  er : Bool
  pl : Int
  tx : ByteArray

def opMay (e : Bool) (a : Int) (t : ByteArray) : Bool := if e then decide (0 ≤ a ∧ a < 768 ∧ a % 96 = 0 ∧ t.size = 0) else decide (0 ≤ a ∧ a < 768 ∧ a % 4 = 0 ∧ t.size = 4)
def cutOk (f : ByteArray) (e : Bool) (a : Int) (t : ByteArray) (k : Int) : Bool := decide (f.size = 768) && opMay e a t && decide (0 ≤ k ∧ k ≤ 96)
def errO (ok : Bool) : Int := if ok then 0 else 300
def cutS (f : ByteArray) (e : Bool) (a : Int) (t : ByteArray) (k : Int) : ByteArray := if cutOk f e a t k then (if e then Nor.wornS f (a / 96) k else Nor.tornS f a t (min k 32)) else ⟨#[]⟩

theorem errO_t {ok : Bool} (h : ok = true) : errO ok = 0 := by rw [h]; rfl
theorem errO_f {ok : Bool} (h : ok = false) : errO ok = 300 := by rw [h]; rfl
theorem cutS_no {f : ByteArray} {e : Bool} {a : Int} {t : ByteArray} {k : Int} (h : cutOk f e a t k = false) : cutS f e a t k = ⟨#[]⟩ := by unfold cutS; rw [h]; rfl
theorem cutOk_parts {f : ByteArray} {e : Bool} {a : Int} {t : ByteArray} {k : Int} : cutOk f e a t k = true ↔ f.size = 768 ∧ opMay e a t = true ∧ 0 ≤ k ∧ k ≤ 96 := by
  unfold cutOk
  rw [Bool.and_eq_true, Bool.and_eq_true, decide_eq_true_iff, decide_eq_true_iff, and_assoc]
theorem may_er {a : Int} {t : ByteArray} : opMay true a t = true ↔ 0 ≤ a ∧ a < 768 ∧ a % 96 = 0 ∧ t.size = 0 := by unfold opMay; simp
theorem may_pr {a : Int} {t : ByteArray} : opMay false a t = true ↔ 0 ≤ a ∧ a < 768 ∧ a % 4 = 0 ∧ t.size = 4 := by unfold opMay; simp
theorem cut_er {f : ByteArray} {a : Int} {t : ByteArray} {k : Int} (h : cutOk f true a t k = true) : Nor.wornOk f (a / 96) k = true ∧ cutS f true a t k = Nor.wornS f (a / 96) k := by
  obtain ⟨h1, h2, h3, h4⟩ := cutOk_parts.1 h
  have h5 := may_er.1 h2
  refine ⟨by unfold Nor.wornOk; exact decide_eq_true ⟨h1, by omega, by omega, h3, h4⟩, ?_⟩
  unfold cutS
  rw [if_pos h]
  rfl
theorem cut_pr {f : ByteArray} {a : Int} {t : ByteArray} {k : Int} (h : cutOk f false a t k = true) : Nor.tornOk f a t (min k 32) = true ∧ cutS f false a t k = Nor.tornS f a t (min k 32) := by
  obtain ⟨h1, h2, h3, h4⟩ := cutOk_parts.1 h
  have h5 := may_pr.1 h2
  refine ⟨by unfold Nor.tornOk; exact decide_eq_true ⟨h1, by omega, by omega, h5.2.2.1, h5.2.2.2, by omega, by omega⟩, ?_⟩
  unfold cutS
  rw [if_pos h]
  rfl

/-- On lists: what a step leaves after k of its parts. -/
def stepL (f t : List UInt8) (e : Bool) (p k : Nat) : List UInt8 := if e then Nor.wornL f p k else Nor.tornL f t p (min k 32)
theorem length_stepL (f t : List UInt8) (e : Bool) (p k : Nat) : (stepL f t e p k).length = f.length := by
  unfold stepL
  cases e
  · exact Nor.length_tornL _ _ _ _
  · exact Nor.length_wornL _ _ _
theorem list_cutS {f : ByteArray} {e : Bool} {a : Int} {t : ByteArray} {k : Int} (h : cutOk f e a t k = true) : (cutS f e a t k).data.toList = stepL f.data.toList t.data.toList e a.toNat k.toNat := by
  cases e with
  | true =>
    obtain ⟨h1, h2⟩ := cut_er h
    have h5 := may_er.1 (cutOk_parts.1 h).2.1
    rw [h2, Nor.list_wornS h1]
    show Nor.wornL _ _ _ = Nor.wornL _ _ _
    congr 1
    omega
  | false =>
    obtain ⟨h1, h2⟩ := cut_pr h
    have h5 := (cutOk_parts.1 h).2.2
    rw [h2, Nor.list_tornS h1]
    show Nor.tornL _ _ _ _ = Nor.tornL _ _ _ _
    congr 1
    omega
theorem size_cutS {f : ByteArray} {e : Bool} {a : Int} {t : ByteArray} {k : Int} (h : cutOk f e a t k = true) : (cutS f e a t k).size = 768 := by
  rw [← Nor.size_list, list_cutS h, length_stepL, Nor.size_list]
  exact (cutOk_parts.1 h).1
theorem size_of_cutOk {f : ByteArray} {e : Bool} {a : Int} {t : ByteArray} {k : Int} (h : cutOk f e a t k = true) : f.size = 768 := (cutOk_parts.1 h).1
theorem cutOk_size {f g : ByteArray} (h : f.size = g.size) (e : Bool) (a : Int) (t : ByteArray) (k : Int) : cutOk f e a t k = cutOk g e a t k := by unfold cutOk; rw [h]
theorem cutOk_any (f : ByteArray) (e : Bool) (a : Int) (t : ByteArray) (j k : Int) (h1 : 0 ≤ j) (h2 : j ≤ 96) (h3 : 0 ≤ k) (h4 : k ≤ 96) : cutOk f e a t j = cutOk f e a t k := by
  unfold cutOk
  rw [decide_eq_true (show 0 ≤ j ∧ j ≤ 96 from ⟨h1, h2⟩), decide_eq_true (show 0 ≤ k ∧ k ≤ 96 from ⟨h3, h4⟩)]
theorem cutOk_mayF {f : ByteArray} {e : Bool} {a : Int} {t : ByteArray} {k : Int} (h : opMay e a t = false) : cutOk f e a t k = false := by unfold cutOk; rw [h]; simp
theorem cutOk_sizeF {f : ByteArray} {e : Bool} {a : Int} {t : ByteArray} {k : Int} (h : ¬ f.size = 768) : cutOk f e a t k = false := by unfold cutOk; rw [decide_eq_false h]; simp
theorem cutOk_cutF {f : ByteArray} {e : Bool} {a : Int} {t : ByteArray} {k : Int} (h : ¬ (0 ≤ k ∧ k ≤ 96)) : cutOk f e a t k = false := by unfold cutOk; rw [decide_eq_false h]; simp

/-- A step that was cut, done again. -/
theorem stepL_stepL (f t : List UInt8) (e : Bool) (p j k : Nat) : stepL (stepL f t e p j) t e p k = stepL f t e p (max j k) := by
  unfold stepL
  cases e
  · show Nor.tornL (Nor.tornL _ _ _ _) _ _ _ = Nor.tornL _ _ _ _
    rw [Nor.tornL_tornL]
    congr 1
    omega
  · exact Nor.wornL_wornL _ _ _ _
theorem stepL_0 (f t : List UInt8) (e : Bool) (p : Nat) : stepL f t e p 0 = f := by
  unfold stepL
  cases e
  · exact Nor.tornL_0 _ _ _
  · exact Nor.wornL_0 _ _
theorem cut_do {f : ByteArray} {e : Bool} {a : Int} {t : ByteArray} {k : Int} (h : cutOk f e a t k = true) : cutOk (cutS f e a t k) e a t 96 = true ∧ cutS (cutS f e a t k) e a t 96 = cutS f e a t 96 := by
  obtain ⟨h1, h2, h3, h4⟩ := cutOk_parts.1 h
  have e1 : cutOk f e a t 96 = true := by rw [cutOk_any f e a t 96 k (by omega) (by omega) h3 h4]; exact h
  have e2 : cutOk (cutS f e a t k) e a t 96 = true := by rw [cutOk_size ((size_cutS h).trans h1.symm)]; exact e1
  refine ⟨e2, Nor.ba_eq ?_⟩
  rw [list_cutS e2, list_cutS h, list_cutS e1, stepL_stepL]
  congr 1
  omega
theorem cut_none {f : ByteArray} {e : Bool} {a : Int} {t : ByteArray} (h : cutOk f e a t 0 = true) : cutS f e a t 0 = f := by
  apply Nor.ba_eq
  rw [list_cutS h]
  exact stepL_0 _ _ _ _

theorem get_stepL (f t : List UInt8) (e : Bool) (p k i : Nat) : ∃ g : UInt8 → UInt8, (stepL f t e p k)[i]? = f[i]?.map (fun c => if p ≤ i ∧ i < p + (if e then k else 4) then g c else c) ∧ ∀ f' : List UInt8, (stepL f' t e p k)[i]? = f'[i]?.map (fun c => if p ≤ i ∧ i < p + (if e then k else 4) then g c else c) := by
  cases e
  · exact ⟨_, Nor.get_tornL f t p (min k 32) i, fun f' => Nor.get_tornL f' t p (min k 32) i⟩
  · exact ⟨fun _ => 255, Nor.get_wornL f p k i, fun f' => Nor.get_wornL f' p k i⟩
/-- Steps at places that don't meet may be done in either row. -/
theorem stepL_apart (f s t : List UInt8) (d e : Bool) (p q j k : Nat) (h : p + (if d then j else 4) ≤ q ∨ q + (if e then k else 4) ≤ p) : stepL (stepL f s d p j) t e q k = stepL (stepL f t e q k) s d p j := by
  apply List.ext_getElem?
  intro i
  obtain ⟨g1, _, u1⟩ := get_stepL f s d p j i
  obtain ⟨g2, _, u2⟩ := get_stepL f t e q k i
  rw [u1 (stepL f t e q k), u2 (stepL f s d p j), u1 f, u2 f]
  cases f[i]? with
  | none => rfl
  | some c =>
    simp only [Option.map_some]
    generalize (if d then j else 4) = m at *
    generalize (if e then k else 4) = n at *
    by_cases h1 : p ≤ i ∧ i < p + m <;> by_cases h2 : q ≤ i ∧ i < q + n
    · omega
    · simp only [if_pos h1, if_neg h2]
    · simp only [if_neg h1, if_pos h2]
    · simp only [if_neg h1, if_neg h2]
theorem apart {f : ByteArray} {d e : Bool} {a b : Int} {s t : ByteArray} (h : cutOk f d a s 96 = true) (g : cutOk f e b t 96 = true) (hn : ¬ (a < b + (if e then 96 else 4) ∧ b < a + (if d then 96 else 4))) :
    cutOk (cutS f d a s 96) e b t 96 = true ∧ cutOk (cutS f e b t 96) d a s 96 = true ∧ cutS (cutS f d a s 96) e b t 96 = cutS (cutS f e b t 96) d a s 96 := by
  have hz := size_of_cutOk h
  have e1 : cutOk (cutS f d a s 96) e b t 96 = true := by rw [cutOk_size ((size_cutS h).trans hz.symm)]; exact g
  have e2 : cutOk (cutS f e b t 96) d a s 96 = true := by rw [cutOk_size ((size_cutS g).trans hz.symm)]; exact h
  refine ⟨e1, e2, Nor.ba_eq ?_⟩
  have ha : 0 ≤ a := by
    have := (cutOk_parts.1 h).2.1
    cases d
    · exact (may_pr.1 this).1
    · exact (may_er.1 this).1
  have hb : 0 ≤ b := by
    have := (cutOk_parts.1 g).2.1
    cases e
    · exact (may_pr.1 this).1
    · exact (may_er.1 this).1
  rw [list_cutS e1, list_cutS e2, list_cutS h, list_cutS g]
  refine stepL_apart _ _ _ _ _ _ _ _ _ ?_
  show a.toNat + (if d = true then 96 else 4) ≤ b.toNat ∨ b.toNat + (if e = true then 96 else 4) ≤ a.toNat
  cases d <;> cases e <;> simp at hn ⊢ <;> omega

/-- A text in words of four, the last one filled. -/
def wordL (l : List UInt8) (i : Nat) : List UInt8 := [l.getD (4 * i) 255, l.getD (4 * i + 1) 255, l.getD (4 * i + 2) 255, l.getD (4 * i + 3) 255]
def wordS (t : ByteArray) (i : Nat) : ByteArray := ⟨(wordL t.data.toList i).toArray⟩
def wordsOk (a : Int) (t : ByteArray) : Bool := decide (0 ≤ a ∧ a ≤ 768 ∧ a % 4 = 0 ∧ (t.size : Int) ≤ 768 - a)
def wordsN (t : ByteArray) : Nat := (t.size + 3) / 4
def wordsTo (a : Int) (t : ByteArray) (n : Nat) : List FOp := (List.range n).map fun (i : Nat) => ⟨false, a + 4 * (i : Int), wordS t i⟩
def wordsL (a : Int) (t : ByteArray) : List FOp := if wordsOk a t then wordsTo a t (wordsN t) else []
theorem wordsTo_succ (a : Int) (t : ByteArray) (n : Nat) : wordsTo a t (n + 1) = wordsTo a t n ++ [⟨false, a + 4 * (n : Int), wordS t n⟩] := by unfold wordsTo; rw [List.range_succ, List.map_append]; rfl
theorem length_wordsTo (a : Int) (t : ByteArray) (n : Nat) : (wordsTo a t n).length = n := by simp [wordsTo]
theorem get_wordsTo (a : Int) (t : ByteArray) (n i : Nat) (h : i < (wordsTo a t n).length) : (wordsTo a t n)[i] = ⟨false, a + 4 * (i : Int), wordS t i⟩ := by simp [wordsTo]
theorem wordsL_ok {a : Int} {t : ByteArray} (h : wordsOk a t = true) : wordsL a t = wordsTo a t (wordsN t) := by unfold wordsL; rw [if_pos h]
theorem wordsL_no {a : Int} {t : ByteArray} (h : wordsOk a t = false) : wordsL a t = [] := by unfold wordsL; rw [h]; rfl
theorem size_wordS (t : ByteArray) (i : Nat) : (wordS t i).size = 4 := rfl
theorem wordsOk_parts {a : Int} {t : ByteArray} : wordsOk a t = true ↔ 0 ≤ a ∧ a ≤ 768 ∧ a % 4 = 0 ∧ (t.size : Int) ≤ 768 - a := by unfold wordsOk; rw [decide_eq_true_iff]
/-- Each of a text's words may be a step. -/
theorem wordsMay {a : Int} {t : ByteArray} (h : wordsOk a t = true) (i : Nat) (hi : i < wordsN t) : opMay false (a + 4 * (i : Int)) (wordS t i) = true := by
  rw [may_pr]
  have := wordsOk_parts.1 h
  unfold wordsN at hi
  exact ⟨by omega, by omega, by omega, size_wordS t i⟩
/-- What stands behind so many words on a blank flash. -/
def wroteL (l : List UInt8) (p n : Nat) : List UInt8 := Nor.blankL.mapIdx fun i c => if p ≤ i ∧ i < p + 4 * n then l.getD (i - p) 255 else c
theorem get_wroteL (l : List UInt8) (p n i : Nat) : (wroteL l p n)[i]? = Nor.blankL[i]?.map fun c => if p ≤ i ∧ i < p + 4 * n then l.getD (i - p) 255 else c := by simp [wroteL]
theorem length_wroteL (l : List UInt8) (p n : Nat) : (wroteL l p n).length = 768 := by unfold wroteL; rw [List.length_mapIdx, Nor.length_blankL]
theorem wroteL_0 (l : List UInt8) (p : Nat) : wroteL l p 0 = Nor.blankL := by
  apply List.ext_getElem?
  intro i
  rw [get_wroteL]
  cases Nor.blankL[i]? with
  | none => rfl
  | some c => simp only [Option.map_some]; rw [if_neg (by omega)]
theorem and_ff (b : UInt8) : 255 &&& b = b := by
  have h : ∀ n : Fin 256, 255 &&& UInt8.ofNat n.val = UInt8.ofNat n.val := by decide +kernel
  have := h ⟨b.toNat, b.toNat_lt⟩
  simpa using this
theorem wordL_get (l : List UInt8) (i j : Nat) (h : j < 4) : (wordL l i).getD j 0 = l.getD (4 * i + j) 255 := by
  obtain rfl | rfl | rfl | rfl : j = 0 ∨ j = 1 ∨ j = 2 ∨ j = 3 := by omega
  all_goals rfl
theorem wroteL_succ (l : List UInt8) (p n : Nat) : Nor.tornL (wroteL l p n) (wordL l n) (p + 4 * n) 32 = wroteL l p (n + 1) := by
  apply List.ext_getElem?
  intro i
  rw [Nor.get_tornL, get_wroteL, get_wroteL]
  by_cases hi : i < 768
  · rw [Nor.get_blankL i hi]
    simp only [Option.map_some]
    by_cases h1 : p + 4 * n ≤ i ∧ i < p + 4 * n + 4
    · rw [if_pos h1, if_neg (by omega), if_pos (by omega), Nor.keep_8 _ _ (by omega), and_ff, wordL_get _ _ _ (by omega), show 4 * n + (i - (p + 4 * n)) = i - p from by omega]
    · rw [if_neg h1]
      by_cases h2 : p ≤ i ∧ i < p + 4 * n
      · rw [if_pos h2, if_pos (by omega)]
      · rw [if_neg h2, if_neg (by omega)]
  · rw [List.getElem?_eq_none (by rw [Nor.length_blankL]; omega)]
    rfl
def wroteS (t : ByteArray) (p n : Nat) : ByteArray := ⟨(wroteL t.data.toList p n).toArray⟩
theorem mk_toList (l : List UInt8) : (ByteArray.mk l.toArray).data.toList = l := rfl
theorem list_wroteS (t : ByteArray) (p n : Nat) : (wroteS t p n).data.toList = wroteL t.data.toList p n := mk_toList _
theorem size_wroteS (t : ByteArray) (p n : Nat) : (wroteS t p n).size = 768 := by rw [← Nor.size_list, list_wroteS, length_wroteL]
theorem wroteS_0 (t : ByteArray) (p : Nat) : wroteS t p 0 = Nor.blankS := by unfold wroteS; rw [wroteL_0]; rfl
theorem wrote_step {p : Nat} {t : ByteArray} (h : wordsOk (p : Int) t = true) (i : Nat) (hi : i < wordsN t) : cutOk (wroteS t p i) false ((p : Int) + 4 * (i : Int)) (wordS t i) 96 = true ∧ cutS (wroteS t p i) false ((p : Int) + 4 * (i : Int)) (wordS t i) 96 = wroteS t p (i + 1) := by
  have e : cutOk (wroteS t p i) false ((p : Int) + 4 * (i : Int)) (wordS t i) 96 = true := cutOk_parts.2 ⟨size_wroteS t p i, wordsMay h i hi, by omega, by omega⟩
  refine ⟨e, Nor.ba_eq ?_⟩
  have hs : ∀ (f t : List UInt8) (q : Nat), stepL f t false q 96 = Nor.tornL f t q 32 := fun _ _ _ => rfl
  have h96 : (96 : Int).toNat = 96 := rfl
  rw [list_cutS e, list_wroteS, list_wroteS, h96, hs, show ((p : Int) + 4 * (i : Int)).toNat = p + 4 * i from by omega]
  exact wroteL_succ _ _ _
theorem wrote_mid {p : Nat} {t : ByteArray} (h : wordsOk (p : Int) t = true) : ((wroteL t.data.toList p (wordsN t)).drop p).take t.size = t.data.toList := by
  have hk := wordsOk_parts.1 h
  have hn : t.size ≤ 4 * wordsN t := by unfold wordsN; omega
  apply List.ext_getElem?
  intro i
  by_cases hi : i < t.size
  · rw [List.getElem?_take_of_lt hi, List.getElem?_drop, get_wroteL, Nor.get_blankL _ (by omega)]
    simp only [Option.map_some]
    rw [if_pos (by omega), show p + i - p = i from by omega, List.getD_eq_getElem?_getD, List.getElem?_eq_getElem (by rw [Nor.size_list]; exact hi)]
    rfl
  · rw [List.getElem?_eq_none (by rw [List.length_take]; omega), List.getElem?_eq_none (by rw [Nor.size_list]; omega)]
theorem wrote_head (t : ByteArray) (p n : Nat) : (wroteL t.data.toList p n).take p = Nor.blankL.take p := by
  apply List.ext_getElem?
  intro i
  by_cases hi : i < p
  · rw [List.getElem?_take_of_lt hi, List.getElem?_take_of_lt hi, get_wroteL]
    cases Nor.blankL[i]? with
    | none => rfl
    | some c => simp only [Option.map_some]; rw [if_neg (by omega)]
  · rw [List.getElem?_eq_none (by rw [List.length_take]; omega), List.getElem?_eq_none (by rw [List.length_take]; omega)]
theorem wrote_tail (t : ByteArray) (p n : Nat) : (wroteL t.data.toList p n).drop (p + t.size) = Nor.blankL.drop (p + t.size) := by
  apply List.ext_getElem?
  intro i
  rw [List.getElem?_drop, List.getElem?_drop, get_wroteL]
  by_cases hi : p + t.size + i < 768
  · rw [Nor.get_blankL _ hi]
    simp only [Option.map_some]
    by_cases h2 : p ≤ p + t.size + i ∧ p + t.size + i < p + 4 * n
    · rw [if_pos h2, List.getD_eq_getElem?_getD, List.getElem?_eq_none (by rw [Nor.size_list]; omega)]
      rfl
    · rw [if_neg h2]
  · rw [List.getElem?_eq_none (by rw [Nor.length_blankL]; omega)]
    rfl
/-- The document's way: the text filled up, then cut. -/
theorem word_of_filled (l : List UInt8) (m i : Nat) (h : 4 * i + 4 ≤ l.length + m) : ((l ++ List.replicate m 255).drop (4 * i)).take 4 = wordL l i := by
  have hg : ∀ j, j < 4 → (l ++ List.replicate m 255)[4 * i + j]? = some (l.getD (4 * i + j) 255) := by
    intro j hj
    by_cases hl : 4 * i + j < l.length
    · rw [List.getElem?_append_left hl, List.getD_eq_getElem?_getD, List.getElem?_eq_getElem hl]
      rfl
    · rw [List.getElem?_append_right (by omega), List.getElem?_replicate, if_pos (by omega), List.getD_eq_getElem?_getD, List.getElem?_eq_none (by omega)]
      rfl
  apply List.ext_getElem?
  intro j
  by_cases hj : j < 4
  · rw [List.getElem?_take_of_lt hj, List.getElem?_drop, hg j hj]
    obtain rfl | rfl | rfl | rfl : j = 0 ∨ j = 1 ∨ j = 2 ∨ j = 3 := by omega
    all_goals rfl
  · rw [List.getElem?_eq_none (by rw [List.length_take]; omega), List.getElem?_eq_none (by show 4 ≤ j; omega)]
/-- All words, one behind the other. -/
def joinTo (t : ByteArray) : Nat → ByteArray
  | 0 => ⟨#[]⟩
  | n + 1 => joinTo t n ++ wordS t n
theorem list_joinTo (t : ByteArray) (n : Nat) : (joinTo t n).data.toList = (List.range (4 * n)).map fun i => t.data.toList.getD i 255 := by
  induction n with
  | zero => rfl
  | succ n ih =>
    show (joinTo t n ++ wordS t n).data.toList = _
    rw [ByteArray.data_append, Array.toList_append, ih, show 4 * (n + 1) = 4 * n + 4 from by omega, List.range_add, List.map_append]
    rfl
theorem size_joinTo (t : ByteArray) (n : Nat) : (joinTo t n).size = 4 * n := by rw [← Nor.size_list, list_joinTo]; simp
theorem join_head (t : ByteArray) (n : Nat) (h : t.size ≤ 4 * n) : (joinTo t n).data.toList.take t.size = t.data.toList := by
  rw [list_joinTo]
  apply List.ext_getElem?
  intro i
  by_cases hi : i < t.size
  · rw [List.getElem?_take_of_lt hi, List.getElem?_map, List.getElem?_range (by omega), List.getElem?_eq_getElem (by rw [Nor.size_list]; exact hi)]
    simp only [Option.map_some]
    rw [List.getD_eq_getElem?_getD, List.getElem?_eq_getElem (by rw [Nor.size_list]; exact hi)]
    rfl
  · rw [List.getElem?_eq_none (by rw [List.length_take]; omega), List.getElem?_eq_none (by rw [Nor.size_list]; omega)]
theorem join_get (t : ByteArray) (n i : Nat) (h : t.size ≤ i) (hi : i < (joinTo t n).size) : (joinTo t n)[i] = 255 := by
  have e := Nor.ba_get (joinTo t n) i hi
  rw [size_joinTo] at hi
  rw [list_joinTo, List.getElem?_map, List.getElem?_range hi] at e
  simp only [Option.map_some] at e
  rw [List.getD_eq_getElem?_getD, List.getElem?_eq_none (by rw [Nor.size_list]; omega)] at e
  exact (Option.some.inj e).symm
end Go.Proofs.Ytgkmallikomnaaa.Ops

/- Steps in memory: a row of them that a call has made or reads, three cells a step; a text copied into a row of bytes. No program is named here. -/
namespace Go.Proofs.Ytgkmallikomnaaa.OpsRow
open Go.Proofs.Ytgkmallikomnaaa Go.RowKit Go.Proofs.Ytgkmallikomnaaa.Bytes Go.Proofs.Ytgkmallikomnaaa.Ops

def byteCells (l : List UInt8) : List Value := l.map fun b => .int .u8 (b.toNat : Int)
theorem length_byteCells (l : List UInt8) : (byteCells l).length = l.length := by simp [byteCells]
theorem get_byteCells (l : List UInt8) (j : Nat) (h : j < l.length) (h' : j < (byteCells l).length) : (byteCells l)[j] = .int .u8 (l[j].toNat : Int) := by simp [byteCells]

theorem Row.setCells {w : World} {B : Nat} {l : List UInt8} (h : Row w B l) (m : List UInt8) (hm : m.length ≤ l.length) : Row (w.setCells B 0 (byteCells m)) B (m ++ l.drop m.length) := by
  have hl : (m ++ l.drop m.length).length = l.length := by rw [List.length_append, List.length_drop]; omega
  refine ⟨fun j hj => ?_, fun j hj => ?_⟩
  · rw [hl] at hj
    by_cases e : j < m.length
    · have := World.cell?_setCells_in B (byteCells m) 0 w (fun i hi => by rw [Nat.zero_add, h.cell i (by rw [length_byteCells] at hi; omega)]; rfl) j (by rw [length_byteCells]; exact e)
      rw [Nat.zero_add] at this
      rw [this, get_byteCells m j e, List.getElem_append_left e]
    · rw [World.cell?_setCells_out B (byteCells m) 0 w _ (fun _ _ => Or.inr (by rw [length_byteCells]; show 0 + m.length ≤ j; omega)), h.cell j hj, List.getElem_append_right (by omega), List.getElem_drop]
      simp only [show m.length + (j - m.length) = j from by omega]
  · rw [hl] at hj
    rw [World.frozen?_setCells]
    exact h.free j hj
theorem below_setCells {B b : Nat} {a : World} (hb : B ≤ b) : ∀ (vs : List Value) (o : Nat) (w : World), Below B a w → Below B a (w.setCells b o vs)
  | [], _, _, h => h
  | v :: r, o, _, h => below_setCells hb r (o + 1) _ (h.setCell (p := ⟨b, o, none⟩) hb v)
theorem size_setCells (b : Nat) : ∀ (vs : List Value) (o : Nat) (w : World), (w.setCells b o vs).heap.size = w.heap.size
  | [], _, _ => rfl
  | v :: r, o, w => by
    show ((w.setCell ⟨b, o, none⟩ v).setCells b (o + 1) r).heap.size = _
    rw [size_setCells b r (o + 1) _]
    simp [World.setCell]

/-- 'copy(b, s)', b a row of bytes, s a text. -/
theorem run_copy_text {P : Program} {w : World} {B : Nat} {l : List UInt8} (hr : Row w B l) (dT sT ty e : TypeId) (n cap : Nat) (s : ByteArray) (hn : n = l.length) (hu : P.underlying dT = some (.slice e)) (hs : (P.info? e).map (·.size) = some 1) :
    (Builtin.copy_ #[dT, sT] ty #[.slice (some ⟨B, 0, none⟩) n cap, .string s]).run P w = .ok (goInt (s.data.toList.take n).length) (w.setCells B 0 (byteCells (s.data.toList.take n))) := by
  have hsz : s.data.toList.length = s.size := by rw [Array.length_toList]; rfl
  have hlen : (s.data.toList.take n).length = Nat.min s.size n := by
    rw [List.length_take, hsz]
    show min n s.size = min s.size n
    omega
  have hmin : Nat.min s.size n ≤ n := Nat.min_le_right _ _
  have hst := run_storeCells_cells (P := P) B 0 (byteCells (s.data.toList.take n)) 0 w
    (fun j hj => by rw [length_byteCells, hlen] at hj; simp only [Nat.zero_add]; rw [hr.cell j (by omega)]; rfl)
    (fun j hj => by rw [length_byteCells, hlen] at hj; simp only [Nat.zero_add]; exact hr.free j (by omega))
    (fun v hv => by unfold byteCells at hv; rw [List.mem_map] at hv; obtain ⟨b, _, rfl⟩ := hv; rfl)
  have hcells : List.take (s.size.min n) (List.map (fun b : UInt8 => Value.int .u8 (b.toNat : Int)) s.data.toList) = byteCells (s.data.toList.take n) := by
    unfold byteCells
    rw [← List.map_take]
    congr 1
    by_cases h : s.size ≤ n
    · rw [show Nat.min s.size n = s.size from Nat.min_eq_left h, List.take_of_length_le (by omega), List.take_of_length_le (by omega)]
    · rw [show Nat.min s.size n = n from Nat.min_eq_right (by omega)]
  cases hq : P.info? e with
  | none => simp [hq] at hs
  | some i =>
    have hmn : min n s.size = s.size.min n := by show min n s.size = min s.size n; omega
    simp only [Nat.zero_add] at hst
    simp [Builtin.copy_, run_underlying hu, Builtin.lenOf, Builtin.firstCells, sizeOf, typeInfo, hq]
    rw [hcells, hst, hmn]
    rfl

def cells (o : FOp) : List Value := [.bool o.er, .int .i64 o.pl, .string o.tx]
def flat (l : List FOp) : List Value := l.flatMap cells
theorem flat_append (a b : List FOp) : flat (a ++ b) = flat a ++ flat b := by unfold flat; rw [List.flatMap_append]
theorem length_flat (l : List FOp) : (flat l).length = l.length * 3 := by
  induction l with
  | nil => rfl
  | cons o l ih =>
    show (cells o ++ flat l).length = _
    rw [List.length_append, ih]
    show 3 + l.length * 3 = (l.length + 1) * 3
    omega
theorem flat_get : ∀ (l : List FOp) (i j : Nat) (h : i < l.length), j < 3 → (flat l)[i * 3 + j]? = (cells l[i])[j]?
  | o :: l, 0, j, _, hj => by
    show (cells o ++ flat l)[0 * 3 + j]? = _
    rw [Nat.zero_mul, Nat.zero_add, List.getElem?_append_left (by show j < 3; exact hj)]
    rfl
  | o :: l, i + 1, j, h, hj => by
    show (cells o ++ flat l)[(i + 1) * 3 + j]? = _
    rw [List.getElem?_append_right (by show 3 ≤ _; omega), show (i + 1) * 3 + j - (cells o).length = i * 3 + j from by show _ - 3 = _; omega, flat_get l i j (by simpa using h) hj]
    rfl
theorem flat_oneCell (l : List FOp) : ∀ u ∈ flat l, u.oneCell' = true := by
  intro u hu
  unfold flat at hu
  rw [List.mem_flatMap] at hu
  obtain ⟨o, _, ho⟩ := hu
  unfold cells at ho
  simp at ho
  rcases ho with rfl | rfl | rfl <;> rfl

/-- The steps l lie in block g, from its first cell on. -/
structure OpsIn (w : World) (g : Nat) (l : List FOp) : Prop where
  er : ∀ i (h : i < l.length), w.cell? ⟨g, i * 3, none⟩ = some (.bool l[i].er)
  pl : ∀ i (h : i < l.length), w.cell? ⟨g, i * 3 + 1, none⟩ = some (.int .i64 l[i].pl)
  tx : ∀ i (h : i < l.length), w.cell? ⟨g, i * 3 + 2, none⟩ = some (.string l[i].tx)
/-- The value v is a slice of the steps l. -/
def IsOps (w : World) (v : Value) (l : List FOp) : Prop := ∃ a cap, v = .slice a l.length cap ∧ (l = [] ∨ ∃ g, a = some ⟨g, 0, none⟩ ∧ g < w.heap.size ∧ OpsIn w g l)
theorem OpsIn.below {w w' : World} {g : Nat} {l : List FOp} (h : OpsIn w g l) {B : Nat} (hb : Below B w w') (hg : g < B) : OpsIn w' g l :=
  ⟨fun i hi => by rw [hb.cell (p := ⟨g, i * 3, none⟩) hg]; exact h.er i hi, fun i hi => by rw [hb.cell (p := ⟨g, i * 3 + 1, none⟩) hg]; exact h.pl i hi, fun i hi => by rw [hb.cell (p := ⟨g, i * 3 + 2, none⟩) hg]; exact h.tx i hi⟩
theorem IsOps.below {w w' : World} {v : Value} {l : List FOp} (h : IsOps w v l) (hb : Below w.heap.size w w') : IsOps w' v l := by
  obtain ⟨a, cap, rfl, h⟩ := h
  refine ⟨a, cap, rfl, ?_⟩
  rcases h with h | ⟨g, rfl, hg, ho⟩
  · exact .inl h
  · exact .inr ⟨g, rfl, Nat.lt_of_lt_of_le hg hb.size, ho.below hb hg⟩
theorem owns_in {w : World} {base : Nat} {e : TypeId} {g cap n : Nat} {l : List FOp} (h : w.ownsRow base e 3 (.slice (some ⟨g, 0, none⟩) n cap) n (flat l)) : n = l.length ∧ g < w.heap.size ∧ OpsIn w g l := by
  have hn : n = l.length := by have := h.1; rw [length_flat] at this; omega
  subst hn
  refine ⟨rfl, (h.lt g rfl).2, ?_, ?_, ?_⟩
  · intro i hi
    have := h.cellAt (i * 3) (by omega)
    rw [this]
    exact flat_get l i 0 hi (by omega)
  · intro i hi
    have := h.cellAt (i * 3 + 1) (by omega)
    rw [this]
    exact flat_get l i 1 hi (by omega)
  · intro i hi
    have := h.cellAt (i * 3 + 2) (by omega)
    rw [this]
    exact flat_get l i 2 hi (by omega)
theorem owns_is {w : World} {base : Nat} {e : TypeId} {v : Value} {n : Nat} {l : List FOp} (h : w.ownsRow base e 3 v n (flat l)) : IsOps w v l := by
  have hn : n = l.length := by have := h.1; rw [length_flat] at this; omega
  subst hn
  have h2 := h.2
  rcases h2 with ⟨rfl, h0⟩ | ⟨g, cap, cur, rfl, _⟩
  · exact ⟨none, 0, by rw [h0], .inl (List.length_eq_zero_iff.1 h0)⟩
  · obtain ⟨_, h1, h2⟩ := owns_in h
    exact ⟨_, cap, rfl, .inr ⟨g, rfl, h1, h2⟩⟩
/-- Behind a call that leaves what was there, what was owned is owned. -/
theorem owns_below {w w' : World} {base : Nat} {e : TypeId} {size : Nat} {v : Value} {n : Nat} {xs : List Value} (h : w.ownsRow base e size v n xs) (hb : Below w.heap.size w w') : w'.ownsRow base e size v n xs := by
  refine ⟨h.1, ?_⟩
  rcases h.2 with h0 | ⟨g, cap, cur, rfl, hg, hc, rest⟩
  · exact .inl h0
  · refine .inr ⟨g, cap, cur, rfl, hg, ?_, rest⟩
    have hlt := (h.lt g rfl).2
    rw [hb.block g hlt]
    exact hc
theorem owns_nil (w : World) (base : Nat) (e : TypeId) : w.ownsRow base e 3 (.slice none 0 0) 0 (flat []) := ⟨rfl, .inl ⟨rfl, rfl⟩⟩
/-- A struct of three cells in a block of its own, and behind a call that leaves what was there. -/
theorem boxB {w w' : World} {B : Nat} {x y z : Value} (h : B < w.heap.size ∧ w.cell? ⟨B, 0, none⟩ = some x ∧ w.cell? ⟨B, 1, none⟩ = some y ∧ w.cell? ⟨B, 2, none⟩ = some z) (hb : Below w.heap.size w w') :
    B < w'.heap.size ∧ w'.cell? ⟨B, 0, none⟩ = some x ∧ w'.cell? ⟨B, 1, none⟩ = some y ∧ w'.cell? ⟨B, 2, none⟩ = some z := by
  obtain ⟨h0, h1, h2, h3⟩ := h
  exact ⟨Nat.lt_of_lt_of_le h0 hb.size, by rw [hb.cell (p := ⟨B, 0, none⟩) h0]; exact h1, by rw [hb.cell (p := ⟨B, 1, none⟩) h0]; exact h2, by rw [hb.cell (p := ⟨B, 2, none⟩) h0]; exact h3⟩
theorem boxM (w : World) (x y z : Value) (e : TypeId) : w.heap.size < (w.alloc (.cells #[x, y, z] e)).heap.size ∧ (w.alloc (.cells #[x, y, z] e)).cell? ⟨w.heap.size, 0, none⟩ = some x ∧ (w.alloc (.cells #[x, y, z] e)).cell? ⟨w.heap.size, 1, none⟩ = some y ∧ (w.alloc (.cells #[x, y, z] e)).cell? ⟨w.heap.size, 2, none⟩ = some z :=
  ⟨by simp, by rw [World.cell?_alloc_at _ e _ 0 rfl]; rfl, by rw [World.cell?_alloc_at _ e _ 1 rfl]; rfl, by rw [World.cell?_alloc_at _ e _ 2 rfl]; rfl⟩
theorem owns_mono {w : World} {base base' : Nat} {e : TypeId} {size : Nat} {v : Value} {n : Nat} {xs : List Value} (h : w.ownsRow base e size v n xs) (hb : base' ≤ base) : w.ownsRow base' e size v n xs := by
  refine ⟨h.1, ?_⟩
  rcases h.2 with h0 | ⟨g, cap, cur, rfl, hg, rest⟩
  · exact .inl h0
  · exact .inr ⟨g, cap, cur, rfl, Nat.le_trans hb hg, rest⟩
/-- The same behind draws: the world that the call began in is as the one that is known, but for its draws. -/
theorem thenD {w a a' b : World} (hb : Below a'.heap.size a' b) (h : Below w.heap.size w a) (e1 : a'.os = a.os) (e2 : a'.tape = a.tape) (e3 : a'.output = a.output) (e4 : a'.heap = a.heap) : Below w.heap.size w b := by
  have hs : w.heap.size ≤ a'.heap.size := by rw [e4]; exact h.size
  refine Below.trans ⟨e1.trans h.os, e2.trans h.tape, e3.trans h.output, hs, fun k hk => by rw [e4]; exact h.block k hk⟩ (hb.mono hs)
theorem boxD {w w' : World} {B : Nat} {x y z : Value} (hb : Below w.heap.size w w') (h : B < w.heap.size ∧ w.cell? ⟨B, 0, none⟩ = some x ∧ w.cell? ⟨B, 1, none⟩ = some y ∧ w.cell? ⟨B, 2, none⟩ = some z) :
    B < w'.heap.size ∧ w'.cell? ⟨B, 0, none⟩ = some x ∧ w'.cell? ⟨B, 1, none⟩ = some y ∧ w'.cell? ⟨B, 2, none⟩ = some z := boxB h hb
theorem ownsD {w w' : World} {base : Nat} {e : TypeId} {size : Nat} {v : Value} {n : Nat} {xs : List Value} (hb : Below w.heap.size w w') (h : w.ownsRow base e size v n xs) : w'.ownsRow base e size v n xs := owns_below h hb
end Go.Proofs.Ytgkmallikomnaaa.OpsRow

/- The contracts of package ops: each call returns what the plain functions give, whatever its arguments; of what was there nothing has turned. -/
namespace Go.Proofs.Ytgkmallikomnaaa.OpsWalk
open Go.Proofs.Ytgkmallikomnaaa Go.RowKit Go.Proofs.Ytgkmallikomnaaa.Bytes Go.Proofs.Ytgkmallikomnaaa.NorWalk Go.Proofs.Ytgkmallikomnaaa.Ops Go.Proofs.Ytgkmallikomnaaa.OpsRow

def begB (a n : Int) : Bool := decide (0 ≤ a ∧ a < 768 ∧ a % n = 0)
theorem may_begins (e : Bool) (a : Int) (t : ByteArray) : opMay e a t = if e then (begB a 96 && decide (t.size = 0)) else (begB a 4 && decide (t.size = 4)) := by
  unfold opMay begB
  cases e
  · rw [if_neg (by simp), if_neg (by simp), Bool.eq_iff_iff, Bool.and_eq_true, decide_eq_true_iff, decide_eq_true_iff, decide_eq_true_iff, and_assoc, and_assoc]
  · rw [if_pos rfl, if_pos rfl, Bool.eq_iff_iff, Bool.and_eq_true, decide_eq_true_iff, decide_eq_true_iff, decide_eq_true_iff, and_assoc, and_assoc]
theorem size_four (t : ByteArray) : (((t.size : Nat) : Int) == 4) = decide (t.size = 4) := by
  rw [Bool.eq_iff_iff, beq_iff_eq, decide_eq_true_iff]
  omega

theorem cutOk_f {f : ByteArray} {e : Bool} {a : Int} {t : ByteArray} {k : Int} (h : cutOk f e a t k = false) : mayB f = false ∨ mayB f = true ∧ opMay e a t = false ∨ mayB f = true ∧ opMay e a t = true ∧ k < 0 ∨ mayB f = true ∧ opMay e a t = true ∧ ¬ k < 0 ∧ 96 < k := by
  unfold cutOk at h
  unfold mayB
  by_cases h1 : f.size = 768 <;> cases h2 : opMay e a t <;> by_cases h3 : k < 0 <;> by_cases h4 : 96 < k
  all_goals simp [h1, h2, h3, h4] at h ⊢
  all_goals omega
theorem size_alloc1 (w : World) (o : Obj) : w.heap.size < (w.alloc o).heap.size := by simp

theorem info_u8 : (Try.prog.info? 5).map (fun i => (i.zero, i.size, i.bytes)) = some (some (.int .u8 0), 1, 1) := by kernel_rfl
theorem size_u8 : (Try.prog.info? 5).map (·.size) = some 1 := by kernel_rfl
theorem fill_ff (k : Nat) : fillTo (fun _ => 255) k k = List.replicate k 255 := by
  rw [fillTo_full]
  apply List.ext_getElem
  · simp
  · intro i h1 h2
    simp
theorem first_list (l : List UInt8) : l.take 4 ++ List.drop (l.take 4).length (List.replicate 4 (255 : UInt8)) = wordL l 0 := by
  match l with
  | [] => rfl
  | [_] => rfl
  | [_, _] => rfl
  | [_, _, _] => rfl
  | _ :: _ :: _ :: _ :: _ => rfl
theorem below_sizes {w wr : World} (h : Below w.heap.size w wr) : w.heap.size ≤ wr.heap.size := h.size

theorem word_tail (t : ByteArray) (j : Nat) : wordS (t.extract (4 * j) t.size) 0 = wordS t j := by
  unfold wordS
  rw [list_tail]
  unfold wordL
  simp [List.getD_eq_getElem?_getD, List.getElem?_drop]
end Go.Proofs.Ytgkmallikomnaaa.OpsWalk

/- The contract of ops.Words: a text in words, each a step, in a row of steps that the call has made. -/
namespace Go.Proofs.Ytgkmallikomnaaa.OpsWords
open Go.Proofs.Ytgkmallikomnaaa Go.RowKit Go.Proofs.Ytgkmallikomnaaa.Bytes Go.Proofs.Ytgkmallikomnaaa.NorWalk Go.Proofs.Ytgkmallikomnaaa.Ops Go.Proofs.Ytgkmallikomnaaa.OpsRow Go.Proofs.Ytgkmallikomnaaa.OpsWalk

theorem wordsOk_f {a : Int} {t : ByteArray} (h : wordsOk a t = false) : begB a 4 = false ∧ ¬ a = 768 ∨ (0 ≤ a ∧ a ≤ 768 ∧ (begB a 4 = true ∨ begB a 4 = false ∧ a = 768) ∧ (768 : Int) - a < (t.size : Int)) := by
  unfold wordsOk at h
  have h' := of_decide_eq_false h
  unfold begB
  by_cases h1 : 0 ≤ a ∧ a < 768 ∧ a % 4 = 0
  · rw [decide_eq_true h1]
    exact .inr ⟨by omega, by omega, .inl rfl, by omega⟩
  · rw [decide_eq_false h1]
    by_cases h2 : a = 768
    · exact .inr ⟨by omega, by omega, .inr ⟨rfl, h2⟩, by omega⟩
    · exact .inl ⟨rfl, h2⟩
end Go.Proofs.Ytgkmallikomnaaa.OpsWords

/- The contracts of the document's own answers to package ops, and of the laws' helpers on rows of steps. -/
namespace Go.Proofs.Ytgkmallikomnaaa.OpsRef
open Go.Proofs.Ytgkmallikomnaaa Go.RowKit Go.Proofs.Ytgkmallikomnaaa.Bytes Go.Proofs.Ytgkmallikomnaaa.NorWalk Go.Proofs.Ytgkmallikomnaaa.NorRef Go.Proofs.Ytgkmallikomnaaa.Ops Go.Proofs.Ytgkmallikomnaaa.OpsRow Go.Proofs.Ytgkmallikomnaaa.OpsWalk

theorem may_ref (e : Bool) (a : Int) (t : ByteArray) : opMay e a t = if e then (upToB a 0 672 && decide (a % 96 = 0) && decide (t.size = 0)) else (wordB a && decide (t.size = 4)) := by
  unfold opMay upToB wordB
  cases e
  · rw [if_neg (by simp), if_neg (by simp), Bool.eq_iff_iff, Bool.and_eq_true, decide_eq_true_iff, decide_eq_true_iff, decide_eq_true_iff, and_assoc, and_assoc]
  · rw [if_pos rfl, if_pos rfl, Bool.eq_iff_iff, Bool.and_eq_true, Bool.and_eq_true, decide_eq_true_iff, decide_eq_true_iff, decide_eq_true_iff, decide_eq_true_iff]
    omega
theorem cutOk_f2 {f : ByteArray} {e : Bool} {a : Int} {t : ByteArray} {k : Int} (h : cutOk f e a t k = false) : mayB f = false ∨ mayB f = true ∧ opMay e a t = false ∨ mayB f = true ∧ opMay e a t = true ∧ upToB k 0 96 = false := by
  unfold cutOk at h
  unfold mayB upToB
  by_cases h1 : f.size = 768 <;> cases h2 : opMay e a t <;> by_cases h3 : 0 ≤ k ∧ k ≤ 96
  all_goals simp [h1, h2, h3] at h ⊢
end Go.Proofs.Ytgkmallikomnaaa.OpsRef

/- The contracts of the laws' helpers on rows of steps, of an error's number, and of the document's own words of a text. -/
namespace Go.Proofs.Ytgkmallikomnaaa.OpsHelp
open Go.Proofs.Ytgkmallikomnaaa Go.RowKit Go.Proofs.Ytgkmallikomnaaa.Bytes Go.Proofs.Ytgkmallikomnaaa.NorWalk Go.Proofs.Ytgkmallikomnaaa.Ops Go.Proofs.Ytgkmallikomnaaa.OpsRow Go.Proofs.Ytgkmallikomnaaa.OpsWalk
theorem num_any (n : Int) (w : World) : Calls Try.prog 11 #[.int .i64 n] w fun e w' => e = .returned (.int .i64 n) ∧ w' = w := by
  go_enter Try.func11, Try.ntmps11
  go_wp2
  go_ret
  exact ⟨rfl, rfl⟩
end Go.Proofs.Ytgkmallikomnaaa.OpsHelp

/- A drawn region taken operation by operation: one taken first, one left out; their side conditions told once. No program is named here. -/
namespace Go.Proofs.Ytgkmallikomnaaa.Take
open Go.Proofs.Ytgkmallikomnaaa Go.RowKit
variable {P : Program} {md : Region.Mode} {ops : Array Oper} {Q : Exit → Act → World → Prop} {S : World → Prop}
theorem tk (i : Nat) {oi : Oper} {v : Value} {fuel : Nat} {listed : Array Bool} {a : Act} {w : World}
    (h : wpAnyH P md ops Q S fuel (listed.setIfInBounds i true) (a.put oi.dst v) w)
    (hi : ops[i]? = some oi := by (simp only [List.getElem?_toArray, List.getElem?_cons_zero, List.getElem?_cons_succ]; try rfl)) (hs : Region.noSelect ops = true := by kernel_rfl) (hf : Region.free md ops listed i = true := by kernel_rfl) (hr : (Region.ready md ops listed).contains i = true := by kernel_rfl)
    (hw : Region.wanted oi (yielded ops a.tmps) = true := by rfl)
    (hy : ∀ w, S w → (execOp a.eval oi).run P w = .ok (.value v) w := by (intro w hSw; (try dsimp only at hSw); go_simp; all_goals with_reducible rfl))
    (hQ : ∀ c a w, Q (.panic c) (a.put oi.dst v) w → Q (.panic c) a w := by exact fun _ _ _ h => h)
    (hS : S w := by assumption) : wpAnyH P md ops Q S (fuel + 1) listed a w :=
  wpAnyH_take hi hs hf hr hQ (Or.inl ⟨hw, hy⟩) hS h
theorem ts (i : Nat) {oi : Oper} {fuel : Nat} {listed : Array Bool} {a : Act} {w : World}
    (h : wpAnyH P md ops Q S fuel (listed.setIfInBounds i true) (a.put oi.dst undef) w)
    (hi : ops[i]? = some oi := by (simp only [List.getElem?_toArray, List.getElem?_cons_zero, List.getElem?_cons_succ]; try rfl)) (hs : Region.noSelect ops = true := by kernel_rfl) (hf : Region.free md ops listed i = true := by kernel_rfl) (hr : (Region.ready md ops listed).contains i = true := by kernel_rfl)
    (hw : Region.wanted oi (yielded ops a.tmps) = false := by rfl)
    (hQ : ∀ c a w, Q (.panic c) (a.put oi.dst undef) w → Q (.panic c) a w := by exact fun _ _ _ h => h)
    (hS : S w := by assumption) : wpAnyH P md ops Q S (fuel + 1) listed a w :=
  wpAnyH_take hi hs hf hr hQ (Or.inr ⟨hw, rfl⟩) hS h
end Go.Proofs.Ytgkmallikomnaaa.Take
