/- The journal as plain functions of a flash: the records of its places, the first blank place of a sector; what an erasing and what a record that is put leave of them. No program is named here. -/
import Derived.Test.YthpoefaipmcceaaOpsMath
import Derived.Test.YthpoefaipmcceaaEntMath
namespace Go.Proofs.Ythpoefaipmcceaa.Jou
open Go.Proofs.Ythpoefaipmcceaa Go.Proofs.Ythpoefaipmcceaa.Bytes Go.Proofs.Ythpoefaipmcceaa.Ent

/-- A record and where it stands. -/
structure FPl where
  pa : Int
  pq : Int
  pt : Int
  pz : Int
  pm : Int

def slotS (f : ByteArray) (j : Nat) : ByteArray := f.extract (24 * j) (24 * j + 24)
def recAt (f : ByteArray) (j : Nat) : FPl := ⟨24 * (j : Int), gq (slotS f j), gt (slotS f j), gz (slotS f j), gm (slotS f j)⟩
def foundTo (f : ByteArray) (n : Nat) : List FPl := ((List.range n).filter fun j => getOk (slotS f j)).map (recAt f)
theorem foundTo_0 (f : ByteArray) : foundTo f 0 = [] := rfl
theorem foundTo_yes (f : ByteArray) (n : Nat) (h : getOk (slotS f n) = true) : foundTo f (n + 1) = foundTo f n ++ [recAt f n] := by
  unfold foundTo
  rw [List.range_succ, List.filter_append, List.map_append, List.filter_cons, if_pos h]
  rfl
theorem foundTo_no (f : ByteArray) (n : Nat) (h : getOk (slotS f n) = false) : foundTo f (n + 1) = foundTo f n := by
  unfold foundTo
  rw [List.range_succ, List.filter_append, List.map_append, List.filter_cons, h]
  simp
theorem foundTo_len (f : ByteArray) (n : Nat) : (foundTo f n).length ≤ n := by
  unfold foundTo
  rw [List.length_map]
  exact Nat.le_trans (List.length_filter_le _ _) (by rw [List.length_range]; exact Nat.le_refl _)
theorem foundTo_mem {f : ByteArray} {n : Nat} {p : FPl} (h : p ∈ foundTo f n) : ∃ j, j < n ∧ getOk (slotS f j) = true ∧ p = recAt f j := by
  unfold foundTo at h
  rw [List.mem_map] at h
  obtain ⟨j, hj, rfl⟩ := h
  rw [List.mem_filter, List.mem_range] at hj
  exact ⟨j, hj.1, hj.2, rfl⟩
def mayF (f : ByteArray) : Bool := decide (f.size = 768)
def scanL (f : ByteArray) : List FPl := if mayF f then foundTo f 8 else []
def errJ (ok : Bool) : Int := if ok then 0 else 500
theorem errJ_t {ok : Bool} (h : ok = true) : errJ ok = 0 := by rw [h]; rfl
theorem errJ_f {ok : Bool} (h : ok = false) : errJ ok = 500 := by rw [h]; rfl
theorem mayF_t {f : ByteArray} (h : f.size = 768) : mayF f = true := by unfold mayF; exact decide_eq_true h
theorem mayF_f {f : ByteArray} (h : ¬ f.size = 768) : mayF f = false := by unfold mayF; exact decide_eq_false h
theorem scan_ok {f : ByteArray} (h : f.size = 768) : scanL f = foundTo f 8 := by unfold scanL; rw [mayF_t h]; rfl
theorem scan_no {f : ByteArray} (h : ¬ f.size = 768) : scanL f = [] := by unfold scanL; rw [mayF_f h]; rfl
theorem scan_len (f : ByteArray) : (scanL f).length ≤ 8 := by
  by_cases h : f.size = 768
  · rw [scan_ok h]; exact foundTo_len f 8
  · rw [scan_no h]; simp
/-- Each record that is told may be one, and stands in a place of the first two sectors. -/
theorem scan_mem {f : ByteArray} {p : FPl} (h : p ∈ scanL f) : f.size = 768 ∧ recMay p.pq p.pt p.pz p.pm = true ∧ 0 ≤ p.pa ∧ p.pa ≤ 168 := by
  by_cases hf : f.size = 768
  · rw [scan_ok hf] at h
    obtain ⟨j, hj, hg, rfl⟩ := foundTo_mem h
    exact ⟨hf, (put_get hg).1, by show 0 ≤ 24 * (j : Int); omega, by show 24 * (j : Int) ≤ 168; omega⟩
  · rw [scan_no hf] at h
    cases h

def full24 : ByteArray := ⟨(List.replicate 24 255).toArray⟩
theorem list_full24 : full24.data.toList = List.replicate 24 255 := rfl
theorem size_full24 : full24.size = 24 := rfl
theorem get_full24 : getOk full24 = false := by decide +kernel
theorem list_slotS (f : ByteArray) (j : Nat) : (slotS f j).data.toList = (f.data.toList.drop (24 * j)).take 24 := by
  unfold slotS
  rw [list_extract, show 24 * j + 24 - 24 * j = 24 from by omega]
theorem size_slotS {f : ByteArray} {j : Nat} (hf : f.size = 768) (hj : j < 32) : (slotS f j).size = 24 := by
  unfold slotS
  rw [ByteArray.size_extract]
  omega
def blankP (f : ByteArray) (j : Nat) : Bool := decide (slotS f j = full24)
theorem blankP_t {f : ByteArray} {j : Nat} (h : slotS f j = full24) : blankP f j = true := by unfold blankP; exact decide_eq_true h
theorem blankP_f {f : ByteArray} {j : Nat} (h : ¬ slotS f j = full24) : blankP f j = false := by unfold blankP; exact decide_eq_false h
def freeFrom (f : ByteArray) (k n : Nat) : Option Nat := (List.range' k n).find? (blankP f)
theorem freeFrom_none (f : ByteArray) (k n : Nat) (h : ∀ i, k ≤ i → i < k + n → blankP f i = false) : freeFrom f k n = none := by
  unfold freeFrom
  rw [List.find?_eq_none]
  intro i hi
  rw [List.mem_range'_1] at hi
  rw [h i hi.1 hi.2]
  simp
theorem freeFrom_at (f : ByteArray) : ∀ (n k j : Nat), (∀ i, k ≤ i → i < j → blankP f i = false) → blankP f j = true → k ≤ j → j < k + n → freeFrom f k n = some j
  | 0, k, j, _, _, h1, h2 => by omega
  | n + 1, k, j, h, hj, h1, h2 => by
    unfold freeFrom
    rw [List.range'_succ, List.find?_cons]
    by_cases e : k = j
    · subst e
      rw [hj]
    · rw [h k (Nat.le_refl _) (by omega)]
      exact freeFrom_at f n (k + 1) j (fun i g1 g2 => h i (by omega) g2) hj (by omega) (by omega)
theorem freeFrom_some {f : ByteArray} {k n j : Nat} (h : freeFrom f k n = some j) : k ≤ j ∧ j < k + n ∧ blankP f j = true := by
  unfold freeFrom at h
  have h1 := List.mem_of_find?_eq_some h
  have h2 := List.find?_some h
  rw [List.mem_range'_1] at h1
  exact ⟨h1.1, h1.2, h2⟩
def freeOk (f : ByteArray) (s : Int) : Bool := decide (f.size = 768 ∧ 0 ≤ s ∧ s ≤ 1)
theorem freeOk_parts {f : ByteArray} {s : Int} : freeOk f s = true ↔ f.size = 768 ∧ 0 ≤ s ∧ s ≤ 1 := by unfold freeOk; exact decide_eq_true_iff
def freeO (f : ByteArray) (s : Int) : Option Nat := if freeOk f s then freeFrom f (4 * s.toNat) 4 else none
def placeI : Option Nat → Int
  | some j => 24 * (j : Int)
  | none => 0
def freeAt (f : ByteArray) (s : Int) : Int := placeI (freeO f s)
def freeIs (f : ByteArray) (s : Int) : Bool := (freeO f s).isSome
theorem free_no {f : ByteArray} {s : Int} (h : freeOk f s = false) : freeAt f s = 0 ∧ freeIs f s = false := by
  unfold freeAt freeIs freeO
  rw [h]
  exact ⟨rfl, rfl⟩
theorem free_none {f : ByteArray} {s : Nat} (h : freeOk f (s : Int) = true) (h1 : ∀ i, 4 * s ≤ i → i < 4 * s + 4 → blankP f i = false) : freeAt f (s : Int) = 0 ∧ freeIs f (s : Int) = false := by
  unfold freeAt freeIs freeO
  rw [if_pos h, Int.toNat_natCast, freeFrom_none f _ _ h1]
  exact ⟨rfl, rfl⟩
theorem free_at {f : ByteArray} {s j : Nat} (h : freeOk f (s : Int) = true) (h1 : ∀ i, 4 * s ≤ i → i < j → blankP f i = false) (h2 : blankP f j = true) (h3 : 4 * s ≤ j) (h4 : j < 4 * s + 4) : freeAt f (s : Int) = 24 * (j : Int) ∧ freeIs f (s : Int) = true := by
  unfold freeAt freeIs freeO
  rw [if_pos h, Int.toNat_natCast, freeFrom_at f 4 _ j h1 h2 h3 h4]
  exact ⟨rfl, rfl⟩
/-- Where a place is told, it lies in that sector. -/
theorem free_in {f : ByteArray} {s : Int} (h : freeIs f s = true) : freeOk f s = true ∧ 96 * s ≤ freeAt f s ∧ freeAt f s ≤ 96 * s + 72 ∧ freeAt f s % 24 = 0 := by
  cases h0 : freeOk f s with
  | false => rw [(free_no h0).2] at h; cases h
  | true =>
    obtain ⟨_, h1, h2⟩ := freeOk_parts.1 h0
    unfold freeIs freeO at h
    rw [if_pos h0] at h
    obtain ⟨j, hj⟩ := Option.isSome_iff_exists.1 h
    obtain ⟨g1, g2, _⟩ := freeFrom_some hj
    have e : freeAt f s = 24 * (j : Int) := by unfold freeAt freeO; rw [if_pos h0, hj]; rfl
    rw [e]
    exact ⟨rfl, by omega, by omega, by omega⟩

/-- The bytes of a place, one by one. -/
theorem get_slotS (f : ByteArray) (j i : Nat) (hi : i < 24) : (slotS f j).data.toList[i]? = f.data.toList[24 * j + i]? := by
  rw [list_slotS, List.getElem?_take_of_lt hi, List.getElem?_drop]
theorem slotS_eq {f g : ByteArray} {j : Nat} (h : ∀ i, 24 * j ≤ i → i < 24 * j + 24 → f.data.toList[i]? = g.data.toList[i]?) : slotS f j = slotS g j := by
  apply ba_ext
  apply List.ext_getElem?
  intro i
  by_cases hi : i < 24
  · rw [get_slotS f j i hi, get_slotS g j i hi]
    exact h _ (by omega) (by omega)
  · have h1 : ∀ f : ByteArray, (slotS f j).data.toList[i]? = none := fun f => by
      rw [list_slotS]
      exact List.getElem?_eq_none (by rw [List.length_take]; omega)
    rw [h1 f, h1 g]
theorem slotS_is {f s : ByteArray} {j : Nat} (hs : s.size = 24) (h : ∀ i, i < 24 → f.data.toList[24 * j + i]? = s.data.toList[i]?) : slotS f j = s := by
  apply ba_ext
  apply List.ext_getElem?
  intro i
  by_cases hi : i < 24
  · rw [get_slotS f j i hi, h i hi]
  · rw [list_slotS, List.getElem?_eq_none (by rw [List.length_take]; omega), List.getElem?_eq_none (by rw [Nor.size_list]; omega)]
theorem slot_full {f : ByteArray} {j : Nat} (h : ∀ i, i < 24 → f.data.toList[24 * j + i]? = some 255) : slotS f j = full24 := by
  refine slotS_is size_full24 fun i hi => ?_
  rw [h i hi, list_full24, List.getElem?_replicate, if_pos hi]
/-- Of a flash whose places are told one by one. -/
theorem foundTo_cons {f : ByteArray} {n : Nat} (h : getOk (slotS f n) = true) (l : List FPl) (hl : foundTo f n = l) : foundTo f (n + 1) = l ++ [recAt f n] := by rw [foundTo_yes f n h, hl]
theorem recAt_put {f : ByteArray} {j : Nat} {q t z m : Int} (h : recMay q t z m = true) (hs : slotS f j = putS q t z m) : getOk (slotS f j) = true ∧ recAt f j = ⟨24 * (j : Int), q, t, z, m⟩ := by
  obtain ⟨g0, g1, g2, g3, g4⟩ := get_put h
  unfold recAt
  rw [hs, g0, g1, g2, g3, g4]
  exact ⟨rfl, rfl⟩
theorem found_one {f : ByteArray} {p : Nat} {q t z m : Int} (h : recMay q t z m = true) (hs : slotS f p = putS q t z m) (n : Nat) (ho : ∀ j, j < n → j ≠ p → slotS f j = full24) : foundTo f n = if p < n then [⟨24 * (p : Int), q, t, z, m⟩] else [] := by
  induction n with
  | zero => rw [if_neg (by omega)]; rfl
  | succ n ih =>
    have ih := ih (fun j hj => ho j (by omega))
    by_cases e : n = p
    · subst e
      obtain ⟨g1, g2⟩ := recAt_put h hs
      rw [foundTo_yes f n g1, ih, if_neg (by omega), if_pos (by omega), g2]
      rfl
    · rw [foundTo_no f n (by rw [ho n (by omega) e]; exact get_full24), ih]
      by_cases g : p < n
      · rw [if_pos g, if_pos (by omega)]
      · rw [if_neg g, if_neg (by omega)]

/-- A sector that is erased: its places are blank, the others stay. -/
theorem erased_in {f : ByteArray} {k j : Nat} (h : Nor.wornOk f (k : Int) 96 = true) (hj : j / 4 = k) : slotS (Nor.wornS f (k : Int) 96) j = full24 := by
  have hz := Nor.size_of_wornOk h
  unfold Nor.wornOk at h
  have h' := of_decide_eq_true h
  refine slot_full fun i hi => ?_
  rw [Nor.list_wornS (by unfold Nor.wornOk; exact h), Nor.get_wornL, Int.toNat_natCast, show (96 : Int).toNat = 96 from rfl, List.getElem?_eq_getElem (by rw [Nor.size_list]; omega)]
  simp only [Option.map_some]
  rw [if_pos (by omega)]
theorem erased_out {f : ByteArray} {k j : Nat} (h : Nor.wornOk f (k : Int) 96 = true) (hj : ¬ j / 4 = k) : slotS (Nor.wornS f (k : Int) 96) j = slotS f j := by
  refine slotS_eq fun i h1 h2 => ?_
  rw [Nor.list_wornS h, Nor.get_wornL, Int.toNat_natCast, show (96 : Int).toNat = 96 from rfl]
  cases f.data.toList[i]? with
  | none => rfl
  | some c => simp only [Option.map_some]; rw [if_neg (by omega)]
theorem recAt_eq {f g : ByteArray} {j : Nat} (h : slotS f j = slotS g j) : recAt f j = recAt g j := by unfold recAt; rw [h]
theorem erased_found {f : ByteArray} {k : Nat} (h : Nor.wornOk f (k : Int) 96 = true) (n : Nat) : foundTo (Nor.wornS f (k : Int) 96) n = (foundTo f n).filter fun p => decide (¬ p.pa / 96 = (k : Int)) := by
  induction n with
  | zero => rfl
  | succ n ih =>
    by_cases e : n / 4 = k
    · rw [foundTo_no _ n (by rw [erased_in h e]; exact get_full24), ih]
      cases g : getOk (slotS f n) with
      | false => rw [foundTo_no f n g]
      | true =>
        rw [foundTo_yes f n g, List.filter_append, List.filter_cons, if_neg, List.filter_nil, List.append_nil]
        show ¬ decide (¬ 24 * (n : Int) / 96 = (k : Int)) = true
        rw [decide_eq_true_iff]
        omega
    · have ho := erased_out h e
      cases g : getOk (slotS f n) with
      | false => rw [foundTo_no f n g, foundTo_no _ n (by rw [ho]; exact g), ih]
      | true =>
        rw [foundTo_yes f n g, foundTo_yes _ n (by rw [ho]; exact g), ih, List.filter_append, List.filter_cons, if_pos, List.filter_nil, recAt_eq ho]
        show decide (¬ 24 * (n : Int) / 96 = (k : Int)) = true
        rw [decide_eq_true_iff]
        omega
theorem erased_free {f : ByteArray} {k : Nat} (h : Nor.wornOk f (k : Int) 96 = true) (hk : k ≤ 1) : freeOk (Nor.wornS f (k : Int) 96) (k : Int) = true ∧ freeAt (Nor.wornS f (k : Int) 96) (k : Int) = 96 * (k : Int) ∧ freeIs (Nor.wornS f (k : Int) 96) (k : Int) = true := by
  have h0 : freeOk (Nor.wornS f (k : Int) 96) (k : Int) = true := freeOk_parts.2 ⟨Nor.size_wornS h, by omega, by omega⟩
  obtain ⟨h1, h2⟩ := free_at (j := 4 * k) h0 (fun i g1 g2 => by omega) (blankP_t (erased_in h (by omega))) (Nat.le_refl _) (by omega)
  exact ⟨h0, by rw [h1]; omega, h2⟩
end Go.Proofs.Ythpoefaipmcceaa.Jou
