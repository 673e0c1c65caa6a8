/- The journal as plain functions of a flash: the records of its places, the first blank place of a sector; what an erasing and what a record that is put leave of them. No program is named here. -/
import Derived.Test.YtmlfkbkpkgaefaaGreatDoorBagOps
import Derived.Test.YtmlfkbkpkgaefaaGreatDoorBagEnt
import Derived.Test.YtmlfkbkpkgaefaaGreatDoorBagCrc
namespace Go.Proofs.YtmlfkbkpkgaefaaGreatDoor.Jou
open Go.Proofs.YtmlfkbkpkgaefaaGreatDoor Go.Proofs.YtmlfkbkpkgaefaaGreatDoor.Bytes Go.Proofs.YtmlfkbkpkgaefaaGreatDoor.Ent

/-- A record and where it stands. -/
structure FPl where
  pa : Int
  pq : Int
  pt : Int
  pz : Int
  pm : Int

def slotS (f : ByteArray) (j : Nat) : ByteArray := f.extract (24 * j) (24 * j + 24)
def recAt (f : ByteArray) (j : Nat) : FPl := ⟨24 * (j : Int), gq (slotS f j), gt (slotS f j), gz (slotS f j), gm (slotS f j)⟩
def foundTo (f : ByteArray) (n : Nat) : List FPl := ((List.range n).filter fun j => getOk (slotS f j)).map (recAt f)
theorem foundTo_0 (f : ByteArray) : foundTo f 0 = [] := rfl
theorem foundTo_yes (f : ByteArray) (n : Nat) (h : getOk (slotS f n) = true) : foundTo f (n + 1) = foundTo f n ++ [recAt f n] := by
  unfold foundTo
  rw [List.range_succ, List.filter_append, List.map_append, List.filter_cons, if_pos h]
  rfl
theorem foundTo_no (f : ByteArray) (n : Nat) (h : getOk (slotS f n) = false) : foundTo f (n + 1) = foundTo f n := by
  unfold foundTo
  rw [List.range_succ, List.filter_append, List.map_append, List.filter_cons, h]
  simp
theorem foundTo_len (f : ByteArray) (n : Nat) : (foundTo f n).length ≤ n := by
  unfold foundTo
  rw [List.length_map]
  exact Nat.le_trans (List.length_filter_le _ _) (by rw [List.length_range]; exact Nat.le_refl _)
theorem foundTo_mem {f : ByteArray} {n : Nat} {p : FPl} (h : p ∈ foundTo f n) : ∃ j, j < n ∧ getOk (slotS f j) = true ∧ p = recAt f j := by
  unfold foundTo at h
  rw [List.mem_map] at h
  obtain ⟨j, hj, rfl⟩ := h
  rw [List.mem_filter, List.mem_range] at hj
  exact ⟨j, hj.1, hj.2, rfl⟩
def mayF (f : ByteArray) : Bool := decide (f.size = 768)
def scanL (f : ByteArray) : List FPl := if mayF f then foundTo f 8 else []
def errJ (ok : Bool) : Int := if ok then 0 else 500
theorem errJ_t {ok : Bool} (h : ok = true) : errJ ok = 0 := by rw [h]; rfl
theorem errJ_f {ok : Bool} (h : ok = false) : errJ ok = 500 := by rw [h]; rfl
theorem mayF_t {f : ByteArray} (h : f.size = 768) : mayF f = true := by unfold mayF; exact decide_eq_true h
theorem mayF_f {f : ByteArray} (h : ¬ f.size = 768) : mayF f = false := by unfold mayF; exact decide_eq_false h
theorem scan_ok {f : ByteArray} (h : f.size = 768) : scanL f = foundTo f 8 := by unfold scanL; rw [mayF_t h]; rfl
theorem scan_no {f : ByteArray} (h : ¬ f.size = 768) : scanL f = [] := by unfold scanL; rw [mayF_f h]; rfl
theorem scan_len (f : ByteArray) : (scanL f).length ≤ 8 := by
  by_cases h : f.size = 768
  · rw [scan_ok h]; exact foundTo_len f 8
  · rw [scan_no h]; simp
/-- Each record that is told may be one, and stands in a place of the first two sectors. -/
theorem scan_mem {f : ByteArray} {p : FPl} (h : p ∈ scanL f) : f.size = 768 ∧ recMay p.pq p.pt p.pz p.pm = true ∧ 0 ≤ p.pa ∧ p.pa ≤ 168 := by
  by_cases hf : f.size = 768
  · rw [scan_ok hf] at h
    obtain ⟨j, hj, hg, rfl⟩ := foundTo_mem h
    exact ⟨hf, (put_get hg).1, by show 0 ≤ 24 * (j : Int); omega, by show 24 * (j : Int) ≤ 168; omega⟩
  · rw [scan_no hf] at h
    cases h

def full24 : ByteArray := ⟨(List.replicate 24 255).toArray⟩
theorem list_full24 : full24.data.toList = List.replicate 24 255 := rfl
theorem size_full24 : full24.size = 24 := rfl
theorem get_full24 : getOk full24 = false := by decide +kernel
theorem list_slotS (f : ByteArray) (j : Nat) : (slotS f j).data.toList = (f.data.toList.drop (24 * j)).take 24 := by
  unfold slotS
  rw [list_extract, show 24 * j + 24 - 24 * j = 24 from by omega]
theorem size_slotS {f : ByteArray} {j : Nat} (hf : f.size = 768) (hj : j < 32) : (slotS f j).size = 24 := by
  unfold slotS
  rw [ByteArray.size_extract]
  omega
def blankP (f : ByteArray) (j : Nat) : Bool := decide (slotS f j = full24)
theorem blankP_t {f : ByteArray} {j : Nat} (h : slotS f j = full24) : blankP f j = true := by unfold blankP; exact decide_eq_true h
theorem blankP_f {f : ByteArray} {j : Nat} (h : ¬ slotS f j = full24) : blankP f j = false := by unfold blankP; exact decide_eq_false h
def freeFrom (f : ByteArray) (k n : Nat) : Option Nat := (List.range' k n).find? (blankP f)
theorem freeFrom_none (f : ByteArray) (k n : Nat) (h : ∀ i, k ≤ i → i < k + n → blankP f i = false) : freeFrom f k n = none := by
  unfold freeFrom
  rw [List.find?_eq_none]
  intro i hi
  rw [List.mem_range'_1] at hi
  rw [h i hi.1 hi.2]
  simp
theorem freeFrom_at (f : ByteArray) : ∀ (n k j : Nat), (∀ i, k ≤ i → i < j → blankP f i = false) → blankP f j = true → k ≤ j → j < k + n → freeFrom f k n = some j
  | 0, k, j, _, _, h1, h2 => by omega
  | n + 1, k, j, h, hj, h1, h2 => by
    unfold freeFrom
    rw [List.range'_succ, List.find?_cons]
    by_cases e : k = j
    · subst e
      rw [hj]
    · rw [h k (Nat.le_refl _) (by omega)]
      exact freeFrom_at f n (k + 1) j (fun i g1 g2 => h i (by omega) g2) hj (by omega) (by omega)
theorem freeFrom_some {f : ByteArray} {k n j : Nat} (h : freeFrom f k n = some j) : k ≤ j ∧ j < k + n ∧ blankP f j = true := by
  unfold freeFrom at h
  have h1 := List.mem_of_find?_eq_some h
  have h2 := List.find?_some h
  rw [List.mem_range'_1] at h1
  exact ⟨h1.1, h1.2, h2⟩
def freeOk (f : ByteArray) (s : Int) : Bool := decide (f.size = 768 ∧ 0 ≤ s ∧ s ≤ 1)
theorem freeOk_parts {f : ByteArray} {s : Int} : freeOk f s = true ↔ f.size = 768 ∧ 0 ≤ s ∧ s ≤ 1 := by unfold freeOk; exact decide_eq_true_iff
def freeO (f : ByteArray) (s : Int) : Option Nat := if freeOk f s then freeFrom f (4 * s.toNat) 4 else none
def placeI : Option Nat → Int
  | some j => 24 * (j : Int)
  | none => 0
def freeAt (f : ByteArray) (s : Int) : Int := placeI (freeO f s)
def freeIs (f : ByteArray) (s : Int) : Bool := (freeO f s).isSome
theorem free_no {f : ByteArray} {s : Int} (h : freeOk f s = false) : freeAt f s = 0 ∧ freeIs f s = false := by
  unfold freeAt freeIs freeO
  rw [h]
  exact ⟨rfl, rfl⟩
theorem free_none {f : ByteArray} {s : Nat} (h : freeOk f (s : Int) = true) (h1 : ∀ i, 4 * s ≤ i → i < 4 * s + 4 → blankP f i = false) : freeAt f (s : Int) = 0 ∧ freeIs f (s : Int) = false := by
  unfold freeAt freeIs freeO
  rw [if_pos h, Int.toNat_natCast, freeFrom_none f _ _ h1]
  exact ⟨rfl, rfl⟩
theorem free_at {f : ByteArray} {s j : Nat} (h : freeOk f (s : Int) = true) (h1 : ∀ i, 4 * s ≤ i → i < j → blankP f i = false) (h2 : blankP f j = true) (h3 : 4 * s ≤ j) (h4 : j < 4 * s + 4) : freeAt f (s : Int) = 24 * (j : Int) ∧ freeIs f (s : Int) = true := by
  unfold freeAt freeIs freeO
  rw [if_pos h, Int.toNat_natCast, freeFrom_at f 4 _ j h1 h2 h3 h4]
  exact ⟨rfl, rfl⟩
/-- Where a place is told, it lies in that sector. -/
theorem free_in {f : ByteArray} {s : Int} (h : freeIs f s = true) : freeOk f s = true ∧ 96 * s ≤ freeAt f s ∧ freeAt f s ≤ 96 * s + 72 ∧ freeAt f s % 24 = 0 := by
  cases h0 : freeOk f s with
  | false => rw [(free_no h0).2] at h; cases h
  | true =>
    obtain ⟨_, h1, h2⟩ := freeOk_parts.1 h0
    unfold freeIs freeO at h
    rw [if_pos h0] at h
    obtain ⟨j, hj⟩ := Option.isSome_iff_exists.1 h
    obtain ⟨g1, g2, _⟩ := freeFrom_some hj
    have e : freeAt f s = 24 * (j : Int) := by unfold freeAt freeO; rw [if_pos h0, hj]; rfl
    rw [e]
    exact ⟨rfl, by omega, by omega, by omega⟩

/-- The bytes of a place, one by one. -/
theorem get_slotS (f : ByteArray) (j i : Nat) (hi : i < 24) : (slotS f j).data.toList[i]? = f.data.toList[24 * j + i]? := by
  rw [list_slotS, List.getElem?_take_of_lt hi, List.getElem?_drop]
theorem slotS_eq {f g : ByteArray} {j : Nat} (h : ∀ i, 24 * j ≤ i → i < 24 * j + 24 → f.data.toList[i]? = g.data.toList[i]?) : slotS f j = slotS g j := by
  apply ba_ext
  apply List.ext_getElem?
  intro i
  by_cases hi : i < 24
  · rw [get_slotS f j i hi, get_slotS g j i hi]
    exact h _ (by omega) (by omega)
  · have h1 : ∀ f : ByteArray, (slotS f j).data.toList[i]? = none := fun f => by
      rw [list_slotS]
      exact List.getElem?_eq_none (by rw [List.length_take]; omega)
    rw [h1 f, h1 g]
theorem slotS_is {f s : ByteArray} {j : Nat} (hs : s.size = 24) (h : ∀ i, i < 24 → f.data.toList[24 * j + i]? = s.data.toList[i]?) : slotS f j = s := by
  apply ba_ext
  apply List.ext_getElem?
  intro i
  by_cases hi : i < 24
  · rw [get_slotS f j i hi, h i hi]
  · rw [list_slotS, List.getElem?_eq_none (by rw [List.length_take]; omega), List.getElem?_eq_none (by rw [Nor.size_list]; omega)]
theorem slot_full {f : ByteArray} {j : Nat} (h : ∀ i, i < 24 → f.data.toList[24 * j + i]? = some 255) : slotS f j = full24 := by
  refine slotS_is size_full24 fun i hi => ?_
  rw [h i hi, list_full24, List.getElem?_replicate, if_pos hi]
/-- Of a flash whose places are told one by one. -/
theorem foundTo_cons {f : ByteArray} {n : Nat} (h : getOk (slotS f n) = true) (l : List FPl) (hl : foundTo f n = l) : foundTo f (n + 1) = l ++ [recAt f n] := by rw [foundTo_yes f n h, hl]
theorem recAt_put {f : ByteArray} {j : Nat} {q t z m : Int} (h : recMay q t z m = true) (hs : slotS f j = putS q t z m) : getOk (slotS f j) = true ∧ recAt f j = ⟨24 * (j : Int), q, t, z, m⟩ := by
  obtain ⟨g0, g1, g2, g3, g4⟩ := get_put h
  unfold recAt
  rw [hs, g0, g1, g2, g3, g4]
  exact ⟨rfl, rfl⟩
theorem found_one {f : ByteArray} {p : Nat} {q t z m : Int} (h : recMay q t z m = true) (hs : slotS f p = putS q t z m) (n : Nat) (ho : ∀ j, j < n → j ≠ p → slotS f j = full24) : foundTo f n = if p < n then [⟨24 * (p : Int), q, t, z, m⟩] else [] := by
  induction n with
  | zero => rw [if_neg (by omega)]; rfl
  | succ n ih =>
    have ih := ih (fun j hj => ho j (by omega))
    by_cases e : n = p
    · subst e
      obtain ⟨g1, g2⟩ := recAt_put h hs
      rw [foundTo_yes f n g1, ih, if_neg (by omega), if_pos (by omega), g2]
      rfl
    · rw [foundTo_no f n (by rw [ho n (by omega) e]; exact get_full24), ih]
      by_cases g : p < n
      · rw [if_pos g, if_pos (by omega)]
      · rw [if_neg g, if_neg (by omega)]

/-- A sector that is erased: its places are blank, the others stay. -/
theorem erased_in {f : ByteArray} {k j : Nat} (h : Nor.wornOk f (k : Int) 96 = true) (hj : j / 4 = k) : slotS (Nor.wornS f (k : Int) 96) j = full24 := by
  have hz := Nor.size_of_wornOk h
  unfold Nor.wornOk at h
  have h' := of_decide_eq_true h
  refine slot_full fun i hi => ?_
  rw [Nor.list_wornS (by unfold Nor.wornOk; exact h), Nor.get_wornL, Int.toNat_natCast, show (96 : Int).toNat = 96 from rfl, List.getElem?_eq_getElem (by rw [Nor.size_list]; omega)]
  simp only [Option.map_some]
  rw [if_pos (by omega)]
theorem erased_out {f : ByteArray} {k j : Nat} (h : Nor.wornOk f (k : Int) 96 = true) (hj : ¬ j / 4 = k) : slotS (Nor.wornS f (k : Int) 96) j = slotS f j := by
  refine slotS_eq fun i h1 h2 => ?_
  rw [Nor.list_wornS h, Nor.get_wornL, Int.toNat_natCast, show (96 : Int).toNat = 96 from rfl]
  cases f.data.toList[i]? with
  | none => rfl
  | some c => simp only [Option.map_some]; rw [if_neg (by omega)]
theorem recAt_eq {f g : ByteArray} {j : Nat} (h : slotS f j = slotS g j) : recAt f j = recAt g j := by unfold recAt; rw [h]
theorem erased_found {f : ByteArray} {k : Nat} (h : Nor.wornOk f (k : Int) 96 = true) (n : Nat) : foundTo (Nor.wornS f (k : Int) 96) n = (foundTo f n).filter fun p => decide (¬ p.pa / 96 = (k : Int)) := by
  induction n with
  | zero => rfl
  | succ n ih =>
    by_cases e : n / 4 = k
    · rw [foundTo_no _ n (by rw [erased_in h e]; exact get_full24), ih]
      cases g : getOk (slotS f n) with
      | false => rw [foundTo_no f n g]
      | true =>
        rw [foundTo_yes f n g, List.filter_append, List.filter_cons, if_neg, List.filter_nil, List.append_nil]
        show ¬ decide (¬ 24 * (n : Int) / 96 = (k : Int)) = true
        rw [decide_eq_true_iff]
        omega
    · have ho := erased_out h e
      cases g : getOk (slotS f n) with
      | false => rw [foundTo_no f n g, foundTo_no _ n (by rw [ho]; exact g), ih]
      | true =>
        rw [foundTo_yes f n g, foundTo_yes _ n (by rw [ho]; exact g), ih, List.filter_append, List.filter_cons, if_pos, List.filter_nil, recAt_eq ho]
        show decide (¬ 24 * (n : Int) / 96 = (k : Int)) = true
        rw [decide_eq_true_iff]
        omega
theorem erased_free {f : ByteArray} {k : Nat} (h : Nor.wornOk f (k : Int) 96 = true) (hk : k ≤ 1) : freeOk (Nor.wornS f (k : Int) 96) (k : Int) = true ∧ freeAt (Nor.wornS f (k : Int) 96) (k : Int) = 96 * (k : Int) ∧ freeIs (Nor.wornS f (k : Int) 96) (k : Int) = true := by
  have h0 : freeOk (Nor.wornS f (k : Int) 96) (k : Int) = true := freeOk_parts.2 ⟨Nor.size_wornS h, by omega, by omega⟩
  obtain ⟨h1, h2⟩ := free_at (j := 4 * k) h0 (fun i g1 g2 => by omega) (blankP_t (erased_in h (by omega))) (Nat.le_refl _) (by omega)
  exact ⟨h0, by rw [h1]; omega, h2⟩
end Go.Proofs.YtmlfkbkpkgaefaaGreatDoor.Jou

/- Records with their places in memory: a row of them that a call has made or reads, five cells each; one of them in a block of its own. No program is named here. -/
namespace Go.Proofs.YtmlfkbkpkgaefaaGreatDoor.JouRow
open Go.Proofs.YtmlfkbkpkgaefaaGreatDoor Go.RowKit Go.Proofs.YtmlfkbkpkgaefaaGreatDoor.Bytes Go.Proofs.YtmlfkbkpkgaefaaGreatDoor.Jou

def cellsP (p : FPl) : List Value := [.int .i64 p.pa, .int .i64 p.pq, .int .i64 p.pt, .int .i64 p.pz, .int .i64 p.pm]
def flatP (l : List FPl) : List Value := l.flatMap cellsP
theorem flatP_append (a b : List FPl) : flatP (a ++ b) = flatP a ++ flatP b := by unfold flatP; rw [List.flatMap_append]
theorem length_flatP (l : List FPl) : (flatP l).length = l.length * 5 := by
  induction l with
  | nil => rfl
  | cons o l ih =>
    show (cellsP o ++ flatP l).length = _
    rw [List.length_append, ih]
    show 5 + l.length * 5 = (l.length + 1) * 5
    omega
theorem flatP_get : ∀ (l : List FPl) (i j : Nat) (h : i < l.length), j < 5 → (flatP l)[i * 5 + j]? = (cellsP l[i])[j]?
  | o :: l, 0, j, _, hj => by
    show (cellsP o ++ flatP l)[0 * 5 + j]? = _
    rw [Nat.zero_mul, Nat.zero_add, List.getElem?_append_left (by show j < 5; exact hj)]
    rfl
  | o :: l, i + 1, j, h, hj => by
    show (cellsP o ++ flatP l)[(i + 1) * 5 + j]? = _
    rw [List.getElem?_append_right (by show 5 ≤ _; omega), show (i + 1) * 5 + j - (cellsP o).length = i * 5 + j from by show _ - 5 = _; omega, flatP_get l i j (by simpa using h) hj]
    rfl
theorem flatP_oneCell (l : List FPl) : ∀ u ∈ flatP l, u.oneCell' = true := by
  intro u hu
  unfold flatP at hu
  rw [List.mem_flatMap] at hu
  obtain ⟨o, _, ho⟩ := hu
  unfold cellsP at ho
  simp at ho
  rcases ho with rfl | rfl | rfl | rfl | rfl <;> rfl

/-- The records l lie in block g, from its first cell on. -/
structure PlIn (w : World) (g : Nat) (l : List FPl) : Prop where
  pa : ∀ i (h : i < l.length), w.cell? ⟨g, i * 5, none⟩ = some (.int .i64 l[i].pa)
  pq : ∀ i (h : i < l.length), w.cell? ⟨g, i * 5 + 1, none⟩ = some (.int .i64 l[i].pq)
  pt : ∀ i (h : i < l.length), w.cell? ⟨g, i * 5 + 2, none⟩ = some (.int .i64 l[i].pt)
  pz : ∀ i (h : i < l.length), w.cell? ⟨g, i * 5 + 3, none⟩ = some (.int .i64 l[i].pz)
  pm : ∀ i (h : i < l.length), w.cell? ⟨g, i * 5 + 4, none⟩ = some (.int .i64 l[i].pm)
/-- The value v is a slice of the records l. -/
def IsPl (w : World) (v : Value) (l : List FPl) : Prop := ∃ a cap, v = .slice a l.length cap ∧ (l = [] ∨ ∃ g, a = some ⟨g, 0, none⟩ ∧ g < w.heap.size ∧ PlIn w g l)
theorem PlIn.below {w w' : World} {g : Nat} {l : List FPl} (h : PlIn w g l) {B : Nat} (hb : Below B w w') (hg : g < B) : PlIn w' g l :=
  ⟨fun i hi => by rw [hb.cell (p := ⟨g, i * 5, none⟩) hg]; exact h.pa i hi, fun i hi => by rw [hb.cell (p := ⟨g, i * 5 + 1, none⟩) hg]; exact h.pq i hi, fun i hi => by rw [hb.cell (p := ⟨g, i * 5 + 2, none⟩) hg]; exact h.pt i hi, fun i hi => by rw [hb.cell (p := ⟨g, i * 5 + 3, none⟩) hg]; exact h.pz i hi, fun i hi => by rw [hb.cell (p := ⟨g, i * 5 + 4, none⟩) hg]; exact h.pm i hi⟩
theorem IsPl.below {w w' : World} {v : Value} {l : List FPl} (h : IsPl w v l) (hb : Below w.heap.size w w') : IsPl w' v l := by
  obtain ⟨a, cap, rfl, h⟩ := h
  refine ⟨a, cap, rfl, ?_⟩
  rcases h with h | ⟨g, rfl, hg, ho⟩
  · exact .inl h
  · exact .inr ⟨g, rfl, Nat.lt_of_lt_of_le hg hb.size, ho.below hb hg⟩
theorem ownsP_in {w : World} {base : Nat} {e : TypeId} {g cap n : Nat} {l : List FPl} (h : w.ownsRow base e 5 (.slice (some ⟨g, 0, none⟩) n cap) n (flatP l)) : n = l.length ∧ g < w.heap.size ∧ PlIn w g l := by
  have hn : n = l.length := by have := h.1; rw [length_flatP] at this; omega
  subst hn
  refine ⟨rfl, (h.lt g rfl).2, ?_, ?_, ?_, ?_, ?_⟩
  · intro i hi
    rw [h.cellAt (i * 5) (by omega)]
    exact flatP_get l i 0 hi (by omega)
  · intro i hi
    rw [h.cellAt (i * 5 + 1) (by omega)]
    exact flatP_get l i 1 hi (by omega)
  · intro i hi
    rw [h.cellAt (i * 5 + 2) (by omega)]
    exact flatP_get l i 2 hi (by omega)
  · intro i hi
    rw [h.cellAt (i * 5 + 3) (by omega)]
    exact flatP_get l i 3 hi (by omega)
  · intro i hi
    rw [h.cellAt (i * 5 + 4) (by omega)]
    exact flatP_get l i 4 hi (by omega)
theorem ownsP_is {w : World} {base : Nat} {e : TypeId} {v : Value} {n : Nat} {l : List FPl} (h : w.ownsRow base e 5 v n (flatP l)) : IsPl w v l := by
  have hn : n = l.length := by have := h.1; rw [length_flatP] at this; omega
  subst hn
  have h2 := h.2
  rcases h2 with ⟨rfl, h0⟩ | ⟨g, cap, cur, rfl, _⟩
  · exact ⟨none, 0, by rw [h0], .inl (List.length_eq_zero_iff.1 h0)⟩
  · obtain ⟨_, h1, h2⟩ := ownsP_in h
    exact ⟨_, cap, rfl, .inr ⟨g, rfl, h1, h2⟩⟩
theorem ownsP_nil (w : World) (base : Nat) (e : TypeId) : w.ownsRow base e 5 (.slice none 0 0) 0 (flatP []) := ⟨rfl, .inl ⟨rfl, rfl⟩⟩
/-- Where there is one at least: the slice written out. -/
theorem ownsP_form {w : World} {base : Nat} {e : TypeId} {v : Value} {n : Nat} {l : List FPl} (h : w.ownsRow base e 5 v n (flatP l)) (hl : 0 < l.length) : ∃ g cap, v = .slice (some ⟨g, 0, none⟩) l.length cap ∧ l.length ≤ cap ∧ cap ≤ maxLen ∧ base ≤ g ∧ g < w.heap.size ∧ PlIn w g l := by
  have hn : n = l.length := by have := h.1; rw [length_flatP] at this; omega
  subst hn
  rcases h.2 with ⟨h0, h1⟩ | ⟨g, cap, cur, rfl, h1, _, h3, h4, _⟩
  · omega
  · obtain ⟨_, g1, g2⟩ := ownsP_in h
    exact ⟨g, cap, rfl, by omega, by omega, h1, g1, g2⟩

/-- A struct of five cells in a block of its own that may be written, and behind a call that leaves what was there. -/
def Box5 (w : World) (B : Nat) (a b c d e : Value) : Prop := B < w.heap.size ∧ w.cell? ⟨B, 0, none⟩ = some a ∧ w.cell? ⟨B, 1, none⟩ = some b ∧ w.cell? ⟨B, 2, none⟩ = some c ∧ w.cell? ⟨B, 3, none⟩ = some d ∧ w.cell? ⟨B, 4, none⟩ = some e ∧ ∀ i, w.frozen? ⟨B, i, none⟩ = false
theorem box5B {w w' : World} {B : Nat} {a b c d e : Value} (h : Box5 w B a b c d e) (hb : Below w.heap.size w w') : Box5 w' B a b c d e := by
  obtain ⟨h0, h1, h2, h3, h4, h5, h6⟩ := h
  exact ⟨Nat.lt_of_lt_of_le h0 hb.size, by rw [hb.cell (p := ⟨B, 0, none⟩) h0]; exact h1, by rw [hb.cell (p := ⟨B, 1, none⟩) h0]; exact h2, by rw [hb.cell (p := ⟨B, 2, none⟩) h0]; exact h3, by rw [hb.cell (p := ⟨B, 3, none⟩) h0]; exact h4, by rw [hb.cell (p := ⟨B, 4, none⟩) h0]; exact h5, fun i => by rw [hb.frozen (p := ⟨B, i, none⟩) h0]; exact h6 i⟩
theorem box5M (w : World) (a b c d e : Value) (t : TypeId) : Box5 (w.alloc (.cells #[a, b, c, d, e] t)) w.heap.size a b c d e :=
  ⟨by simp, by rw [World.cell?_alloc_at _ t _ 0 rfl]; rfl, by rw [World.cell?_alloc_at _ t _ 1 rfl]; rfl, by rw [World.cell?_alloc_at _ t _ 2 rfl]; rfl, by rw [World.cell?_alloc_at _ t _ 3 rfl]; rfl, by rw [World.cell?_alloc_at _ t _ 4 rfl]; rfl, fun i => World.frozen?_alloc_at _ t _ i rfl⟩
end Go.Proofs.YtmlfkbkpkgaefaaGreatDoor.JouRow

/- The contracts of package journal: each call returns what the plain functions give, whatever its arguments; of what was there nothing has turned. -/
namespace Go.Proofs.YtmlfkbkpkgaefaaGreatDoor.JouWalk
open Go.Proofs.YtmlfkbkpkgaefaaGreatDoor Go.RowKit Go.Proofs.YtmlfkbkpkgaefaaGreatDoor.Bytes Go.Proofs.YtmlfkbkpkgaefaaGreatDoor.NorWalk Go.Proofs.YtmlfkbkpkgaefaaGreatDoor.Ent Go.Proofs.YtmlfkbkpkgaefaaGreatDoor.EntRow Go.Proofs.YtmlfkbkpkgaefaaGreatDoor.EntWalk Go.Proofs.YtmlfkbkpkgaefaaGreatDoor.Jou Go.Proofs.YtmlfkbkpkgaefaaGreatDoor.JouRow

theorem ret_str {a b : ByteArray} (h : a = b) : Ending.returned (.string a) = .returned (.string b) := by rw [h]
theorem bytesAt_any (f : ByteArray) (j a : Nat) (w : World) (hf : f.size = 768) (hj : j < 32) (ha : a = 24 * j) : Calls Tryz.prog 130 #[.string f, .int .i64 (a : Int)] w fun e w' => e = .returned (.string (slotS f j)) ∧ w' = w := by
  have h1 : a + 24 ≤ f.size := by omega
  have h2 : f.size ≤ 768 := by omega
  have HX : Hid (slotS f j = f.extract a (a + 24)) := by subst ha; rfl
  clear hf ha
  go_enter Tryz.func130, Tryz.ntmps130
  go_wp2
  go_ret
  exact ⟨ret_str HX.out.symm, rfl⟩
def ffB (s : ByteArray) : Bool := decide (s.data.toList = List.replicate s.size 255)
theorem ff_get {s : ByteArray} (h : ∀ i (hi : i < s.size), s[i] = 255) : ffB s = true := by
  unfold ffB
  refine decide_eq_true (List.ext_getElem? fun i => ?_)
  by_cases hi : i < s.size
  · rw [Nor.ba_get s i hi, h i hi, List.getElem?_replicate, if_pos hi]
  · rw [List.getElem?_eq_none (by rw [Nor.size_list]; omega), List.getElem?_replicate, if_neg hi]
theorem ff_not {s : ByteArray} {i : Nat} (hi : i < s.size) (h : ¬ s[i] = 255) : ffB s = false := by
  unfold ffB
  refine decide_eq_false (fun e => h ?_)
  have g := Nor.ba_get s i hi
  rw [e, List.getElem?_replicate, if_pos hi] at g
  exact (Option.some.inj g).symm
theorem u8_ne {b : UInt8} (h : ¬ b = 255) : ((b.toNat : Int) != 255) = true := by
  rw [bne_iff_ne]
  intro e
  exact h (UInt8.toNat_inj.1 (by simpa using (show b.toNat = 255 by omega)))
set_option maxRecDepth 100000 in
set_option maxHeartbeats 400000 in
theorem blank_any (s : ByteArray) (w : World) (hs : s.size ≤ 65536) : Calls Tryz.prog 143 #[.string s] w fun e w' => e = .returned (.bool (ffB s)) ∧ w' = w := by
  go_enter Tryz.func143, Tryz.ntmps143
  go_wp2
  go_loop [6] (fun x => ∃ j : Nat, j ≤ s.size ∧ x = .int .i64 j ∧ Hid (∀ i (hi : i < s.size), i < j → s[i] = 255)) (fun x => s.size - (intOf x).toNat)
  case atStart => exact ⟨0, Nat.zero_le _, rfl, fun i _ h => by omega⟩
  case round =>
    obtain ⟨j, hj, rfl, HR⟩ := hrel
    by_cases hlt : j < s.size
    · by_cases hb : s[j] = 255
      · have HR2 : Hid (∀ i (hi : i < s.size), i < j + 1 → s[i] = 255) := fun i hi h => by
          by_cases e : i = j
          · subst e; exact hb
          · exact HR.out i hi (by omega)
        have hb1 : ((s[j].toNat : Int) != 255) = false := by rw [hb]; rfl
        clear hb
        go_wp2
        exact ⟨⟨j + 1, by omega, by go_num, HR2⟩, by simp [intOf]; omega⟩
      · have HF : Hid (ffB s = false) := ff_not hlt hb
        have hb1 := u8_ne hb
        clear hb
        go_wp2
        go_ret
        exact ⟨ret_bool HF.out.symm, rfl⟩
    · have HF : Hid (ffB s = true) := ff_get fun i hi => HR.out i hi (by omega)
      go_wp2
      go_ret
      exact ⟨ret_bool HF.out.symm, rfl⟩
theorem ff_slot {f : ByteArray} {j : Nat} (hf : f.size = 768) (hj : j < 32) : ffB (slotS f j) = blankP f j := by
  unfold ffB blankP
  rw [size_slotS hf hj, decide_eq_decide]
  constructor
  · intro h; exact ba_ext h
  · intro h; rw [h]; rfl

theorem info_pl : (Tryz.prog.info? 96).map (fun i => (i.zero, i.size, i.bytes)) = some (some (.agg #[.int .i64 0, .int .i64 0, .int .i64 0, .int .i64 0, .int .i64 0]), 5, 40) := by kernel_rfl
theorem build_pl (a q t z m : Int) (w : World) : (Instr.build 96 #[(0, .int .i64 a), (1, .agg #[.int .i64 q, .int .i64 t, .int .i64 z, .int .i64 m])]).run Tryz.prog w = .ok (.agg #[.int .i64 a, .int .i64 q, .int .i64 t, .int .i64 z, .int .i64 m]) w := run_build w 96 _ _ (by kernel_rfl)
theorem may_f (f : ByteArray) : mayB f = mayF f := rfl
theorem new2 (w : World) (o p : Obj) : ((w.alloc o).alloc p).heap[w.heap.size + 1]? = some p := by
  have h := heap_alloc_new (w.alloc o) p
  rw [show (w.alloc o).heap.size = w.heap.size + 1 from by simp] at h
  exact h
set_option maxRecDepth 100000 in
set_option maxHeartbeats 400000 in
theorem scan_no (f : ByteArray) (w : World) (h : mayF f = false) : Calls Tryz.prog 123 #[.string f] w fun e w' => e = .returned (.tuple #[.slice none 0 0, .int .i64 500]) ∧ w' = w := by
  have h : mayB f = false := h
  go_enter Tryz.func123, Tryz.ntmps123
  go_wp2_with (first | (go_at_call 21; refine (may_any _ _).mono ?_; rintro e w' ⟨rfl, rfl⟩))
  go_ret2
  exact ⟨rfl, rfl⟩
set_option maxRecDepth 100000 in
set_option maxHeartbeats 1000000 in
theorem scan_yes (f : ByteArray) (w : World) (h : f.size = 768) : Calls Tryz.prog 123 #[.string f] w fun e w' => ∃ v, e = .returned (.tuple #[v, .int .i64 0]) ∧ w'.ownsRow w.heap.size 96 5 v (foundTo f 8).length (flatP (foundTo f 8)) ∧ Below w.heap.size w w' := by
  have hm : mayB f = true := mayF_t h
  have HF : Hid (f.size = 768) := h
  clear h
  obtain ⟨i, hi, hz0, hz1, hz2⟩ := info_parts info_pl
  have hbd := build_pl
  go_enter Tryz.func123, Tryz.ntmps123
  go_wp2_with (first | (go_at_call 21; refine (may_any _ _).mono ?_; rintro e w' ⟨rfl, rfl⟩))
  go_loopw [4, 12] (fun s x wr => ∃ j : Nat, j ≤ 8 ∧ x = .int .i64 j ∧ wr.ownsRow w'.heap.size 96 5 s (foundTo f j).length (flatP (foundTo f j)) ∧ Below w'.heap.size w' wr) (fun _ x _ => 8 - (intOf x).toNat)
  case atStart => exact ⟨0, Nat.zero_le _, rfl, ownsP_nil _ _ _, Below.refl _ _⟩
  case round =>
    obtain ⟨j, hj, rfl, hown, hbel⟩ := hrel
    by_cases hlt : j < 8
    · have hj1 : (j : Int) * 24 = ((24 * j : Nat) : Int) := by omega
      have e0 : errE true = 0 := rfl
      have e1 : errE false = 400 := rfl
      have s1 := hbel.size
      have hlen := foundTo_len f j
      have HR : Hid (recAt f j = ⟨((24 * j : Nat) : Int), gq (slotS f j), gt (slotS f j), gz (slotS f j), gm (slotS f j)⟩) := by unfold recAt; rw [Int.natCast_mul]; rfl
      cases hg : getOk (slotS f j) with
      | false =>
        have HS : Hid (foundTo f (j + 1) = foundTo f j) := foundTo_no f j hg
        go_wp2_with (first | (go_at_call 130; refine (bytesAt_any _ j _ _ HF.out (by omega) rfl).mono ?_; rintro e w1 ⟨rfl, rfl⟩) | (go_at_call 129; refine (get_any _ _).mono ?_; rintro e w2 ⟨rfl, hb2⟩))
        have s2 := hb2.size
        refine ⟨⟨j + 1, by omega, by go_num, ?_, ?_⟩, by simp [intOf]; omega⟩
        · rw [HS.out]
          exact (OpsRow.owns_below hown hb2).alloc _
        · exact (thenB hbel hb2).alloc (Nat.le_trans s1 s2) _
      | true =>
        have HS : Hid (foundTo f (j + 1) = foundTo f j ++ [recAt f j]) := foundTo_yes f j hg
        generalize hL : foundTo f j = L at *
        clear hL
        have b1 : L.length + 1 ≤ maxLen := by unfold maxLen; omega
        have b2 : (L.length + 1) * 40 ≤ 140737488355328 := by omega
        go_wp2_with (first | (go_at_call 130; refine (bytesAt_any _ j _ _ HF.out (by omega) rfl).mono ?_; rintro e w1 ⟨rfl, rfl⟩) | (go_at_call 129; refine (get_any _ _).mono ?_; rintro e w2 ⟨rfl, hb2⟩; have s2 := hb2.size) | (at_builtin; refine wpList_append_lies _ rfl _ _ _ rfl w'.heap.size 96 i _ 5 40 Tryz.underlying118 hi hz0 hz1 hz2 rfl (by omega) u4 L.length _ rfl (((OpsRow.owns_below hown hb2).alloc _).alloc _) ⟨w2.heap.size + 1, 0, none⟩ 1 1 _ rfl rfl (World.news_of_block (new2 w2 _ _)) (flatP_oneCell [⟨_, _, _, _, _⟩]) (by omega) b1 b2 (by simp; omega) _ rfl ?_; intro g cap w3 hown1 hgrow hat hlt1))
        refine ⟨⟨j + 1, by omega, by go_num, ?_, ?_⟩, by simp [intOf]; omega⟩
        · rw [HS.out, flatP_append, List.length_append, HR.out]
          exact hown1
        · exact (((thenB hbel hb2).alloc (Nat.le_trans s1 s2) _).alloc (by simp; omega) _).grown hgrow (by simp; omega) (fun k hk => (hown.lt k hk).1)
    · obtain rfl : j = 8 := by omega
      go_wp2
      go_ret2
      exact ⟨_, rfl, hown, hbel⟩
theorem scan_any (f : ByteArray) (w : World) : Calls Tryz.prog 123 #[.string f] w fun e w' => ∃ v, e = .returned (.tuple #[v, .int .i64 (errJ (mayF f))]) ∧ w'.ownsRow w.heap.size 96 5 v (scanL f).length (flatP (scanL f)) ∧ Below w.heap.size w w' := by
  by_cases h : f.size = 768
  · rw [mayF_t h, scan_ok h]
    exact scan_yes f w h
  · rw [mayF_f h, Jou.scan_no h]
    refine (scan_no f w (mayF_f h)).mono ?_
    rintro e w' ⟨rfl, rfl⟩
    exact ⟨_, rfl, ownsP_nil _ _ _, Below.refl _ _⟩
theorem freeOk_f {f : ByteArray} {s : Int} (h : freeOk f s = false) : mayB f = false ∨ mayB f = true ∧ s < 0 ∨ mayB f = true ∧ 0 ≤ s ∧ 2 ≤ s := by
  unfold freeOk at h
  have h' := of_decide_eq_false h
  unfold mayB
  by_cases h1 : f.size = 768
  · rw [decide_eq_true h1]
    by_cases h2 : s < 0
    · exact .inr (.inl ⟨rfl, h2⟩)
    · exact .inr (.inr ⟨rfl, by omega, by omega⟩)
  · rw [decide_eq_false h1]
    exact .inl rfl
theorem ret3 {a a' : Int} {b b' : Bool} {c c' : Int} (h1 : a = a') (h2 : b = b') (h3 : c = c') : Ending.returned (.tuple #[.int .i64 a, .bool b, .int .i64 c]) = .returned (.tuple #[.int .i64 a', .bool b', .int .i64 c']) := by rw [h1, h2, h3]
set_option maxRecDepth 100000 in
set_option maxHeartbeats 400000 in
theorem free_refused (f : ByteArray) (s : Int) (w : World) (h : freeOk f s = false) : Calls Tryz.prog 142 #[.string f, .int .i64 s] w fun e w' => e = .returned (.tuple #[.int .i64 0, .bool false, .int .i64 500]) ∧ w' = w := by
  rcases freeOk_f h with h1 | ⟨h1, h2⟩ | ⟨h1, h2, h3⟩
  all_goals
    go_enter Tryz.func142, Tryz.ntmps142
    go_wp2_with (first | (go_at_call 21; refine (may_any _ _).mono ?_; rintro e w' ⟨rfl, rfl⟩))
    go_ret3
    exact ⟨rfl, rfl⟩
set_option maxRecDepth 100000 in
set_option maxHeartbeats 1000000 in
theorem free_yes (f : ByteArray) (s : Nat) (w : World) (h : freeOk f (s : Int) = true) : Calls Tryz.prog 142 #[.string f, .int .i64 (s : Int)] w fun e w' => e = .returned (.tuple #[.int .i64 (freeAt f s), .bool (freeIs f s), .int .i64 0]) ∧ w' = w := by
  obtain ⟨hf, _, hs⟩ := freeOk_parts.1 h
  have hm : mayB f = true := mayF_t hf
  have HF : Hid (f.size = 768) := hf
  have HO : Hid (freeOk f (s : Int) = true) := h
  have hs1 : s ≤ 1 := by omega
  have hs0 : (0 : Int) ≤ (s : Int) := by omega
  have hs2 : ¬ (2 : Int) ≤ (s : Int) := by omega
  clear hf h hs
  go_enter Tryz.func142, Tryz.ntmps142
  go_wp2_with (first | (go_at_call 21; refine (may_any _ _).mono ?_; rintro e w' ⟨rfl, rfl⟩))
  go_loop [20] (fun x => ∃ j : Nat, j ≤ 4 ∧ x = .int .i64 j ∧ Hid (∀ i, 4 * s ≤ i → i < 4 * s + j → blankP f i = false)) (fun x => 4 - (intOf x).toNat)
  case atStart => exact ⟨0, Nat.zero_le _, rfl, fun i h1 h2 => by omega⟩
  case round =>
    obtain ⟨j, hj, rfl, HR⟩ := hrel
    by_cases hlt : j < 4
    · have hj1 : (s : Int) * 96 + (j : Int) * 24 = ((24 * (4 * s + j) : Nat) : Int) := by omega
      have HL : Hid ((slotS f (4 * s + j)).size ≤ 65536) := by have := size_slotS (j := 4 * s + j) HF.out (by omega); show _ ≤ _; omega
      have HE := hide (ff_slot (j := 4 * s + j) HF.out (by omega))
      cases hb : blankP f (4 * s + j) with
      | false =>
        have hff : ffB (slotS f (4 * s + j)) = false := HE.out.trans hb
        have HR2 : Hid (∀ i, 4 * s ≤ i → i < 4 * s + (j + 1) → blankP f i = false) := fun i h1 h2 => by
          by_cases e : i = 4 * s + j
          · subst e; exact hb
          · exact HR.out i h1 (by omega)
        clear HR hb
        go_wp2_with (first | (go_at_call 130; refine (bytesAt_any _ (4 * s + j) _ _ HF.out (by omega) rfl).mono ?_; rintro e w1 ⟨rfl, rfl⟩) | (go_at_call 143; refine (blank_any _ _ HL.out).mono ?_; rintro e w2 ⟨rfl, rfl⟩))
        exact ⟨⟨j + 1, by omega, by go_num, HR2⟩, by simp [intOf]; omega⟩
      | true =>
        have hff : ffB (slotS f (4 * s + j)) = true := HE.out.trans hb
        have HA := hide (free_at HO.out HR.out hb (by omega) (by omega))
        clear HR hb
        go_wp2_with (first | (go_at_call 130; refine (bytesAt_any _ (4 * s + j) _ _ HF.out (by omega) rfl).mono ?_; rintro e w1 ⟨rfl, rfl⟩) | (go_at_call 143; refine (blank_any _ _ HL.out).mono ?_; rintro e w2 ⟨rfl, rfl⟩))
        go_ret3
        exact ⟨ret3 (by rw [HA.out.1]; omega) HA.out.2.symm rfl, rfl⟩
    · obtain rfl : j = 4 := by omega
      have HA := hide (free_none HO.out HR.out)
      clear HR
      go_wp2
      go_ret3
      exact ⟨ret3 HA.out.1.symm HA.out.2.symm rfl, rfl⟩
theorem free_any (f : ByteArray) (s : Int) (w : World) : Calls Tryz.prog 142 #[.string f, .int .i64 s] w fun e w' => e = .returned (.tuple #[.int .i64 (freeAt f s), .bool (freeIs f s), .int .i64 (errJ (freeOk f s))]) ∧ w' = w := by
  cases h : freeOk f s with
  | false =>
    rw [(free_no h).1, (free_no h).2]
    exact free_refused f s w h
  | true =>
    obtain ⟨_, h1, h2⟩ := freeOk_parts.1 h
    obtain ⟨n, rfl⟩ := Int.eq_ofNat_of_zero_le h1
    exact free_yes f n w h
end Go.Proofs.YtmlfkbkpkgaefaaGreatDoor.JouWalk

/- Images, which of them is the active one, the next number, where the next record goes, a staged image's record, as plain functions of a flash. No program is named here. -/
namespace Go.Proofs.YtmlfkbkpkgaefaaGreatDoor.Act
open Go.Proofs.YtmlfkbkpkgaefaaGreatDoor Go.Proofs.YtmlfkbkpkgaefaaGreatDoor.Bytes Go.Proofs.YtmlfkbkpkgaefaaGreatDoor.Ent Go.Proofs.YtmlfkbkpkgaefaaGreatDoor.Ops Go.Proofs.YtmlfkbkpkgaefaaGreatDoor.Jou

def baseOk (t : Int) : Bool := decide (0 ≤ t ∧ t ≤ 1)
def baseI (t : Int) : Int := if baseOk t then 192 + 288 * t else 0
def errI (ok : Bool) : Int := if ok then 0 else 600
theorem errI_t {ok : Bool} (h : ok = true) : errI ok = 0 := by rw [h]; rfl
theorem errI_f {ok : Bool} (h : ok = false) : errI ok = 600 := by rw [h]; rfl
theorem baseOk_parts {t : Int} : baseOk t = true ↔ 0 ≤ t ∧ t ≤ 1 := by unfold baseOk; exact decide_eq_true_iff
def imgOk (f : ByteArray) (q t z m : Int) : Bool := mayF f && recMay q t z m
theorem imgOk_parts {f : ByteArray} {q t z m : Int} : imgOk f q t z m = true ↔ f.size = 768 ∧ recMay q t z m = true := by
  unfold imgOk mayF
  rw [Bool.and_eq_true, decide_eq_true_iff]
/-- The first z bytes of slot t. -/
def cutI (f : ByteArray) (t z : Int) : ByteArray := f.extract (192 + 288 * t.toNat) (192 + 288 * t.toNat + z.toNat)
def imgS (f : ByteArray) (q t z m : Int) : ByteArray := if imgOk f q t z m then cutI f t z else ⟨#[]⟩
theorem imgS_ok {f : ByteArray} {q t z m : Int} (h : imgOk f q t z m = true) : imgS f q t z m = cutI f t z := by unfold imgS; rw [if_pos h]
theorem imgS_no {f : ByteArray} {q t z m : Int} (h : imgOk f q t z m = false) : imgS f q t z m = ⟨#[]⟩ := by unfold imgS; rw [h]; rfl
def sumI (f : ByteArray) (t z : Int) : Int := ((Crc.sum (cutI f t z).data.toList : Nat) : Int)
theorem sumI_lt (f : ByteArray) (t z : Int) : 0 ≤ sumI f t z ∧ sumI f t z ≤ 4294967295 := by
  unfold sumI
  have := Crc.sum_lt (cutI f t z).data.toList
  omega
def goodB (f : ByteArray) (q t z m : Int) : Bool := imgOk f q t z m && decide (sumI f t z = m)
theorem size_cutI {f : ByteArray} {t z : Int} (hf : f.size = 768) (h1 : 0 ≤ t) (h2 : t ≤ 1) (h3 : 0 ≤ z) (h4 : z ≤ 288) : (cutI f t z).size = z.toNat := by
  unfold cutI
  rw [ByteArray.size_extract]
  omega
theorem size_imgS (f : ByteArray) (q t z m : Int) : (imgS f q t z m).size ≤ 288 := by
  cases h : imgOk f q t z m with
  | false => rw [imgS_no h]; decide
  | true =>
    obtain ⟨hf, hr⟩ := imgOk_parts.1 h
    obtain ⟨_, _, h1, h2, h3, h4, _⟩ := recMay_parts.1 hr
    rw [imgS_ok h, size_cutI hf h1 h2 (by omega) h4]
    omega

def zeroP : FPl := ⟨0, 0, 0, 0, 0⟩
def goodP (f : ByteArray) (p : FPl) : Bool := goodB f p.pq p.pt p.pz p.pm
def beats (f : ByteArray) (ps : List FPl) (b : Option Nat) (i : Nat) : Bool := goodP f (ps.getD i zeroP) && (match b with | none => true | some k => decide ((ps.getD k zeroP).pq ≤ (ps.getD i zeroP).pq))
def bestTo (f : ByteArray) (ps : List FPl) : Nat → Option Nat
  | 0 => none
  | n + 1 => if beats f ps (bestTo f ps n) n then some n else bestTo f ps n
theorem bestTo_lt {f : ByteArray} {ps : List FPl} {n k : Nat} (h : bestTo f ps n = some k) : k < n := by
  induction n with
  | zero => cases h
  | succ n ih =>
    unfold bestTo at h
    by_cases g : beats f ps (bestTo f ps n) n = true
    · rw [if_pos g] at h
      cases h
      omega
    · rw [if_neg g] at h
      have := ih h
      omega
theorem best_bad {f : ByteArray} {ps : List FPl} {n : Nat} (h : n < ps.length) (hg : goodP f ps[n] = false) : bestTo f ps (n + 1) = bestTo f ps n := by
  show (if beats f ps (bestTo f ps n) n then some n else bestTo f ps n) = _
  have e : ps.getD n zeroP = ps[n] := by rw [List.getD_eq_getElem?_getD, List.getElem?_eq_getElem h]; rfl
  unfold beats
  rw [e, hg]
  rfl
theorem best_first {f : ByteArray} {ps : List FPl} {n : Nat} (h : n < ps.length) (hg : goodP f ps[n] = true) (hb : bestTo f ps n = none) : bestTo f ps (n + 1) = some n := by
  show (if beats f ps (bestTo f ps n) n then some n else bestTo f ps n) = _
  have e : ps.getD n zeroP = ps[n] := by rw [List.getD_eq_getElem?_getD, List.getElem?_eq_getElem h]; rfl
  unfold beats
  rw [e, hg, hb]
  rfl
theorem best_next {f : ByteArray} {ps : List FPl} {n k : Nat} (h : n < ps.length) (hk : k < ps.length) (hg : goodP f ps[n] = true) (hb : bestTo f ps n = some k) : bestTo f ps (n + 1) = if ps[k].pq ≤ ps[n].pq then some n else some k := by
  show (if beats f ps (bestTo f ps n) n then some n else bestTo f ps n) = _
  have e : ps.getD n zeroP = ps[n] := by rw [List.getD_eq_getElem?_getD, List.getElem?_eq_getElem h]; rfl
  have e2 : ps.getD k zeroP = ps[k] := by rw [List.getD_eq_getElem?_getD, List.getElem?_eq_getElem hk]; rfl
  unfold beats
  rw [hb]
  simp only [e, e2, hg, Bool.true_and, decide_eq_true_iff]
def bestI : Option Nat → Int
  | none => -1
  | some k => (k : Int)
def bestO (f : ByteArray) : Option Nat := bestTo f (scanL f) (scanL f).length
def actO (f : ByteArray) : Option FPl := (bestO f).map fun k => (scanL f).getD k zeroP
def actV (f : ByteArray) : FPl := (actO f).getD zeroP
def errA (f : ByteArray) : Int := if mayF f then (match actO f with | some _ => 0 | none => 701) else 700
theorem act_no {f : ByteArray} (h : mayF f = false) : actO f = none ∧ actV f = zeroP ∧ errA f = 700 := by
  have e : scanL f = [] := by unfold scanL; rw [h]; rfl
  have e2 : actO f = none := by unfold actO bestO; rw [e]; rfl
  refine ⟨e2, ?_, ?_⟩
  · unfold actV; rw [e2]; rfl
  · unfold errA; rw [h]; rfl
theorem act_none {f : ByteArray} (h : mayF f = true) (hb : bestO f = none) : actO f = none ∧ actV f = zeroP ∧ errA f = 701 := by
  have e : actO f = none := by unfold actO; rw [hb]; rfl
  refine ⟨e, ?_, ?_⟩
  · unfold actV; rw [e]; rfl
  · unfold errA; rw [h, e]; rfl
theorem act_some {f : ByteArray} (h : mayF f = true) {k : Nat} (hk : k < (scanL f).length) (hb : bestO f = some k) : actO f = some (scanL f)[k] ∧ actV f = (scanL f)[k] ∧ errA f = 0 := by
  have e : actO f = some (scanL f)[k] := by
    unfold actO
    rw [hb, Option.map_some, List.getD_eq_getElem?_getD, List.getElem?_eq_getElem hk]
    rfl
  refine ⟨e, ?_, ?_⟩
  · unfold actV; rw [e]; rfl
  · unfold errA; rw [h, e]; rfl
theorem act_mem {f : ByteArray} {p : FPl} (h : actO f = some p) : p ∈ scanL f := by
  unfold actO at h
  cases hb : bestO f with
  | none => rw [hb] at h; cases h
  | some k =>
    rw [hb] at h
    have hk := bestTo_lt hb
    rw [Option.map_some, List.getD_eq_getElem?_getD, List.getElem?_eq_getElem hk] at h
    cases h
    exact List.getElem_mem hk

def topOf (l : List FPl) : Int := l.foldl (fun x p => max x p.pq) 0
theorem topOf_take (l : List FPl) (n : Nat) (h : n < l.length) : topOf (l.take (n + 1)) = max (topOf (l.take n)) l[n].pq := by
  unfold topOf
  rw [List.take_succ_eq_append_getElem h, List.foldl_append]
  rfl
theorem topOf_bound (l : List FPl) (h : ∀ p ∈ l, 1 ≤ p.pq ∧ p.pq ≤ 1048576) : 0 ≤ topOf l ∧ topOf l ≤ 1048576 := by
  have key : ∀ (l : List FPl) (x : Int), 0 ≤ x → x ≤ 1048576 → (∀ p ∈ l, 1 ≤ p.pq ∧ p.pq ≤ 1048576) → 0 ≤ l.foldl (fun x p => max x p.pq) x ∧ l.foldl (fun x p => max x p.pq) x ≤ 1048576 := by
    intro l
    induction l with
    | nil => intro x h1 h2 _; exact ⟨h1, h2⟩
    | cons p l ih =>
      intro x h1 h2 hp
      have := hp p (List.mem_cons_self ..)
      exact ih (max x p.pq) (by omega) (by omega) (fun r hr => hp r (List.mem_cons_of_mem _ hr))
  exact key l 0 (by omega) (by omega) h
theorem scan_seq (f : ByteArray) : ∀ p ∈ scanL f, 1 ≤ p.pq ∧ p.pq ≤ 1048576 := by
  intro p hp
  obtain ⟨_, h, _⟩ := scan_mem hp
  have := recMay_parts.1 h
  omega
def topI (f : ByteArray) : Int := topOf (scanL f)
theorem topI_bound (f : ByteArray) : 0 ≤ topI f ∧ topI f ≤ 1048576 := topOf_bound _ (scan_seq f)
def nextOk (f : ByteArray) : Bool := mayF f && decide (topI f < 1048576)
def nextI (f : ByteArray) : Int := if nextOk f then topI f + 1 else 0
def errX (f : ByteArray) : Int := if mayF f then (if topI f < 1048576 then 0 else 801) else 800
theorem next_no {f : ByteArray} (h : mayF f = false) : nextI f = 0 ∧ errX f = 800 := by unfold nextI errX nextOk; rw [h]; exact ⟨rfl, rfl⟩
theorem next_full {f : ByteArray} (h : mayF f = true) (g : ¬ topI f < 1048576) : nextI f = 0 ∧ errX f = 801 := by
  unfold nextI errX nextOk
  rw [h, decide_eq_false g, if_neg g]
  exact ⟨rfl, rfl⟩
theorem next_yes {f : ByteArray} (h : mayF f = true) (g : topI f < 1048576) : nextI f = topI f + 1 ∧ errX f = 0 := by
  unfold nextI errX nextOk
  rw [h, decide_eq_true g, if_pos g]
  exact ⟨rfl, rfl⟩

def homeI (f : ByteArray) : Int := (actV f).pa / 96
theorem home_01 (f : ByteArray) : 0 ≤ homeI f ∧ homeI f ≤ 1 := by
  unfold homeI actV
  cases h : actO f with
  | none => show 0 ≤ (0 : Int) / 96 ∧ (0 : Int) / 96 ≤ 1; omega
  | some p =>
    obtain ⟨_, _, h1, h2⟩ := scan_mem (act_mem h)
    show 0 ≤ p.pa / 96 ∧ p.pa / 96 ≤ 1
    omega
def appOk (f : ByteArray) (q t z m : Int) : Bool := mayF f && recMay q t z m
def errP (ok : Bool) : Int := if ok then 0 else 800
def appA (f : ByteArray) : Int := if freeIs f (homeI f) then freeAt f (homeI f) else (1 - homeI f) * 96
def appE (f : ByteArray) : List FOp := if freeIs f (homeI f) then [] else [⟨true, (1 - homeI f) * 96, ⟨#[]⟩⟩]
def appL (f : ByteArray) (q t z m : Int) : List FOp := if appOk f q t z m then appE f ++ wordsTo (appA f) (putS q t z m) 6 else []
theorem app_no {f : ByteArray} {q t z m : Int} (h : appOk f q t z m = false) : appL f q t z m = [] := by unfold appL; rw [h]; rfl
theorem app_ok {f : ByteArray} {q t z m : Int} (h : appOk f q t z m = true) : appL f q t z m = appE f ++ wordsTo (appA f) (putS q t z m) 6 := by unfold appL; rw [if_pos h]
theorem appA_bound (f : ByteArray) : 0 ≤ appA f ∧ appA f ≤ 168 ∧ appA f % 24 = 0 := by
  have hh := home_01 f
  unfold appA
  cases h : freeIs f (homeI f) with
  | false => rw [if_neg (by decide)]; omega
  | true =>
    rw [if_pos rfl]
    obtain ⟨_, h1, h2, h3⟩ := free_in h
    omega
theorem app_words {f : ByteArray} {q t z m : Int} (h : appOk f q t z m = true) : wordsOk (appA f) (putS q t z m) = true ∧ wordsN (putS q t z m) = 6 ∧ wordsL (appA f) (putS q t z m) = wordsTo (appA f) (putS q t z m) 6 := by
  have hr : recMay q t z m = true := by unfold appOk at h; exact (Bool.and_eq_true _ _ ▸ h).2
  have hs := size_putS hr
  have ha := appA_bound f
  have h1 : wordsOk (appA f) (putS q t z m) = true := wordsOk_parts.2 ⟨by omega, by omega, by omega, by rw [hs]; omega⟩
  have h2 : wordsN (putS q t z m) = 6 := by unfold wordsN; rw [hs]
  exact ⟨h1, h2, by rw [wordsL_ok h1, h2]⟩

def rofOk (f : ByteArray) (t z : Int) : Bool := decide (f.size = 768 ∧ 0 ≤ t ∧ t ≤ 1 ∧ 1 ≤ z ∧ z ≤ 288)
theorem rofOk_parts {f : ByteArray} {t z : Int} : rofOk f t z = true ↔ f.size = 768 ∧ 0 ≤ t ∧ t ≤ 1 ∧ 1 ≤ z ∧ z ≤ 288 := by unfold rofOk; exact decide_eq_true_iff
def rofAll (f : ByteArray) (t z : Int) : Bool := rofOk f t z && decide (topI f < 1048576)
def rofQ (f : ByteArray) (t z : Int) : Int := if rofAll f t z then topI f + 1 else 0
def rofT (f : ByteArray) (t z : Int) : Int := if rofAll f t z then t else 0
def rofZ (f : ByteArray) (t z : Int) : Int := if rofAll f t z then z else 0
def rofM (f : ByteArray) (t z : Int) : Int := if rofAll f t z then sumI f t z else 0
def errS (f : ByteArray) (t z : Int) : Int := if rofOk f t z then (if topI f < 1048576 then 0 else 801) else 900
theorem rof_no {f : ByteArray} {t z : Int} (h : rofOk f t z = false) : rofQ f t z = 0 ∧ rofT f t z = 0 ∧ rofZ f t z = 0 ∧ rofM f t z = 0 ∧ errS f t z = 900 := by
  unfold rofQ rofT rofZ rofM errS rofAll
  rw [h]
  exact ⟨rfl, rfl, rfl, rfl, rfl⟩
theorem rof_full {f : ByteArray} {t z : Int} (h : rofOk f t z = true) (g : ¬ topI f < 1048576) : rofQ f t z = 0 ∧ rofT f t z = 0 ∧ rofZ f t z = 0 ∧ rofM f t z = 0 ∧ errS f t z = 801 := by
  unfold rofQ rofT rofZ rofM errS rofAll
  rw [h, decide_eq_false g, if_neg g]
  exact ⟨rfl, rfl, rfl, rfl, rfl⟩
theorem rof_yes {f : ByteArray} {t z : Int} (h : rofOk f t z = true) (g : topI f < 1048576) : rofQ f t z = topI f + 1 ∧ rofT f t z = t ∧ rofZ f t z = z ∧ rofM f t z = sumI f t z ∧ errS f t z = 0 := by
  unfold rofQ rofT rofZ rofM errS rofAll
  rw [h, decide_eq_true g, if_pos g]
  exact ⟨rfl, rfl, rfl, rfl, rfl⟩
end Go.Proofs.YtmlfkbkpkgaefaaGreatDoor.Act
