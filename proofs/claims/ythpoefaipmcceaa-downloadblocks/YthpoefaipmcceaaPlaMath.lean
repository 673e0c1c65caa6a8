/- Tame flashes, and what the steps that lay a record down leave of one, cut anywhere: as mathematics of texts. No program is named here. -/
import Derived.Test.YthpoefaipmcceaaChoMath
namespace Go.Proofs.Ythpoefaipmcceaa.Pla
open Go.Proofs.Ythpoefaipmcceaa Go.Proofs.Ythpoefaipmcceaa.Bytes Go.Proofs.Ythpoefaipmcceaa.Ent Go.Proofs.Ythpoefaipmcceaa.Ops Go.Proofs.Ythpoefaipmcceaa.Jou Go.Proofs.Ythpoefaipmcceaa.Act Go.Proofs.Ythpoefaipmcceaa.Held Go.Proofs.Ythpoefaipmcceaa.Cho

/-- A text's byte. -/
def bt (f : ByteArray) (i : Nat) : UInt8 := f.data.toList.getD i 0
theorem bt_of {f : ByteArray} {i : Nat} {c : UInt8} (h : f.data.toList[i]? = some c) : bt f i = c := by unfold bt; rw [List.getD_eq_getElem?_getD, h]; rfl
theorem bt_at (f : ByteArray) (i : Nat) (h : i < f.size) : f.data.toList[i]? = some (bt f i) := by
  unfold bt
  rw [List.getD_eq_getElem?_getD, List.getElem?_eq_getElem (by rw [Nor.size_list]; exact h)]
  rfl
theorem bt_eq {f g : ByteArray} {i : Nat} (h : f.data.toList[i]? = g.data.toList[i]?) : bt f i = bt g i := by unfold bt; rw [List.getD_eq_getElem?_getD, List.getD_eq_getElem?_getD, h]
theorem bt_get (f : ByteArray) (i : Nat) (h : i < f.size) : f[i] = bt f i := (bt_of (Nor.ba_get f i h)).symm
theorem bt_slot (f : ByteArray) (j i : Nat) (hi : i < 24) : bt (slotS f j) i = bt f (24 * j + i) := by
  unfold bt
  rw [List.getD_eq_getElem?_getD, List.getD_eq_getElem?_getD, get_slotS f j i hi]
theorem slot_same {f g : ByteArray} (hf : f.size = 768) (hg : g.size = 768) {j : Nat} (hj : j < 8) (h : ∀ i, i < 24 → bt f (24 * j + i) = bt g (24 * j + i)) : slotS f j = slotS g j := by
  refine slotS_eq fun i h1 h2 => ?_
  obtain ⟨k, rfl⟩ : ∃ k, i = 24 * j + k := ⟨i - 24 * j, by omega⟩
  rw [bt_at f _ (by omega), bt_at g _ (by omega), h k (by omega)]
theorem comp_bt {s : ByteArray} (h : getOk s = true) (i : Nat) (hi : i < 12) : bt s (i + 12) = ~~~(bt s i) := by
  have hz := (getOk_parts.1 h).1
  have := comp_get h i hi (by omega) (by omega)
  rw [bt_get s _ (by omega), bt_get s _ (by omega)] at this
  exact this
theorem or_more (a b s t : UInt8) (h1 : a &&& s = s) (h2 : b &&& t = t) (h : s ||| t = 255) : a ||| b = 255 := by
  apply UInt8.toBitVec_inj.1
  have h1' := congrArg UInt8.toBitVec h1
  have h2' := congrArg UInt8.toBitVec h2
  have h3' := congrArg UInt8.toBitVec h
  simp only [UInt8.toBitVec_and, UInt8.toBitVec_or] at h1' h2' h3' ⊢
  ext i hi
  have k1 := congrArg (fun x => x.getLsbD i) h1'
  have k2 := congrArg (fun x => x.getLsbD i) h2'
  have k3 := congrArg (fun x => x.getLsbD i) h3'
  simp [hi] at k1 k2 k3 ⊢
  have k4 : (255#8)[i] = true := by
    obtain rfl | rfl | rfl | rfl | rfl | rfl | rfl | rfl : i = 0 ∨ i = 1 ∨ i = 2 ∨ i = 3 ∨ i = 4 ∨ i = 5 ∨ i = 6 ∨ i = 7 := by omega
    all_goals simp
  rw [k4] at k3 ⊢
  cases ha : a.toBitVec[i] <;> cases hb : b.toBitVec[i] <;> cases hs : s.toBitVec[i] <;> cases ht : t.toBitVec[i] <;> simp_all
theorem all_and (s : UInt8) : 255 &&& s = s := and_ff s
theorem or_not (s : UInt8) : s ||| ~~~s = 255 := by
  have h : ∀ n : Fin 256, UInt8.ofNat n.val ||| ~~~(UInt8.ofNat n.val) = 255 := by decide +kernel
  have := h ⟨s.toNat, s.toNat_lt⟩
  simpa only [UInt8.ofNat_toNat] using this
theorem or_all (a : UInt8) : a ||| 255 = 255 := by
  have h : ∀ n : Fin 256, UInt8.ofNat n.val ||| 255 = 255 := by decide +kernel
  have := h ⟨a.toNat, a.toNat_lt⟩
  simpa only [UInt8.ofNat_toNat] using this
theorem all_or (a : UInt8) : 255 ||| a = 255 := by rw [UInt8.or_comm]; exact or_all a
theorem keep_more (s : UInt8) (k : Nat) : Nor.keep s k &&& s = s := by
  have h := Nor.keep_keep s k 8
  rw [Nor.keep_8 s 8 (Nat.le_refl _), Nor.keep_8 s (max k 8) (by omega)] at h
  exact h

/-- A tame flash. -/
def tameB (f : ByteArray) : Bool := decide (f.size = 768) && (List.range 8).all fun i => (List.range 12).all fun k => decide (bt f (24 * i + k) ||| bt f (24 * i + k + 12) = 255)
theorem tame_parts {f : ByteArray} : tameB f = true ↔ f.size = 768 ∧ ∀ i, i < 8 → ∀ k, k < 12 → bt f (24 * i + k) ||| bt f (24 * i + k + 12) = 255 := by
  unfold tameB
  simp only [Bool.and_eq_true, decide_eq_true_iff, List.all_eq_true, List.mem_range]

theorem bt_worn {f : ByteArray} {s k : Int} (h : Nor.wornOk f s k = true) (i : Nat) (hi : i < 768) : bt (Nor.wornS f s k) i = if 96 * s.toNat ≤ i ∧ i < 96 * s.toNat + k.toNat then 255 else bt f i := by
  have hf := Nor.size_of_wornOk h
  apply bt_of
  rw [Nor.list_wornS h, Nor.get_wornL, bt_at f i (by omega)]
  rfl
theorem worn_all {f : ByteArray} {s k : Int} (h : Nor.wornOk f s k = true) (i : Nat) (hi : i < 96 * s.toNat ∨ 96 * s.toNat + k.toNat ≤ i) : (Nor.wornS f s k).data.toList[i]? = f.data.toList[i]? := by
  rw [Nor.list_wornS h, Nor.get_wornL]
  cases f.data.toList[i]? with
  | none => rfl
  | some c => simp only [Option.map_some]; rw [if_neg (by omega)]
theorem worn_tame {f : ByteArray} {s k : Int} (ht : tameB f = true) (h : Nor.wornOk f s k = true) : tameB (Nor.wornS f s k) = true := by
  obtain ⟨hf, ht⟩ := tame_parts.1 ht
  refine tame_parts.2 ⟨Nor.size_wornS h, fun i hi j hj => ?_⟩
  rw [bt_worn h _ (by omega), bt_worn h _ (by omega)]
  by_cases h1 : 96 * s.toNat ≤ 24 * i + j ∧ 24 * i + j < 96 * s.toNat + k.toNat
  · rw [if_pos h1, all_or]
  · by_cases h2 : 96 * s.toNat ≤ 24 * i + j + 12 ∧ 24 * i + j + 12 < 96 * s.toNat + k.toNat
    · rw [if_pos h2, or_all]
    · rw [if_neg h1, if_neg h2]
      exact ht i hi j hj
/-- A sector's erasing, cut anywhere, makes no record: what is one then was it ahead. -/
theorem worn_slot {f : ByteArray} {s k : Int} (ht : tameB f = true) (h : Nor.wornOk f s k = true) (j : Nat) (hj : j < 8) : slotS (Nor.wornS f s k) j = slotS f j ∨ getOk (slotS (Nor.wornS f s k) j) = false := by
  obtain ⟨hf, ht⟩ := tame_parts.1 ht
  cases hg : getOk (slotS (Nor.wornS f s k) j) with
  | false => exact .inr rfl
  | true =>
    refine .inl (slot_same (Nor.size_wornS h) hf hj ?_)
    have hc : ∀ i, i < 12 → bt (Nor.wornS f s k) (24 * j + i + 12) = ~~~(bt (Nor.wornS f s k) (24 * j + i)) := fun i hi => by
      have := comp_bt hg i hi
      rw [bt_slot _ _ _ (by omega), bt_slot _ _ _ (by omega)] at this
      exact this
    have lo : ∀ i, i < 12 → bt (Nor.wornS f s k) (24 * j + i) = bt f (24 * j + i) ∧ bt (Nor.wornS f s k) (24 * j + i + 12) = bt f (24 * j + i + 12) := fun i hi => by
      have c := hc i hi
      have t := ht j hj i hi
      have e1 := bt_worn h (24 * j + i) (by omega)
      have e2 := bt_worn h (24 * j + i + 12) (by omega)
      by_cases h1 : 96 * s.toNat ≤ 24 * j + i ∧ 24 * j + i < 96 * s.toNat + k.toNat
      · rw [if_pos h1] at e1
        by_cases h2 : 96 * s.toNat ≤ 24 * j + i + 12 ∧ 24 * j + i + 12 < 96 * s.toNat + k.toNat
        · rw [if_pos h2] at e2
          rw [e1, e2] at c
          exact absurd c (by decide)
        · rw [if_neg h2] at e2
          rw [e1, e2] at c
          rw [c] at t
          rw [e1, e2]
          refine ⟨?_, rfl⟩
          rw [show (~~~(255 : UInt8)) = 0 from by decide, UInt8.or_zero] at t
          exact t.symm
      · rw [if_neg h1] at e1
        by_cases h2 : 96 * s.toNat ≤ 24 * j + i + 12 ∧ 24 * j + i + 12 < 96 * s.toNat + k.toNat
        · exfalso
          -- the sector begins within this place: it does not
          have hk := of_decide_eq_true (show decide (f.size = 768 ∧ 0 ≤ s ∧ s < 8 ∧ 0 ≤ k ∧ k ≤ 96) = true from h)
          omega
        · rw [if_neg h2] at e2
          exact ⟨e1, e2⟩
    intro i hi
    by_cases h1 : i < 12
    · exact (lo i h1).1
    · obtain ⟨n, rfl⟩ : ∃ n, i = n + 12 := ⟨i - 12, by omega⟩
      exact (lo n (by omega)).2
theorem worn_other {f : ByteArray} {s k : Int} (h : Nor.wornOk f s k = true) (j : Nat) (hj : ¬ j / 4 = s.toNat) : slotS (Nor.wornS f s k) j = slotS f j := by
  have hk := of_decide_eq_true (show decide (f.size = 768 ∧ 0 ≤ s ∧ s < 8 ∧ 0 ≤ k ∧ k ≤ 96) = true from h)
  exact slotS_eq fun i h1 h2 => worn_all h i (by omega)

/-- A record's bytes s are under way in place j of g: all else stands, and none of its bits is programmed that s does not ask for. -/
structure Part (g y : ByteArray) (j : Nat) (s : ByteArray) : Prop where
  sy : y.size = 768
  out : ∀ i, (i < 24 * j ∨ 24 * j + 24 ≤ i) → y.data.toList[i]? = g.data.toList[i]?
  ov : ∀ i, i < 24 → bt y (24 * j + i) &&& bt s i = bt s i
theorem getD_bt {s : ByteArray} {i : Nat} (h : i < s.size) : s.data.toList.getD i 255 = bt s i := by rw [List.getD_eq_getElem?_getD, bt_at s i h]; rfl
theorem full_bt {g : ByteArray} {j : Nat} (hb : slotS g j = full24) (i : Nat) (hi : i < 24) : g.data.toList[24 * j + i]? = some 255 := by
  rw [← get_slotS g j i hi, hb, list_full24, List.getElem?_replicate, if_pos hi]
theorem part_cut {g s : ByteArray} {j : Nat} (hg : g.size = 768) (hs : s.size = 24) (hj : j < 8) (hb : slotS g j = full24) (n : Nat) (hn : n < 6) (c : Int) (hc0 : 0 ≤ c) (hc1 : c ≤ 96) :
    cutOk (overS g s (24 * j) n) false (((24 * j : Nat) : Int) + 4 * (n : Int)) (wordS s n) c = true ∧ Part g (cutS (overS g s (24 * j) n) false (((24 * j : Nat) : Int) + 4 * (n : Int)) (wordS s n) c) j s := by
  have hw : wordsOk ((24 * j : Nat) : Int) s = true := wordsOk_parts.2 ⟨by omega, by omega, by omega, by omega⟩
  have e : cutOk (overS g s (24 * j) n) false (((24 * j : Nat) : Int) + 4 * (n : Int)) (wordS s n) c = true := cutOk_parts.2 ⟨by rw [size_overS]; exact hg, wordsMay hw n (by unfold wordsN; omega), hc0, hc1⟩
  have el : ∀ i : Nat, (cutS (overS g s (24 * j) n) false (((24 * j : Nat) : Int) + 4 * (n : Int)) (wordS s n) c).data.toList[i]? = (Nor.tornL (overL g.data.toList s.data.toList (24 * j) n) (wordL s.data.toList n) (24 * j + 4 * n) (min c.toNat 32))[i]? := fun i => by
    rw [list_cutS e, list_overS, show (((24 * j : Nat) : Int) + 4 * (n : Int)).toNat = 24 * j + 4 * n from by omega]
    rfl
  refine ⟨e, ⟨size_cutS e, fun i hi => ?_, fun i hi => ?_⟩⟩
  · rw [el i, Nor.get_tornL, get_overL]
    cases g.data.toList[i]? with
    | none => rfl
    | some b => simp only [Option.map_some]; rw [if_neg (by omega), if_neg (by omega)]
  · have h := el (24 * j + i)
    rw [Nor.get_tornL, get_overL, full_bt hb i hi] at h
    simp only [Option.map_some] at h
    rw [show 24 * j + i - 24 * j = i from by omega, getD_bt (by omega)] at h
    by_cases h1 : 24 * j + 4 * n ≤ 24 * j + i ∧ 24 * j + i < 24 * j + 4 * n + 4
    · rw [if_pos h1, if_neg (by omega), wordL_get _ _ _ (by omega), show 4 * n + (24 * j + i - (24 * j + 4 * n)) = i from by omega, getD_bt (by omega), all_and] at h
      rw [bt_of h]
      exact keep_more _ _
    · rw [if_neg h1] at h
      by_cases h2 : 24 * j ≤ 24 * j + i ∧ 24 * j + i < 24 * j + 4 * n
      · rw [if_pos h2, all_and] at h
        rw [bt_of h, UInt8.and_self]
      · rw [if_neg h2] at h
        rw [bt_of h, all_and]
theorem part_tame {g y s : ByteArray} {j : Nat} (ht : tameB g = true) (hs : getOk s = true) (h : Part g y j s) : tameB y = true := by
  obtain ⟨hg, ht⟩ := tame_parts.1 ht
  refine tame_parts.2 ⟨h.sy, fun i hi k hk => ?_⟩
  by_cases e : i = j
  · subst e
    have h1 := h.ov k (by omega)
    have h2 := h.ov (k + 12) (by omega)
    rw [comp_bt hs k hk, show 24 * i + (k + 12) = 24 * i + k + 12 from by omega] at h2
    exact or_more _ _ _ _ h1 h2 (or_not _)
  · rw [bt_eq (h.out (24 * i + k) (by omega)), bt_eq (h.out (24 * i + k + 12) (by omega))]
    exact ht i hi k hk
theorem part_other {g y s : ByteArray} {j : Nat} (h : Part g y j s) (i : Nat) (hi : ¬ i = j) : slotS y i = slotS g i := slotS_eq fun k h1 h2 => h.out k (by omega)
theorem part_new {g y s : ByteArray} {j : Nat} (hs : getOk s = true) (h : Part g y j s) : slotS y j = s ∨ getOk (slotS y j) = false := by
  cases hg : getOk (slotS y j) with
  | false => exact .inr rfl
  | true =>
    refine .inl (only_itself hs hg fun i h1 h2 => ?_)
    have hz := (getOk_parts.1 hs).1
    rw [bt_get _ _ h1, bt_get _ _ h2, bt_slot _ _ _ (by omega)]
    exact h.ov i (by omega)

/-- The records of a flash, place by place. -/
theorem found_iff {f : ByteArray} {n : Nat} {p : FPl} : p ∈ foundTo f n ↔ ∃ j, j < n ∧ getOk (slotS f j) = true ∧ p = recAt f j := by
  refine ⟨foundTo_mem, ?_⟩
  rintro ⟨j, h1, h2, rfl⟩
  unfold foundTo
  rw [List.mem_map]
  exact ⟨j, by rw [List.mem_filter, List.mem_range]; exact ⟨h1, h2⟩, rfl⟩
theorem scan_iff {f : ByteArray} (hf : f.size = 768) {p : FPl} : p ∈ scanL f ↔ ∃ j, j < 8 ∧ getOk (slotS f j) = true ∧ p = recAt f j := by rw [scan_ok hf]; exact found_iff
theorem scan_row (f : ByteArray) : (scanL f).Pairwise (fun a b => a.pa < b.pa) := by
  by_cases hf : f.size = 768
  · rw [scan_ok hf]
    unfold foundTo
    rw [List.pairwise_map]
    refine (List.Pairwise.filter _ List.pairwise_lt_range).imp ?_
    intro a b h
    show 24 * (a : Int) < 24 * (b : Int)
    omega
  · rw [scan_no hf]; exact List.Pairwise.nil
theorem row_lt {f : ByteArray} {i k : Nat} (hi : i < (scanL f).length) (hk : k < (scanL f).length) (h : i < k) : (scanL f)[i].pa < (scanL f)[k].pa := List.pairwise_iff_getElem.1 (scan_row f) i k hi hk h
/-- What the active record is, place by place. -/
theorem act_iff {f : ByteArray} (hf : f.size = 768) {p : FPl} : actO f = some p ↔ p ∈ scanL f ∧ goodP f p = true ∧ ∀ r ∈ scanL f, goodP f r = true → r.pq < p.pq ∨ (r.pq = p.pq ∧ r.pa ≤ p.pa) := by
  constructor
  · intro h
    obtain ⟨k, hk, e, _, g, hb⟩ := act_best h
    refine ⟨act_mem h, g, fun r hr gr => ?_⟩
    obtain ⟨i, hi, rfl⟩ := List.getElem_of_mem hr
    rcases hb i hi gr with h1 | ⟨h1, h2⟩
    · exact .inl h1
    · refine .inr ⟨h1, ?_⟩
      by_cases e2 : i = k
      · subst e2; rw [e]; exact Int.le_refl _
      · have := row_lt hi hk (by omega)
        rw [e] at this
        omega
  · rintro ⟨hm, hg, hb⟩
    obtain ⟨k, hk, e⟩ := List.getElem_of_mem hm
    have b := best_of (f := f) hk (by rw [e]; exact hg) fun i hi gi => by
      rw [e]
      rcases hb _ (List.getElem_mem hi) gi with h1 | ⟨h1, h2⟩
      · exact .inl h1
      · refine .inr ⟨h1, ?_⟩
        by_cases e2 : i ≤ k
        · exact e2
        · have := row_lt hk hi (by omega)
          rw [e] at this
          omega
    have := (act_some (mayF_t hf) hk b).1
    rw [e] at this
    exact this
theorem fold_ge : ∀ (l : List FPl) (x : Int), x ≤ l.foldl (fun x p => max x p.pq) x ∧ ∀ p ∈ l, p.pq ≤ l.foldl (fun x p => max x p.pq) x
  | [], x => ⟨Int.le_refl _, fun p h => by cases h⟩
  | r :: l, x => by
    obtain ⟨h1, h2⟩ := fold_ge l (max x r.pq)
    refine ⟨by show x ≤ l.foldl _ (max x r.pq); omega, fun p hp => ?_⟩
    show p.pq ≤ l.foldl _ (max x r.pq)
    rcases List.mem_cons.1 hp with rfl | hp
    · omega
    · exact h2 p hp
theorem fold_le (q : Int) : ∀ (l : List FPl) (x : Int), x ≤ q → (∀ p ∈ l, p.pq ≤ q) → l.foldl (fun x p => max x p.pq) x ≤ q
  | [], _, h, _ => h
  | r :: l, x, h, hp => fold_le q l (max x r.pq) (by have := hp r (List.mem_cons_self ..); omega) fun p h => hp p (List.mem_cons_of_mem _ h)
theorem top_ge {f : ByteArray} {p : FPl} (h : p ∈ scanL f) : p.pq ≤ topI f := (fold_ge (scanL f) 0).2 p h
theorem top_le {f : ByteArray} {q : Int} (h0 : 0 ≤ q) (h : ∀ p ∈ scanL f, p.pq ≤ q) : topI f ≤ q := fold_le q (scanL f) 0 h0 h

/-- y is f but for places that tell nothing, and place j, which may bear the record whose bytes are s. -/
structure Near (f y : ByteArray) (j : Nat) (s : ByteArray) : Prop where
  sf : f.size = 768
  sy : y.size = 768
  out : ∀ i, 192 ≤ i → y.data.toList[i]? = f.data.toList[i]?
  sl : ∀ i, i < 8 → slotS y i = slotS f i ∨ getOk (slotS y i) = false ∨ (i = j ∧ slotS y i = s)
theorem near_good {f y s : ByteArray} {j : Nat} (h : Near f y j s) (r : FPl) : goodP y r = goodP f r := good_eq h.sy h.sf r fun i h1 h2 => h.out i (by omega)
theorem near_mem {f y : ByteArray} {j : Nat} {q t z m : Int} (hr : recMay q t z m = true) (h : Near f y j (putS q t z m)) {r : FPl} (hm : r ∈ scanL y) : r ∈ scanL f ∨ (r = ⟨24 * (j : Int), q, t, z, m⟩ ∧ slotS y j = putS q t z m) := by
  obtain ⟨i, hi, hg, rfl⟩ := (scan_iff h.sy).1 hm
  rcases h.sl i hi with e | e | ⟨rfl, e⟩
  · exact .inl ((scan_iff h.sf).2 ⟨i, hi, by rw [← e]; exact hg, recAt_eq e⟩)
  · rw [e] at hg; cases hg
  · exact .inr ⟨(recAt_put hr e).2, e⟩
/-- Where the new record stands, it is the active one, and its number is the greatest. -/
theorem near_new {f y : ByteArray} {j : Nat} {q t z m : Int} (hj : j < 8) (hr : recMay q t z m = true) (h : Near f y j (putS q t z m)) (hq : topI f < q) (hg : goodB f q t z m = true) (hs : slotS y j = putS q t z m) : actO y = some ⟨24 * (j : Int), q, t, z, m⟩ ∧ topI y = q := by
  have hm : (⟨24 * (j : Int), q, t, z, m⟩ : FPl) ∈ scanL y := (scan_iff h.sy).2 ⟨j, hj, (recAt_put hr hs).1, (recAt_put hr hs).2.symm⟩
  have hl : ∀ r ∈ scanL y, r = ⟨24 * (j : Int), q, t, z, m⟩ ∨ r.pq < q := fun r hr' => by
    rcases near_mem hr h hr' with h1 | h1
    · have := top_ge h1
      exact .inr (by omega)
    · exact .inl h1.1
  constructor
  · refine (act_iff h.sy).2 ⟨hm, by rw [near_good h]; exact hg, fun r hr' _ => ?_⟩
    rcases hl r hr' with rfl | h1
    · exact .inr ⟨rfl, Int.le_refl _⟩
    · exact .inl h1
  · have a := top_ge hm
    have b := top_le (f := y) (q := q) (by have := topI_bound f; omega) fun r hr' => by
      rcases hl r hr' with rfl | h1
      · exact Int.le_refl _
      · omega
    exact Int.le_antisymm b a
/-- While it does not stand, the active one stays. -/
theorem near_old {f y : ByteArray} {j : Nat} {q t z m : Int} {p : FPl} (hr : recMay q t z m = true) (h : Near f y j (putS q t z m)) (ha : actO f = some p) (hp : ∀ i, i < 8 → getOk (slotS f i) = true → p = recAt f i → slotS y i = slotS f i) (hs : ¬ slotS y j = putS q t z m) : actO y = some p := by
  obtain ⟨hm, hg, hb⟩ := (act_iff h.sf).1 ha
  obtain ⟨i, hi, hk, e⟩ := (scan_iff h.sf).1 hm
  have es := hp i hi hk e
  refine (act_iff h.sy).2 ⟨(scan_iff h.sy).2 ⟨i, hi, by rw [es]; exact hk, by rw [e]; exact (recAt_eq es).symm⟩, by rw [near_good h]; exact hg, fun r hr' gr => ?_⟩
  rcases near_mem hr h hr' with h1 | h1
  · rw [near_good h] at gr
    exact hb r h1 gr
  · exact absurd h1.2 hs
theorem near_some {f y : ByteArray} {j : Nat} {q t z m : Int} {p : FPl} (hj : j < 8) (hr : recMay q t z m = true) (h : Near f y j (putS q t z m)) (hq : topI f < q) (hg : goodB f q t z m = true) (ha : actO f = some p) (hp : ∀ i, i < 8 → getOk (slotS f i) = true → p = recAt f i → slotS y i = slotS f i) : actO y = some p ∨ actO y = some ⟨24 * (j : Int), q, t, z, m⟩ := by
  by_cases hs : slotS y j = putS q t z m
  · exact .inr (near_new hj hr h hq hg hs).1
  · exact .inl (near_old hr h ha hp hs)

/-- Where the next record goes: a blank place of home, or the first one of the other sector, which is erased ahead. -/
theorem app_place (f : ByteArray) : ∃ j, j < 8 ∧ appA f = ((24 * j : Nat) : Int) ∧ ((appE f = [] ∧ slotS f j = full24 ∧ freeIs f (homeI f) = true) ∨ ∃ H : Nat, H ≤ 1 ∧ j = 4 * H ∧ appE f = [⟨true, ((96 * H : Nat) : Int), ⟨#[]⟩⟩] ∧ ¬ homeI f = (H : Int) ∧ freeIs f (homeI f) = false) := by
  have hh := home_01 f
  unfold appA appE
  cases h : freeIs f (homeI f) with
  | true =>
    have h0 := (free_in h).1
    obtain ⟨_, h1, h2⟩ := freeOk_parts.1 h0
    have h' := h
    unfold freeIs freeO at h'
    rw [if_pos h0] at h'
    obtain ⟨j, hj⟩ := Option.isSome_iff_exists.1 h'
    obtain ⟨g1, g2, g3⟩ := freeFrom_some hj
    have e : freeAt f (homeI f) = 24 * (j : Int) := by unfold freeAt freeO; rw [if_pos h0, hj]; rfl
    refine ⟨j, by omega, by rw [if_pos rfl, e]; omega, .inl ⟨by rw [if_pos rfl], ?_, rfl⟩⟩
    unfold blankP at g3
    exact of_decide_eq_true g3
  | false =>
    obtain ⟨H, hH⟩ : ∃ H : Nat, (H : Int) = 1 - homeI f := ⟨(1 - homeI f).toNat, by omega⟩
    refine ⟨4 * H, by omega, by rw [if_neg (by decide)]; omega, .inr ⟨H, by omega, rfl, ?_, by omega, rfl⟩⟩
    rw [if_neg (by decide), show (1 - homeI f) * 96 = ((96 * H : Nat) : Int) from by omega]
/-- The flash ahead of the words. -/
theorem erase_step {f : ByteArray} (hf : f.size = 768) (H : Nat) (hH : H ≤ 1) (c : Int) (h0 : 0 ≤ c) (h1 : c ≤ 96) : cutOk f true ((96 * H : Nat) : Int) ⟨#[]⟩ c = true ∧ Nor.wornOk f (H : Int) c = true ∧ cutS f true ((96 * H : Nat) : Int) ⟨#[]⟩ c = Nor.wornS f (H : Int) c := by
  have e : cutOk f true ((96 * H : Nat) : Int) ⟨#[]⟩ c = true := cutOk_parts.2 ⟨hf, may_er.2 ⟨by omega, by omega, by omega, rfl⟩, h0, h1⟩
  obtain ⟨g1, g2⟩ := cut_er e
  rw [show ((96 * H : Nat) : Int) / 96 = (H : Int) from by omega] at g1 g2
  exact ⟨e, g1, g2⟩
end Go.Proofs.Ythpoefaipmcceaa.Pla
