/- Which record is the active one, told by what it is: good, and none that is good has a greater number, or the same one farther on; what is left of it where a flash is turned elsewhere. No program is named here. -/
import Derived.Test.YthpoefaipmcceaaImgHeld
namespace Go.Proofs.Ythpoefaipmcceaa.Cho
open Go.Proofs.Ythpoefaipmcceaa Go.Proofs.Ythpoefaipmcceaa.Bytes Go.Proofs.Ythpoefaipmcceaa.Ent Go.Proofs.Ythpoefaipmcceaa.Ops Go.Proofs.Ythpoefaipmcceaa.Jou Go.Proofs.Ythpoefaipmcceaa.Act Go.Proofs.Ythpoefaipmcceaa.Held

theorem getD_at {l : List FPl} {n : Nat} (h : n < l.length) : l.getD n zeroP = l[n] := by rw [List.getD_eq_getElem?_getD, List.getElem?_eq_getElem h]; rfl

/-- The best one of the first n, as a record. -/
def curTo (f : ByteArray) (l : List FPl) (n : Nat) : FPl := match bestTo f l n with | none => zeroP | some k => l.getD k zeroP
theorem cur_0 (f : ByteArray) (l : List FPl) : curTo f l 0 = zeroP := rfl
theorem cur_none {f : ByteArray} {l : List FPl} {n : Nat} (h : bestTo f l n = none) : curTo f l n = zeroP := by unfold curTo; rw [h]
theorem cur_some {f : ByteArray} {l : List FPl} {n k : Nat} (h : bestTo f l n = some k) (hk : k < l.length) : curTo f l n = l[k] := by unfold curTo; rw [h]; exact getD_at hk
theorem cur_bad {f : ByteArray} {l : List FPl} {n : Nat} (h : n < l.length) (hg : goodP f l[n] = false) : curTo f l (n + 1) = curTo f l n := by unfold curTo; rw [best_bad h hg]
theorem cur_take {f : ByteArray} {l : List FPl} {n : Nat} (h : n < l.length) (hg : goodP f l[n] = true) (hq : (curTo f l n).pq ≤ l[n].pq) : curTo f l (n + 1) = l[n] := by
  cases hb : bestTo f l n with
  | none => exact cur_some (best_first h hg hb) h
  | some k =>
    have hk := bestTo_lt hb
    have hkl : k < l.length := by omega
    rw [cur_some hb hkl] at hq
    have e := best_next h hkl hg hb
    rw [if_pos hq] at e
    exact cur_some e h
theorem cur_less {f : ByteArray} {l : List FPl} {n : Nat} (hp : ∀ p ∈ l, 1 ≤ p.pq ∧ p.pq ≤ 1048576) (h : n < l.length) (hq : ¬ (curTo f l n).pq ≤ l[n].pq) : curTo f l (n + 1) = curTo f l n := by
  cases hg : goodP f l[n] with
  | false => exact cur_bad h hg
  | true =>
    cases hb : bestTo f l n with
    | none =>
      rw [cur_none hb] at hq
      have := hp l[n] (List.getElem_mem h)
      exact absurd (show (0 : Int) ≤ l[n].pq by omega) hq
    | some k =>
      have hk := bestTo_lt hb
      have hkl : k < l.length := by omega
      have e := best_next h hkl hg hb
      have hq' := hq
      rw [cur_some hb hkl] at hq'
      rw [if_neg hq'] at e
      rw [cur_some e hkl, cur_some hb hkl]
theorem cur_end {f : ByteArray} (h : mayF f = true) (c : FPl) (hc : c = curTo f (scanL f) (scanL f).length) : (c.pq = 0 ∧ actV f = zeroP ∧ errA f = 701) ∨ (¬ c.pq = 0 ∧ actV f = c ∧ errA f = 0) := by
  subst hc
  cases hb : bestTo f (scanL f) (scanL f).length with
  | none =>
    rw [cur_none hb]
    exact .inl ⟨rfl, (act_none h hb).2⟩
  | some k =>
    have hk := bestTo_lt hb
    rw [cur_some hb hk]
    have := scan_seq f _ (List.getElem_mem hk)
    exact .inr ⟨by omega, (act_some h hk hb).2⟩

/-- Which slot is the other one. -/
def othI (f : ByteArray) : Int := match actO f with | some p => 1 - p.pt | none => 0
def errOt (f : ByteArray) : Int := if mayF f then 0 else 700
/-- The three ways of a flash: it may not be, none is active, one is. -/
theorem three (f : ByteArray) : (mayF f = false ∧ actO f = none ∧ actV f = zeroP ∧ errA f = 700 ∧ othI f = 0 ∧ errOt f = 700) ∨ (mayF f = true ∧ actO f = none ∧ actV f = zeroP ∧ errA f = 701 ∧ othI f = 0 ∧ errOt f = 0) ∨ (mayF f = true ∧ actO f = some (actV f) ∧ errA f = 0 ∧ othI f = 1 - (actV f).pt ∧ errOt f = 0) := by
  cases h : mayF f with
  | false =>
    obtain ⟨h1, h2, h3⟩ := act_no h
    exact .inl ⟨rfl, h1, h2, h3, by unfold othI; rw [h1], by unfold errOt; rw [h]; rfl⟩
  | true =>
    refine .inr ?_
    cases hb : bestO f with
    | none =>
      obtain ⟨h1, h2, h3⟩ := act_none h hb
      exact .inl ⟨rfl, h1, h2, h3, by unfold othI; rw [h1], by unfold errOt; rw [h]; rfl⟩
    | some k =>
      obtain ⟨h1, h2, h3⟩ := act_some h (bestTo_lt hb) hb
      exact .inr ⟨rfl, by rw [h1, h2], h3, by unfold othI; rw [h1, h2], by unfold errOt; rw [h]; rfl⟩
theorem act_may {f : ByteArray} {p : FPl} (h : actO f = some p) : mayF f = true ∧ actV f = p ∧ errA f = 0 := by
  have hV : actV f = p := by unfold actV; rw [h]; rfl
  rcases three f with ⟨_, h1, _⟩ | ⟨_, h1, _⟩ | ⟨h0, _, h1, _⟩
  · rw [h1] at h; cases h
  · rw [h1] at h; cases h
  · exact ⟨h0, hV, h1⟩
theorem act_rec {f : ByteArray} {p : FPl} (h : actO f = some p) : f.size = 768 ∧ recMay p.pq p.pt p.pz p.pm = true ∧ 0 ≤ p.pa ∧ p.pa ≤ 168 := scan_mem (act_mem h)
theorem act_slot {f : ByteArray} {p : FPl} (h : actO f = some p) : p.pt = 0 ∨ p.pt = 1 := by
  have := recMay_parts.1 (act_rec h).2.1
  omega

theorem none_is {f : ByteArray} {l : List FPl} : ∀ (n : Nat), n ≤ l.length → bestTo f l n = none → ∀ i, i < n → goodP f (l.getD i zeroP) = false
  | 0, _, _, i, hi => by omega
  | n + 1, hn, h, i, hi => by
    have hl : n < l.length := by omega
    cases hg : goodP f l[n] with
    | false =>
      rw [best_bad hl hg] at h
      by_cases ei : i = n
      · subst ei; rw [getD_at hl]; exact hg
      · exact none_is n (by omega) h i (by omega)
    | true =>
      cases hb : bestTo f l n with
      | none => rw [best_first hl hg hb] at h; cases h
      | some j =>
        have hj := bestTo_lt hb
        have hjl : j < l.length := by omega
        rw [best_next hl hjl hg hb] at h
        by_cases hq : l[j].pq ≤ l[n].pq
        · rw [if_pos hq] at h; cases h
        · rw [if_neg hq] at h; cases h
/-- What the best one is. -/
theorem best_is {f : ByteArray} {l : List FPl} : ∀ (n k : Nat), n ≤ l.length → bestTo f l n = some k → goodP f (l.getD k zeroP) = true ∧ ∀ i, i < n → goodP f (l.getD i zeroP) = true → (l.getD i zeroP).pq < (l.getD k zeroP).pq ∨ ((l.getD i zeroP).pq = (l.getD k zeroP).pq ∧ i ≤ k)
  | 0, k, _, h => by cases h
  | n + 1, k, hn, h => by
    have hl : n < l.length := by omega
    have e := getD_at hl
    cases hg : goodP f l[n] with
    | false =>
      rw [best_bad hl hg] at h
      obtain ⟨h1, h2⟩ := best_is n k (by omega) h
      refine ⟨h1, fun i hi gi => ?_⟩
      by_cases ei : i = n
      · subst ei; rw [e, hg] at gi; cases gi
      · exact h2 i (by omega) gi
    | true =>
      cases hb : bestTo f l n with
      | none =>
        rw [best_first hl hg hb] at h
        cases h
        refine ⟨by rw [e]; exact hg, fun i hi gi => ?_⟩
        by_cases ei : i = n
        · subst ei; exact .inr ⟨rfl, Nat.le_refl _⟩
        · exact absurd gi (by rw [none_is n (by omega) hb i (by omega)]; decide)
      | some j =>
        have hj := bestTo_lt hb
        have hjl : j < l.length := by omega
        have ej := getD_at hjl
        obtain ⟨h1, h2⟩ := best_is n j (by omega) hb
        rw [best_next hl hjl hg hb] at h
        by_cases hq : l[j].pq ≤ l[n].pq
        · rw [if_pos hq] at h
          cases h
          refine ⟨by rw [e]; exact hg, fun i hi gi => ?_⟩
          by_cases ei : i = n
          · subst ei; exact .inr ⟨rfl, Nat.le_refl _⟩
          · have := h2 i (by omega) gi
            rw [ej] at this
            rw [e]
            omega
        · rw [if_neg hq] at h
          cases h
          refine ⟨h1, fun i hi gi => ?_⟩
          by_cases ei : i = n
          · subst ei; rw [e, ej]; omega
          · exact h2 i (by omega) gi
theorem best_of {f : ByteArray} {l : List FPl} {k : Nat} (hk : k < l.length) (hg : goodP f l[k] = true) (h : ∀ i (hi : i < l.length), goodP f l[i] = true → l[i].pq < l[k].pq ∨ (l[i].pq = l[k].pq ∧ i ≤ k)) : bestTo f l l.length = some k := by
  cases hb : bestTo f l l.length with
  | none =>
    have := none_is l.length (Nat.le_refl _) hb k hk
    rw [getD_at hk, hg] at this
    cases this
  | some j =>
    have hj := bestTo_lt hb
    obtain ⟨g1, g2⟩ := best_is l.length j (Nat.le_refl _) hb
    have a := g2 k hk (by rw [getD_at hk]; exact hg)
    rw [getD_at hj] at g1 a
    rw [getD_at hk] at a
    have b := h j hj g1
    congr 1
    omega
/-- The active one is good, stands in the journal, and none that is good has a greater number. -/
theorem act_best {f : ByteArray} {p : FPl} (h : actO f = some p) : ∃ k, ∃ hk : k < (scanL f).length, (scanL f)[k] = p ∧ bestTo f (scanL f) (scanL f).length = some k ∧ goodP f p = true ∧ ∀ i (hi : i < (scanL f).length), goodP f (scanL f)[i] = true → (scanL f)[i].pq < p.pq ∨ ((scanL f)[i].pq = p.pq ∧ i ≤ k) := by
  cases hb : bestO f with
  | none => unfold actO at h; rw [hb] at h; cases h
  | some k =>
    have hk := bestTo_lt hb
    have e : actO f = some (scanL f)[k] := (act_some (act_may h).1 hk hb).1
    rw [h] at e
    cases e
    obtain ⟨g1, g2⟩ := best_is _ k (Nat.le_refl _) hb
    rw [getD_at hk] at g1 g2
    refine ⟨k, hk, rfl, hb, g1, fun i hi gi => ?_⟩
    have := g2 i hi (by rw [getD_at hi]; exact gi)
    rw [getD_at hi] at this
    exact this
theorem act_bad {f : ByteArray} (h : actO f = none) {i : Nat} (hi : i < (scanL f).length) : goodP f (scanL f)[i] = false := by
  have hb : bestTo f (scanL f) (scanL f).length = none := by
    cases hb : bestO f with
    | none => exact hb
    | some k => unfold actO at h; rw [hb] at h; cases h
  have := none_is _ (Nat.le_refl _) hb i hi
  rw [getD_at hi] at this
  exact this
/-- Where every other one that is good has a smaller number, this one is active. -/
theorem act_of {f : ByteArray} {p : FPl} {k : Nat} (hf : f.size = 768) (hk : k < (scanL f).length) (e : (scanL f)[k] = p) (hg : goodP f p = true) (h : ∀ i (hi : i < (scanL f).length), goodP f (scanL f)[i] = true → (scanL f)[i] = p ∨ (scanL f)[i].pq < p.pq) : actO f = some p := by
  rcases three f with ⟨h1, _⟩ | ⟨_, h1, _⟩ | ⟨_, h1, _⟩
  · rw [mayF_t hf] at h1; cases h1
  · have := act_bad h1 hk
    rw [e, hg] at this
    cases this
  · obtain ⟨j, hj, e2, _, g1, g2⟩ := act_best h1
    have a := g2 k hk (by rw [e]; exact hg)
    have b := h j hj (by rw [e2]; exact g1)
    rw [e] at a
    rw [e2] at b
    rcases b with b | b
    · rw [h1, b]
    · omega
/-- The first two sectors alone tell the records. -/
theorem found_eq {f g : ByteArray} : ∀ (n : Nat), (∀ i, i < 24 * n → f.data.toList[i]? = g.data.toList[i]?) → foundTo f n = foundTo g n
  | 0, _ => rfl
  | n + 1, h => by
    have hs : slotS f n = slotS g n := slotS_eq fun i h1 h2 => h i (by omega)
    have ih := found_eq (f := f) (g := g) n fun i hi => h i (by omega)
    cases hg : getOk (slotS f n) with
    | false => rw [foundTo_no f n hg, foundTo_no g n (by rw [← hs]; exact hg), ih]
    | true => rw [foundTo_yes f n hg, foundTo_yes g n (by rw [← hs]; exact hg), ih, recAt_eq hs]
theorem scan_eq {f g : ByteArray} (hf : f.size = 768) (hg : g.size = 768) (h : ∀ i, i < 192 → f.data.toList[i]? = g.data.toList[i]?) : scanL f = scanL g := by
  rw [scan_ok hf, scan_ok hg]
  exact found_eq 8 h
/-- What is good stays so where its slot stays. -/
theorem good_eq {f g : ByteArray} (hf : f.size = 768) (hg : g.size = 768) (p : FPl) (h : ∀ i, 192 + 288 * p.pt.toNat ≤ i → i < 192 + 288 * p.pt.toNat + 288 → f.data.toList[i]? = g.data.toList[i]?) : goodP f p = goodP g p := by
  unfold goodP goodB
  have e1 : imgOk f p.pq p.pt p.pz p.pm = imgOk g p.pq p.pt p.pz p.pm := by unfold imgOk; rw [mayF_t hf, mayF_t hg]
  rw [e1]
  cases e : imgOk g p.pq p.pt p.pz p.pm with
  | false => rfl
  | true =>
    have := recMay_parts.1 (imgOk_parts.1 e).2
    have e2 : cutI f p.pt p.pz = cutI g p.pt p.pz := cut_eq fun i h1 h2 => h i h1 (by omega)
    unfold sumI
    rw [e2]
/-- The slot that is not the active one's is turned. -/
structure Turned (f x : ByteArray) (p : FPl) : Prop where
  sf : f.size = 768
  sx : x.size = 768
  out : ∀ i, (i < 192 + 288 * (1 - p.pt).toNat ∨ 192 + 288 * (1 - p.pt).toNat + 288 ≤ i) → f.data.toList[i]? = x.data.toList[i]?
theorem turned_scan {f x : ByteArray} {p : FPl} (h : Turned f x p) : scanL x = scanL f := (scan_eq h.sf h.sx fun i hi => h.out i (.inl (by omega))).symm
theorem turned_good {f x : ByteArray} {p : FPl} (h : Turned f x p) (hp : p.pt = 0 ∨ p.pt = 1) (r : FPl) (hr : r.pt = p.pt) : goodP x r = goodP f r := by
  refine (good_eq h.sf h.sx r fun i h1 h2 => h.out i ?_).symm
  rw [hr] at h1 h2
  rcases hp with e | e <;> rw [e] at h1 h2 ⊢ <;> omega
/-- The active one stays, where no other one that is good has its number or a greater one. -/
theorem turned_act {f x : ByteArray} {p : FPl} (ha : actO f = some p) (h : Turned f x p) (hn : ∀ i (hi : i < (scanL x).length), goodP x (scanL x)[i] = true → (scanL x)[i] = p ∨ (scanL x)[i].pq < p.pq) : actO x = some p := by
  obtain ⟨k, hk, e, _, g, _⟩ := act_best ha
  have es := turned_scan h
  exact act_of (k := k) h.sx (by rw [es]; exact hk) (by simp only [es]; exact e) (by rw [turned_good h (act_slot ha) p rfl]; exact g) hn
/-- The active one stays, where none of the other slot is good. -/
theorem turned_stays {f x : ByteArray} {p : FPl} (ha : actO f = some p) (h : Turned f x p) (hn : ∀ i (hi : i < (scanL x).length), goodP x (scanL x)[i] = true → ¬ (scanL x)[i].pt = 1 - p.pt) : actO x = some p := by
  obtain ⟨k, hk, e, _, g, hb⟩ := act_best ha
  have es := turned_scan h
  have hs := act_slot ha
  have gk : goodP x p = true := by rw [turned_good h hs p rfl]; exact g
  have hk' : k < (scanL x).length := by rw [es]; exact hk
  have e' : (scanL x)[k] = p := by simp only [es]; exact e
  have b := best_of (f := x) hk' (by rw [e']; exact gk) fun i hi gi => by
    have hm := recMay_parts.1 (scan_mem (List.getElem_mem hi)).2.1
    have hne := hn i hi gi
    have ht : (scanL x)[i].pt = p.pt := by omega
    rw [turned_good h hs _ ht] at gi
    rw [e']
    simp only [es] at gi ⊢
    exact hb i (by rw [← es]; exact hi) gi
  have := (act_some (mayF_t h.sx) hk' b).1
  rw [e'] at this
  exact this
/-- Where one of the other slot is good, one is active still. -/
theorem turned_some {f x : ByteArray} {p : FPl} (ha : actO f = some p) (h : Turned f x p) : errA x = 0 := by
  obtain ⟨k, hk, e, _, g, _⟩ := act_best ha
  have es := turned_scan h
  have gk : goodP x p = true := by rw [turned_good h (act_slot ha) p rfl]; exact g
  rcases three x with ⟨h1, _⟩ | ⟨_, h1, _⟩ | ⟨_, _, h1, _⟩
  · rw [mayF_t h.sx] at h1; cases h1
  · have := act_bad h1 (i := k) (by rw [es]; exact hk)
    simp only [es] at this
    rw [e, gk] at this
    cases this
  · exact h1
theorem held_act : actO heldS = some ⟨0, 1, 0, 12, sumAb⟩ := by
  have h0 : 0 < (scanL heldS).length := by rw [held_scan]; decide
  have e0 : (scanL heldS)[0] = ⟨0, 1, 0, 12, sumAb⟩ := by simp only [held_scan]; rfl
  refine act_of (k := 0) size_heldS h0 e0 ?_ fun i hi _ => .inl ?_
  · show goodB heldS 1 0 12 sumAb = true
    rw [held_good sumAb sumAb_lt 1 (by omega)]
    exact decide_eq_true rfl
  · have : i = 0 := by rw [held_scan] at hi; simp at hi; exact hi
    subst this
    exact e0
theorem blank_scan : scanL Nor.blankS = [] := by
  rw [scan_ok Nor.size_blankS]
  exact found_none Nor.blankS 8 fun j hj => slot_full fun i hi => blank_get _ (by omega)
theorem blank_act : actO Nor.blankS = none ∧ actV Nor.blankS = zeroP ∧ errA Nor.blankS = 701 := act_none (mayF_t Nor.size_blankS) (by unfold bestO; rw [blank_scan]; rfl)
end Go.Proofs.Ythpoefaipmcceaa.Cho
