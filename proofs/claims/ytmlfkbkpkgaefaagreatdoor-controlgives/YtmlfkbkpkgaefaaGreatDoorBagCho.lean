/- Which record is the active one, told by what it is: good, and none that is good has a greater number, or the same one farther on; what is left of it where a flash is turned elsewhere. No program is named here. -/
import Derived.Test.YtmlfkbkpkgaefaaGreatDoorBagImg
import Derived.Test.YtmlfkbkpkgaefaaGreatDoorBagJou
import Derived.Deep.Cut
namespace Go.Proofs.YtmlfkbkpkgaefaaGreatDoor.Cho
open Go.Proofs.YtmlfkbkpkgaefaaGreatDoor Go.Proofs.YtmlfkbkpkgaefaaGreatDoor.Bytes Go.Proofs.YtmlfkbkpkgaefaaGreatDoor.Ent Go.Proofs.YtmlfkbkpkgaefaaGreatDoor.Ops Go.Proofs.YtmlfkbkpkgaefaaGreatDoor.Jou Go.Proofs.YtmlfkbkpkgaefaaGreatDoor.Act Go.Proofs.YtmlfkbkpkgaefaaGreatDoor.Held

theorem getD_at {l : List FPl} {n : Nat} (h : n < l.length) : l.getD n zeroP = l[n] := by rw [List.getD_eq_getElem?_getD, List.getElem?_eq_getElem h]; rfl

/-- The best one of the first n, as a record. -/
def curTo (f : ByteArray) (l : List FPl) (n : Nat) : FPl := match bestTo f l n with | none => zeroP | some k => l.getD k zeroP
theorem cur_0 (f : ByteArray) (l : List FPl) : curTo f l 0 = zeroP := rfl
theorem cur_none {f : ByteArray} {l : List FPl} {n : Nat} (h : bestTo f l n = none) : curTo f l n = zeroP := by unfold curTo; rw [h]
theorem cur_some {f : ByteArray} {l : List FPl} {n k : Nat} (h : bestTo f l n = some k) (hk : k < l.length) : curTo f l n = l[k] := by unfold curTo; rw [h]; exact getD_at hk
theorem cur_bad {f : ByteArray} {l : List FPl} {n : Nat} (h : n < l.length) (hg : goodP f l[n] = false) : curTo f l (n + 1) = curTo f l n := by unfold curTo; rw [best_bad h hg]
theorem cur_take {f : ByteArray} {l : List FPl} {n : Nat} (h : n < l.length) (hg : goodP f l[n] = true) (hq : (curTo f l n).pq ≤ l[n].pq) : curTo f l (n + 1) = l[n] := by
  cases hb : bestTo f l n with
  | none => exact cur_some (best_first h hg hb) h
  | some k =>
    have hk := bestTo_lt hb
    have hkl : k < l.length := by omega
    rw [cur_some hb hkl] at hq
    have e := best_next h hkl hg hb
    rw [if_pos hq] at e
    exact cur_some e h
theorem cur_less {f : ByteArray} {l : List FPl} {n : Nat} (hp : ∀ p ∈ l, 1 ≤ p.pq ∧ p.pq ≤ 1048576) (h : n < l.length) (hq : ¬ (curTo f l n).pq ≤ l[n].pq) : curTo f l (n + 1) = curTo f l n := by
  cases hg : goodP f l[n] with
  | false => exact cur_bad h hg
  | true =>
    cases hb : bestTo f l n with
    | none =>
      rw [cur_none hb] at hq
      have := hp l[n] (List.getElem_mem h)
      exact absurd (show (0 : Int) ≤ l[n].pq by omega) hq
    | some k =>
      have hk := bestTo_lt hb
      have hkl : k < l.length := by omega
      have e := best_next h hkl hg hb
      have hq' := hq
      rw [cur_some hb hkl] at hq'
      rw [if_neg hq'] at e
      rw [cur_some e hkl, cur_some hb hkl]
theorem cur_end {f : ByteArray} (h : mayF f = true) (c : FPl) (hc : c = curTo f (scanL f) (scanL f).length) : (c.pq = 0 ∧ actV f = zeroP ∧ errA f = 701) ∨ (¬ c.pq = 0 ∧ actV f = c ∧ errA f = 0) := by
  subst hc
  cases hb : bestTo f (scanL f) (scanL f).length with
  | none =>
    rw [cur_none hb]
    exact .inl ⟨rfl, (act_none h hb).2⟩
  | some k =>
    have hk := bestTo_lt hb
    rw [cur_some hb hk]
    have := scan_seq f _ (List.getElem_mem hk)
    exact .inr ⟨by omega, (act_some h hk hb).2⟩

/-- Which slot is the other one. -/
def othI (f : ByteArray) : Int := match actO f with | some p => 1 - p.pt | none => 0
def errOt (f : ByteArray) : Int := if mayF f then 0 else 700
/-- The three ways of a flash: it may not be, none is active, one is. -/
theorem three (f : ByteArray) : (mayF f = false ∧ actO f = none ∧ actV f = zeroP ∧ errA f = 700 ∧ othI f = 0 ∧ errOt f = 700) ∨ (mayF f = true ∧ actO f = none ∧ actV f = zeroP ∧ errA f = 701 ∧ othI f = 0 ∧ errOt f = 0) ∨ (mayF f = true ∧ actO f = some (actV f) ∧ errA f = 0 ∧ othI f = 1 - (actV f).pt ∧ errOt f = 0) := by
  cases h : mayF f with
  | false =>
    obtain ⟨h1, h2, h3⟩ := act_no h
    exact .inl ⟨rfl, h1, h2, h3, by unfold othI; rw [h1], by unfold errOt; rw [h]; rfl⟩
  | true =>
    refine .inr ?_
    cases hb : bestO f with
    | none =>
      obtain ⟨h1, h2, h3⟩ := act_none h hb
      exact .inl ⟨rfl, h1, h2, h3, by unfold othI; rw [h1], by unfold errOt; rw [h]; rfl⟩
    | some k =>
      obtain ⟨h1, h2, h3⟩ := act_some h (bestTo_lt hb) hb
      exact .inr ⟨rfl, by rw [h1, h2], h3, by unfold othI; rw [h1, h2], by unfold errOt; rw [h]; rfl⟩
theorem act_may {f : ByteArray} {p : FPl} (h : actO f = some p) : mayF f = true ∧ actV f = p ∧ errA f = 0 := by
  have hV : actV f = p := by unfold actV; rw [h]; rfl
  rcases three f with ⟨_, h1, _⟩ | ⟨_, h1, _⟩ | ⟨h0, _, h1, _⟩
  · rw [h1] at h; cases h
  · rw [h1] at h; cases h
  · exact ⟨h0, hV, h1⟩
theorem act_rec {f : ByteArray} {p : FPl} (h : actO f = some p) : f.size = 768 ∧ recMay p.pq p.pt p.pz p.pm = true ∧ 0 ≤ p.pa ∧ p.pa ≤ 168 := scan_mem (act_mem h)
theorem act_slot {f : ByteArray} {p : FPl} (h : actO f = some p) : p.pt = 0 ∨ p.pt = 1 := by
  have := recMay_parts.1 (act_rec h).2.1
  omega

theorem none_is {f : ByteArray} {l : List FPl} : ∀ (n : Nat), n ≤ l.length → bestTo f l n = none → ∀ i, i < n → goodP f (l.getD i zeroP) = false
  | 0, _, _, i, hi => by omega
  | n + 1, hn, h, i, hi => by
    have hl : n < l.length := by omega
    cases hg : goodP f l[n] with
    | false =>
      rw [best_bad hl hg] at h
      by_cases ei : i = n
      · subst ei; rw [getD_at hl]; exact hg
      · exact none_is n (by omega) h i (by omega)
    | true =>
      cases hb : bestTo f l n with
      | none => rw [best_first hl hg hb] at h; cases h
      | some j =>
        have hj := bestTo_lt hb
        have hjl : j < l.length := by omega
        rw [best_next hl hjl hg hb] at h
        by_cases hq : l[j].pq ≤ l[n].pq
        · rw [if_pos hq] at h; cases h
        · rw [if_neg hq] at h; cases h
/-- What the best one is. -/
theorem best_is {f : ByteArray} {l : List FPl} : ∀ (n k : Nat), n ≤ l.length → bestTo f l n = some k → goodP f (l.getD k zeroP) = true ∧ ∀ i, i < n → goodP f (l.getD i zeroP) = true → (l.getD i zeroP).pq < (l.getD k zeroP).pq ∨ ((l.getD i zeroP).pq = (l.getD k zeroP).pq ∧ i ≤ k)
  | 0, k, _, h => by cases h
  | n + 1, k, hn, h => by
    have hl : n < l.length := by omega
    have e := getD_at hl
    cases hg : goodP f l[n] with
    | false =>
      rw [best_bad hl hg] at h
      obtain ⟨h1, h2⟩ := best_is n k (by omega) h
      refine ⟨h1, fun i hi gi => ?_⟩
      by_cases ei : i = n
      · subst ei; rw [e, hg] at gi; cases gi
      · exact h2 i (by omega) gi
    | true =>
      cases hb : bestTo f l n with
      | none =>
        rw [best_first hl hg hb] at h
        cases h
        refine ⟨by rw [e]; exact hg, fun i hi gi => ?_⟩
        by_cases ei : i = n
        · subst ei; exact .inr ⟨rfl, Nat.le_refl _⟩
        · exact absurd gi (by rw [none_is n (by omega) hb i (by omega)]; decide)
      | some j =>
        have hj := bestTo_lt hb
        have hjl : j < l.length := by omega
        have ej := getD_at hjl
        obtain ⟨h1, h2⟩ := best_is n j (by omega) hb
        rw [best_next hl hjl hg hb] at h
        by_cases hq : l[j].pq ≤ l[n].pq
        · rw [if_pos hq] at h
          cases h
          refine ⟨by rw [e]; exact hg, fun i hi gi => ?_⟩
          by_cases ei : i = n
          · subst ei; exact .inr ⟨rfl, Nat.le_refl _⟩
          · have := h2 i (by omega) gi
            rw [ej] at this
            rw [e]
            omega
        · rw [if_neg hq] at h
          cases h
          refine ⟨h1, fun i hi gi => ?_⟩
          by_cases ei : i = n
          · subst ei; rw [e, ej]; omega
          · exact h2 i (by omega) gi
theorem best_of {f : ByteArray} {l : List FPl} {k : Nat} (hk : k < l.length) (hg : goodP f l[k] = true) (h : ∀ i (hi : i < l.length), goodP f l[i] = true → l[i].pq < l[k].pq ∨ (l[i].pq = l[k].pq ∧ i ≤ k)) : bestTo f l l.length = some k := by
  cases hb : bestTo f l l.length with
  | none =>
    have := none_is l.length (Nat.le_refl _) hb k hk
    rw [getD_at hk, hg] at this
    cases this
  | some j =>
    have hj := bestTo_lt hb
    obtain ⟨g1, g2⟩ := best_is l.length j (Nat.le_refl _) hb
    have a := g2 k hk (by rw [getD_at hk]; exact hg)
    rw [getD_at hj] at g1 a
    rw [getD_at hk] at a
    have b := h j hj g1
    congr 1
    omega
/-- The active one is good, stands in the journal, and none that is good has a greater number. -/
theorem act_best {f : ByteArray} {p : FPl} (h : actO f = some p) : ∃ k, ∃ hk : k < (scanL f).length, (scanL f)[k] = p ∧ bestTo f (scanL f) (scanL f).length = some k ∧ goodP f p = true ∧ ∀ i (hi : i < (scanL f).length), goodP f (scanL f)[i] = true → (scanL f)[i].pq < p.pq ∨ ((scanL f)[i].pq = p.pq ∧ i ≤ k) := by
  cases hb : bestO f with
  | none => unfold actO at h; rw [hb] at h; cases h
  | some k =>
    have hk := bestTo_lt hb
    have e : actO f = some (scanL f)[k] := (act_some (act_may h).1 hk hb).1
    rw [h] at e
    cases e
    obtain ⟨g1, g2⟩ := best_is _ k (Nat.le_refl _) hb
    rw [getD_at hk] at g1 g2
    refine ⟨k, hk, rfl, hb, g1, fun i hi gi => ?_⟩
    have := g2 i hi (by rw [getD_at hi]; exact gi)
    rw [getD_at hi] at this
    exact this
theorem act_bad {f : ByteArray} (h : actO f = none) {i : Nat} (hi : i < (scanL f).length) : goodP f (scanL f)[i] = false := by
  have hb : bestTo f (scanL f) (scanL f).length = none := by
    cases hb : bestO f with
    | none => exact hb
    | some k => unfold actO at h; rw [hb] at h; cases h
  have := none_is _ (Nat.le_refl _) hb i hi
  rw [getD_at hi] at this
  exact this
/-- Where every other one that is good has a smaller number, this one is active. -/
theorem act_of {f : ByteArray} {p : FPl} {k : Nat} (hf : f.size = 768) (hk : k < (scanL f).length) (e : (scanL f)[k] = p) (hg : goodP f p = true) (h : ∀ i (hi : i < (scanL f).length), goodP f (scanL f)[i] = true → (scanL f)[i] = p ∨ (scanL f)[i].pq < p.pq) : actO f = some p := by
  rcases three f with ⟨h1, _⟩ | ⟨_, h1, _⟩ | ⟨_, h1, _⟩
  · rw [mayF_t hf] at h1; cases h1
  · have := act_bad h1 hk
    rw [e, hg] at this
    cases this
  · obtain ⟨j, hj, e2, _, g1, g2⟩ := act_best h1
    have a := g2 k hk (by rw [e]; exact hg)
    have b := h j hj (by rw [e2]; exact g1)
    rw [e] at a
    rw [e2] at b
    rcases b with b | b
    · rw [h1, b]
    · omega
/-- The first two sectors alone tell the records. -/
theorem found_eq {f g : ByteArray} : ∀ (n : Nat), (∀ i, i < 24 * n → f.data.toList[i]? = g.data.toList[i]?) → foundTo f n = foundTo g n
  | 0, _ => rfl
  | n + 1, h => by
    have hs : slotS f n = slotS g n := slotS_eq fun i h1 h2 => h i (by omega)
    have ih := found_eq (f := f) (g := g) n fun i hi => h i (by omega)
    cases hg : getOk (slotS f n) with
    | false => rw [foundTo_no f n hg, foundTo_no g n (by rw [← hs]; exact hg), ih]
    | true => rw [foundTo_yes f n hg, foundTo_yes g n (by rw [← hs]; exact hg), ih, recAt_eq hs]
theorem scan_eq {f g : ByteArray} (hf : f.size = 768) (hg : g.size = 768) (h : ∀ i, i < 192 → f.data.toList[i]? = g.data.toList[i]?) : scanL f = scanL g := by
  rw [scan_ok hf, scan_ok hg]
  exact found_eq 8 h
/-- What is good stays so where its slot stays. -/
theorem good_eq {f g : ByteArray} (hf : f.size = 768) (hg : g.size = 768) (p : FPl) (h : ∀ i, 192 + 288 * p.pt.toNat ≤ i → i < 192 + 288 * p.pt.toNat + 288 → f.data.toList[i]? = g.data.toList[i]?) : goodP f p = goodP g p := by
  unfold goodP goodB
  have e1 : imgOk f p.pq p.pt p.pz p.pm = imgOk g p.pq p.pt p.pz p.pm := by unfold imgOk; rw [mayF_t hf, mayF_t hg]
  rw [e1]
  cases e : imgOk g p.pq p.pt p.pz p.pm with
  | false => rfl
  | true =>
    have := recMay_parts.1 (imgOk_parts.1 e).2
    have e2 : cutI f p.pt p.pz = cutI g p.pt p.pz := cut_eq fun i h1 h2 => h i h1 (by omega)
    unfold sumI
    rw [e2]
/-- The slot that is not the active one's is turned. -/
structure Turned (f x : ByteArray) (p : FPl) : Prop where
  sf : f.size = 768
  sx : x.size = 768
  out : ∀ i, (i < 192 + 288 * (1 - p.pt).toNat ∨ 192 + 288 * (1 - p.pt).toNat + 288 ≤ i) → f.data.toList[i]? = x.data.toList[i]?
theorem turned_scan {f x : ByteArray} {p : FPl} (h : Turned f x p) : scanL x = scanL f := (scan_eq h.sf h.sx fun i hi => h.out i (.inl (by omega))).symm
theorem turned_good {f x : ByteArray} {p : FPl} (h : Turned f x p) (hp : p.pt = 0 ∨ p.pt = 1) (r : FPl) (hr : r.pt = p.pt) : goodP x r = goodP f r := by
  refine (good_eq h.sf h.sx r fun i h1 h2 => h.out i ?_).symm
  rw [hr] at h1 h2
  rcases hp with e | e <;> rw [e] at h1 h2 ⊢ <;> omega
/-- The active one stays, where no other one that is good has its number or a greater one. -/
theorem turned_act {f x : ByteArray} {p : FPl} (ha : actO f = some p) (h : Turned f x p) (hn : ∀ i (hi : i < (scanL x).length), goodP x (scanL x)[i] = true → (scanL x)[i] = p ∨ (scanL x)[i].pq < p.pq) : actO x = some p := by
  obtain ⟨k, hk, e, _, g, _⟩ := act_best ha
  have es := turned_scan h
  exact act_of (k := k) h.sx (by rw [es]; exact hk) (by simp only [es]; exact e) (by rw [turned_good h (act_slot ha) p rfl]; exact g) hn
/-- The active one stays, where none of the other slot is good. -/
theorem turned_stays {f x : ByteArray} {p : FPl} (ha : actO f = some p) (h : Turned f x p) (hn : ∀ i (hi : i < (scanL x).length), goodP x (scanL x)[i] = true → ¬ (scanL x)[i].pt = 1 - p.pt) : actO x = some p := by
  obtain ⟨k, hk, e, _, g, hb⟩ := act_best ha
  have es := turned_scan h
  have hs := act_slot ha
  have gk : goodP x p = true := by rw [turned_good h hs p rfl]; exact g
  have hk' : k < (scanL x).length := by rw [es]; exact hk
  have e' : (scanL x)[k] = p := by simp only [es]; exact e
  have b := best_of (f := x) hk' (by rw [e']; exact gk) fun i hi gi => by
    have hm := recMay_parts.1 (scan_mem (List.getElem_mem hi)).2.1
    have hne := hn i hi gi
    have ht : (scanL x)[i].pt = p.pt := by omega
    rw [turned_good h hs _ ht] at gi
    rw [e']
    simp only [es] at gi ⊢
    exact hb i (by rw [← es]; exact hi) gi
  have := (act_some (mayF_t h.sx) hk' b).1
  rw [e'] at this
  exact this
/-- Where one of the other slot is good, one is active still. -/
theorem turned_some {f x : ByteArray} {p : FPl} (ha : actO f = some p) (h : Turned f x p) : errA x = 0 := by
  obtain ⟨k, hk, e, _, g, _⟩ := act_best ha
  have es := turned_scan h
  have gk : goodP x p = true := by rw [turned_good h (act_slot ha) p rfl]; exact g
  rcases three x with ⟨h1, _⟩ | ⟨_, h1, _⟩ | ⟨_, _, h1, _⟩
  · rw [mayF_t h.sx] at h1; cases h1
  · have := act_bad h1 (i := k) (by rw [es]; exact hk)
    simp only [es] at this
    rw [e, gk] at this
    cases this
  · exact h1
theorem held_act : actO heldS = some ⟨0, 1, 0, 12, sumAb⟩ := by
  have h0 : 0 < (scanL heldS).length := by rw [held_scan]; decide
  have e0 : (scanL heldS)[0] = ⟨0, 1, 0, 12, sumAb⟩ := by simp only [held_scan]; rfl
  refine act_of (k := 0) size_heldS h0 e0 ?_ fun i hi _ => .inl ?_
  · show goodB heldS 1 0 12 sumAb = true
    rw [held_good sumAb sumAb_lt 1 (by omega)]
    exact decide_eq_true rfl
  · have : i = 0 := by rw [held_scan] at hi; simp at hi; exact hi
    subst this
    exact e0
theorem blank_scan : scanL Nor.blankS = [] := by
  rw [scan_ok Nor.size_blankS]
  exact found_none Nor.blankS 8 fun j hj => slot_full fun i hi => blank_get _ (by omega)
theorem blank_act : actO Nor.blankS = none ∧ actV Nor.blankS = zeroP ∧ errA Nor.blankS = 701 := act_none (mayF_t Nor.size_blankS) (by unfold bestO; rw [blank_scan]; rfl)
end Go.Proofs.YtmlfkbkpkgaefaaGreatDoor.Cho

/- The contracts of package choose: each call returns what the plain functions give, whatever its arguments; of what was there nothing has turned. -/
namespace Go.Proofs.YtmlfkbkpkgaefaaGreatDoor.ChoWalk
open Go.Proofs.YtmlfkbkpkgaefaaGreatDoor Go.RowKit Go.Proofs.YtmlfkbkpkgaefaaGreatDoor.Bytes Go.Proofs.YtmlfkbkpkgaefaaGreatDoor.NorWalk Go.Proofs.YtmlfkbkpkgaefaaGreatDoor.Ent Go.Proofs.YtmlfkbkpkgaefaaGreatDoor.EntRow Go.Proofs.YtmlfkbkpkgaefaaGreatDoor.EntWalk Go.Proofs.YtmlfkbkpkgaefaaGreatDoor.Jou Go.Proofs.YtmlfkbkpkgaefaaGreatDoor.JouRow Go.Proofs.YtmlfkbkpkgaefaaGreatDoor.JouWalk Go.Proofs.YtmlfkbkpkgaefaaGreatDoor.Ops Go.Proofs.YtmlfkbkpkgaefaaGreatDoor.Act Go.Proofs.YtmlfkbkpkgaefaaGreatDoor.ImgWalk Go.Proofs.YtmlfkbkpkgaefaaGreatDoor.Cho

theorem build_p0 (w : World) : (Instr.build 96 #[]).run Tryz.prog w = .ok (.agg #[.int .i64 0, .int .i64 0, .int .i64 0, .int .i64 0, .int .i64 0]) w := run_build w 96 _ _ (by kernel_rfl)
theorem ret_place {a b c d e x a' b' c' d' e' x' : Int} (h : a = a' ∧ b = b' ∧ c = c' ∧ d = d' ∧ e = e' ∧ x = x') : Ending.returned (.tuple #[.agg #[.int .i64 a, .int .i64 b, .int .i64 c, .int .i64 d, .int .i64 e], .int .i64 x]) = .returned (.tuple #[.agg #[.int .i64 a', .int .i64 b', .int .i64 c', .int .i64 d', .int .i64 e'], .int .i64 x']) := by
  obtain ⟨rfl, rfl, rfl, rfl, rfl, rfl⟩ := h
  rfl
theorem good_f {f : ByteArray} {q t z m : Int} (h : imgOk f q t z m = false) : goodB f q t z m = false := by unfold goodB; rw [h]; rfl
theorem set5b {w W : World} {a b c d e : Value} (h : Below w.heap.size w W) : Below w.heap.size w (((((W.setCell ⟨w.heap.size, 0, none⟩ a).setCell ⟨w.heap.size, 1, none⟩ b).setCell ⟨w.heap.size, 2, none⟩ c).setCell ⟨w.heap.size, 3, none⟩ d).setCell ⟨w.heap.size, 4, none⟩ e) :=
  ((((h.setCell (p := ⟨w.heap.size, 0, none⟩) (Nat.le_refl _) _).setCell (p := ⟨w.heap.size, 1, none⟩) (Nat.le_refl _) _).setCell (p := ⟨w.heap.size, 2, none⟩) (Nat.le_refl _) _).setCell (p := ⟨w.heap.size, 3, none⟩) (Nat.le_refl _) _).setCell (p := ⟨w.heap.size, 4, none⟩) (Nat.le_refl _) _
theorem ne_off {B i j : Nat} (h : i ≠ j) : (⟨B, i, none⟩ : Addr) ≠ ⟨B, j, none⟩ := fun e => by injection e; exact h (by omega)
theorem box5_set {W : World} {B : Nat} {a b c d e a' b' c' d' e' : Value} (h : Box5 W B a b c d e) : Box5 (((((W.setCell ⟨B, 0, none⟩ a').setCell ⟨B, 1, none⟩ b').setCell ⟨B, 2, none⟩ c').setCell ⟨B, 3, none⟩ d').setCell ⟨B, 4, none⟩ e') B a' b' c' d' e' := by
  obtain ⟨h0, h1, h2, h3, h4, h5, h6⟩ := h
  have o : ∀ (W : World) (i j : Nat) (v : Value), i ≠ j → (W.setCell ⟨B, i, none⟩ v).cell? ⟨B, j, none⟩ = W.cell? ⟨B, j, none⟩ := fun W i j v hij => World.cell?_setCell_other W _ _ _ (ne_off hij)
  refine ⟨by simp [World.setCell]; omega, ?_, ?_, ?_, ?_, ?_, fun i => by simp only [World.frozen?_setCell]; exact h6 i⟩
  · rw [o _ 4 0 _ (by omega), o _ 3 0 _ (by omega), o _ 2 0 _ (by omega), o _ 1 0 _ (by omega), World.cell?_setCell_same W _ _ h1]
  · rw [o _ 4 1 _ (by omega), o _ 3 1 _ (by omega), o _ 2 1 _ (by omega), World.cell?_setCell_same _ ⟨B, 1, none⟩ _ (by rw [o _ 0 1 _ (by omega)]; exact h2)]
  · rw [o _ 4 2 _ (by omega), o _ 3 2 _ (by omega), World.cell?_setCell_same _ ⟨B, 2, none⟩ _ (by rw [o _ 1 2 _ (by omega), o _ 0 2 _ (by omega)]; exact h3)]
  · rw [o _ 4 3 _ (by omega), World.cell?_setCell_same _ ⟨B, 3, none⟩ _ (by rw [o _ 2 3 _ (by omega), o _ 1 3 _ (by omega), o _ 0 3 _ (by omega)]; exact h4)]
  · rw [World.cell?_setCell_same _ ⟨B, 4, none⟩ _ (by rw [o _ 3 4 _ (by omega), o _ 2 4 _ (by omega), o _ 1 4 _ (by omega), o _ 0 4 _ (by omega)]; exact h5)]
set_option maxRecDepth 100000 in
set_option maxHeartbeats 400000 in
theorem cgood_any (f : ByteArray) (q t z m : Int) (w : World) : Calls Tryz.prog 124 #[.string f, .agg #[.int .i64 q, .int .i64 t, .int .i64 z, .int .i64 m]] w fun e w' => e = .returned (.bool (goodB f q t z m)) ∧ Below w.heap.size w w' := by
  have hB := (Below.refl w.heap.size w).alloc (Nat.le_refl _) (.cells #[.int .i64 q, .int .i64 t, .int .i64 z, .int .i64 m] 88)
  have hX := boxM w (.int .i64 q) (.int .i64 t) (.int .i64 z) (.int .i64 m) 88
  have HG := hide (fun w => good_any f q t z m w)
  have e0 : errI true = 0 := rfl
  have e1 : errI false = 600 := rfl
  cases h : imgOk f q t z m with
  | false =>
    rw [h, good_f h] at HG
    rw [good_f h]
    clear h
    go_enter Tryz.func124, Tryz.ntmps124
    go_wp2_with (go_at_call 131; refine (HG.out _).mono ?_; rintro e w' ⟨rfl, hb⟩; replace hB := hB.trans (hb.mono hB.size); replace hX := boxB hX hb; clear hb)
    go_ret
    exact ⟨rfl, hB⟩
  | true =>
    rw [h] at HG
    clear h
    generalize goodB f q t z m = G at *
    go_enter Tryz.func124, Tryz.ntmps124
    go_wp2_with (go_at_call 131; refine (HG.out _).mono ?_; rintro e w' ⟨rfl, hb⟩; replace hB := hB.trans (hb.mono hB.size); replace hX := boxB hX hb; clear hb)
    go_ret
    exact ⟨rfl, hB⟩
set_option maxRecDepth 100000 in
set_option maxHeartbeats 400000 in
theorem active_no (f : ByteArray) (w : World) (h : mayF f = false) : Calls Tryz.prog 116 #[.string f] w fun e w' => e = .returned (.tuple #[.agg #[.int .i64 0, .int .i64 0, .int .i64 0, .int .i64 0, .int .i64 0], .int .i64 700]) ∧ Below w.heap.size w w' := by
  have hm : mayB f = false := h
  have b1 := build_p0
  clear h
  go_enter Tryz.func116, Tryz.ntmps116
  go_wp2_with (first | (go_at_call 21; refine (may_any _ _).mono ?_; rintro e w' ⟨rfl, rfl⟩))
  exact bodyPost_ret (v := .tuple #[.agg #[.int .i64 0, .int .i64 0, .int .i64 0, .int .i64 0, .int .i64 0], .int .i64 700]) (by simp [results, Tryz.results116, go_sem]) rfl ⟨rfl, (Below.refl _ _).alloc (Nat.le_refl _) _⟩
set_option maxRecDepth 100000 in
set_option maxHeartbeats 2000000 in
theorem active_yes (f : ByteArray) (w : World) (h : mayF f = true) : Calls Tryz.prog 116 #[.string f] w fun e w' => e = .returned (.tuple #[.agg #[.int .i64 (actV f).pa, .int .i64 (actV f).pq, .int .i64 (actV f).pt, .int .i64 (actV f).pz, .int .i64 (actV f).pm], .int .i64 (errA f)]) ∧ Below w.heap.size w w' := by
  have hm : mayB f = true := h
  have HS := hide (fun w => scan_any f w)
  rw [h] at HS
  have e0 : errJ true = 0 := rfl
  have b1 := build_p0
  have hlen := scan_len f
  have HE := hide (fun c hc => cur_end h c hc)
  have HQ := hide (scan_seq f)
  have HG := hide (fun (p : FPl) (w : World) => cgood_any f p.pq p.pt p.pz p.pm w)
  clear h
  generalize scanL f = l at *
  have hB := (Below.refl w.heap.size w).alloc (Nat.le_refl _) (.cells #[.int .i64 0, .int .i64 0, .int .i64 0, .int .i64 0, .int .i64 0] 96)
  have HR := hide (box5M w (.int .i64 0) (.int .i64 0) (.int .i64 0) (.int .i64 0) (.int .i64 0) 96)
  go_enter Tryz.func116, Tryz.ntmps116
  go_wp2_with (first | (go_at_call 21; refine (may_any _ _).mono ?_; rintro e w' ⟨rfl, rfl⟩))
  refine (HS.out _).mono ?_
  rintro e w1 ⟨v, rfl, hown, hb⟩
  replace hB := thenB hB hb
  replace HR := hide (box5B HR.out hb)
  clear hb
  obtain ⟨a, cap, rfl, hin⟩ := ownsP_is hown
  clear hown HS
  have hC := box5M w1 (.int .i64 0) (.int .i64 0) (.int .i64 0) (.int .i64 0) (.int .i64 0) 96
  have hA := (Below.refl w1.heap.size w1).alloc (Nat.le_refl _) (.cells #[.int .i64 0, .int .i64 0, .int .i64 0, .int .i64 0, .int .i64 0] 96)
  go_wp2
  generalize w1.alloc (.cells #[.int .i64 0, .int .i64 0, .int .i64 0, .int .i64 0, .int .i64 0] 96) = W1 at *
  go_loopw [20] (fun y wr => ∃ (c : FPl) (n : Nat), n ≤ l.length ∧ y = .int .i64 n ∧ Hid (c = curTo f l n) ∧ Box5 wr w1.heap.size (.int .i64 c.pa) (.int .i64 c.pq) (.int .i64 c.pt) (.int .i64 c.pz) (.int .i64 c.pm) ∧ Below w1.heap.size w1 wr) (fun y _ => l.length - (intOf y).toNat)
  case atStart => exact ⟨zeroP, 0, Nat.zero_le _, rfl, rfl, hC, hA⟩
  case round =>
    obtain ⟨c, n, hn, rfl, HX, hcur, hbel⟩ := hrel
    clear hC hA
    by_cases hlt : n < l.length
    · rcases hin with hin | ⟨g, rfl, hg, hin⟩
      · rw [hin] at hlt; simp at hlt
      have hin1 := hin.below hbel hg
      have c0 := hin1.pa n hlt
      have c1 := hin1.pq n hlt
      have c2 := hin1.pt n hlt
      have c3 := hin1.pz n hlt
      have c4 := hin1.pm n hlt
      have HG1 := hide (HG.out l[n])
      clear hin hin1
      go_upto_region 8 with fail
      have hN := box5M wr (.int .i64 l[n].pa) (.int .i64 l[n].pq) (.int .i64 l[n].pt) (.int .i64 l[n].pz) (.int .i64 l[n].pm) 96
      have hal := (Below.refl wr.heap.size wr).alloc (Nat.le_refl _) (.cells #[.int .i64 l[n].pa, .int .i64 l[n].pq, .int .i64 l[n].pt, .int .i64 l[n].pz, .int .i64 l[n].pm] 96)
      replace hcur := box5B hcur hal
      replace hbel := thenB hbel hal
      clear hal c0 c1 c2 c3 c4
      generalize wr.alloc (.cells #[.int .i64 l[n].pa, .int .i64 l[n].pq, .int .i64 l[n].pt, .int .i64 l[n].pz, .int .i64 l[n].pm] 96) = W2 at *
      generalize wr.heap.size = B2 at *
      have hN' := hN
      have hc' := hcur
      unfold Box5 at hN' hc'
      by_cases hq : c.pq ≤ l[n].pq
      · cases hgd : goodP f l[n] with
        | false =>
          have HX2 : Hid (c = curTo f l (n + 1)) := HX.out.trans (cur_bad hlt hgd).symm
          rw [show goodB f l[n].pq l[n].pt l[n].pz l[n].pm = false from hgd] at HG1
          clear hgd HX
          have HC := hide hcur
          clear hcur
          generalize l[n].pa = A at *
          generalize l[n].pq = Q at *
          generalize l[n].pt = T at *
          generalize l[n].pz = Z at *
          generalize l[n].pm = M at *
          go_wp2_with (go_at_call 124; refine (HG1.out _).mono ?_; rintro e w2 ⟨rfl, hb2⟩)
          exact ⟨⟨c, n + 1, by omega, by go_num, HX2, box5B HC.out hb2, thenB hbel hb2⟩, by simp [intOf]; omega⟩
        | true =>
          have HX2 : Hid (l[n] = curTo f l (n + 1)) := (cur_take hlt hgd (by rw [← HX.out]; exact hq)).symm
          rw [show goodB f l[n].pq l[n].pt l[n].pz l[n].pm = true from hgd] at HG1
          clear hgd HX
          have HC := hide hcur
          have HN := hide hN
          clear hcur hN
          go_upto_region 9 with (go_at_call 124; refine (HG1.out _).mono ?_; rintro e w2 ⟨rfl, hb2⟩)
          clear hN' hc'
          have hN' := box5B HN.out hb2
          have hcur := box5B HC.out hb2
          have hc' := hcur
          unfold Box5 at hN' hc'
          have HC2 := hide hcur
          clear hcur
          go_wp2
          exact ⟨⟨l[n], n + 1, by omega, by go_num, HX2, box5_set HC2.out, set5b (thenB hbel hb2)⟩, by simp [intOf]; omega⟩
      · have HX2 : Hid (c = curTo f l (n + 1)) := HX.out.trans (cur_less HQ.out hlt (by rw [← HX.out]; exact hq)).symm
        clear HX
        have HC := hide hcur
        clear hcur
        go_wp2_with fail
        exact ⟨⟨c, n + 1, by omega, by go_num, HX2, HC.out, hbel⟩, by simp [intOf]; omega⟩
    · obtain rfl : n = l.length := by omega
      have hBe := thenB hB hbel
      have hRe := box5B HR.out hbel
      have hc' := hcur
      unfold Box5 at hRe hc'
      rcases HE.out c HX.out with ⟨g1, hV, hE⟩ | ⟨g1, hV, hE⟩
      · have HV := hide hV
        have HE2 := hide hE
        clear hV hE hin HE HG hcur
        go_wp2
        exact bodyPost_ret (v := .tuple #[.agg #[.int .i64 0, .int .i64 0, .int .i64 0, .int .i64 0, .int .i64 0], .int .i64 701]) (by simp [results, Tryz.results116, go_sem, hRe]) rfl ⟨ret_place (by rw [HV.out, HE2.out]; exact ⟨rfl, rfl, rfl, rfl, rfl, rfl⟩), set5b hBe⟩
      · have HV := hide hV
        have HE2 := hide hE
        clear hV hE hin HE HG hcur
        go_wp2
        exact bodyPost_ret (v := .tuple #[.agg #[.int .i64 c.pa, .int .i64 c.pq, .int .i64 c.pt, .int .i64 c.pz, .int .i64 c.pm], .int .i64 0]) (by simp [results, Tryz.results116, go_sem, hRe]) rfl ⟨ret_place (by rw [HV.out, HE2.out]; exact ⟨rfl, rfl, rfl, rfl, rfl, rfl⟩), set5b hBe⟩
theorem active_any (f : ByteArray) (w : World) : Calls Tryz.prog 116 #[.string f] w fun e w' => e = .returned (.tuple #[.agg #[.int .i64 (actV f).pa, .int .i64 (actV f).pq, .int .i64 (actV f).pt, .int .i64 (actV f).pz, .int .i64 (actV f).pm], .int .i64 (errA f)]) ∧ Below w.heap.size w w' := by
  cases h : mayF f with
  | false =>
    obtain ⟨_, h1, h2⟩ := act_no h
    rw [h1, h2]
    exact active_no f w h
  | true => exact active_yes f w h
set_option maxRecDepth 100000 in
set_option maxHeartbeats 400000 in
theorem other_any (f : ByteArray) (w : World) : Calls Tryz.prog 111 #[.string f] w fun e w' => e = .returned (.tuple #[.int .i64 (othI f), .int .i64 (errOt f)]) ∧ Below w.heap.size w w' := by
  have HA := hide (fun w => active_any f w)
  rcases three f with ⟨_, _, _, h1, h2, h3⟩ | ⟨_, _, _, h1, h2, h3⟩ | ⟨_, h0, h1, h2, h3⟩
  · rw [h1] at HA
    rw [h2, h3]
    clear h1 h2 h3
    generalize actV f = p at *
    go_enter Tryz.func111, Tryz.ntmps111
    go_wp2_with (go_at_call 116; refine (HA.out _).mono ?_; rintro e w' ⟨rfl, hb⟩)
    go_ret2
    exact ⟨rfl, hb.alloc hb.size _⟩
  · rw [h1] at HA
    rw [h2, h3]
    clear h1 h2 h3
    generalize actV f = p at *
    go_enter Tryz.func111, Tryz.ntmps111
    go_wp2_with (go_at_call 116; refine (HA.out _).mono ?_; rintro e w' ⟨rfl, hb⟩)
    go_ret2
    exact ⟨rfl, hb.alloc hb.size _⟩
  · have hs := act_slot h0
    rw [h1] at HA
    rw [h2, h3]
    clear h0 h1 h2 h3
    generalize actV f = p at *
    have g0 : 0 ≤ p.pt := by omega
    have g1 : p.pt ≤ 1 := by omega
    clear hs
    generalize p.pt = T at *
    go_enter Tryz.func111, Tryz.ntmps111
    go_wp2_with (go_at_call 116; refine (HA.out _).mono ?_; rintro e w' ⟨rfl, hb⟩)
    go_ret2
    exact ⟨rfl, hb.alloc hb.size _⟩
end Go.Proofs.YtmlfkbkpkgaefaaGreatDoor.ChoWalk

/- Tame flashes, and what the steps that lay a record down leave of one, cut anywhere: as mathematics of texts. No program is named here. -/
namespace Go.Proofs.YtmlfkbkpkgaefaaGreatDoor.Pla
open Go.Proofs.YtmlfkbkpkgaefaaGreatDoor Go.Proofs.YtmlfkbkpkgaefaaGreatDoor.Bytes Go.Proofs.YtmlfkbkpkgaefaaGreatDoor.Ent Go.Proofs.YtmlfkbkpkgaefaaGreatDoor.Ops Go.Proofs.YtmlfkbkpkgaefaaGreatDoor.Jou Go.Proofs.YtmlfkbkpkgaefaaGreatDoor.Act Go.Proofs.YtmlfkbkpkgaefaaGreatDoor.Held Go.Proofs.YtmlfkbkpkgaefaaGreatDoor.Cho

/-- A text's byte. -/
def bt (f : ByteArray) (i : Nat) : UInt8 := f.data.toList.getD i 0
theorem bt_of {f : ByteArray} {i : Nat} {c : UInt8} (h : f.data.toList[i]? = some c) : bt f i = c := by unfold bt; rw [List.getD_eq_getElem?_getD, h]; rfl
theorem bt_at (f : ByteArray) (i : Nat) (h : i < f.size) : f.data.toList[i]? = some (bt f i) := by
  unfold bt
  rw [List.getD_eq_getElem?_getD, List.getElem?_eq_getElem (by rw [Nor.size_list]; exact h)]
  rfl
theorem bt_eq {f g : ByteArray} {i : Nat} (h : f.data.toList[i]? = g.data.toList[i]?) : bt f i = bt g i := by unfold bt; rw [List.getD_eq_getElem?_getD, List.getD_eq_getElem?_getD, h]
theorem bt_get (f : ByteArray) (i : Nat) (h : i < f.size) : f[i] = bt f i := (bt_of (Nor.ba_get f i h)).symm
theorem bt_slot (f : ByteArray) (j i : Nat) (hi : i < 24) : bt (slotS f j) i = bt f (24 * j + i) := by
  unfold bt
  rw [List.getD_eq_getElem?_getD, List.getD_eq_getElem?_getD, get_slotS f j i hi]
theorem slot_same {f g : ByteArray} (hf : f.size = 768) (hg : g.size = 768) {j : Nat} (hj : j < 8) (h : ∀ i, i < 24 → bt f (24 * j + i) = bt g (24 * j + i)) : slotS f j = slotS g j := by
  refine slotS_eq fun i h1 h2 => ?_
  obtain ⟨k, rfl⟩ : ∃ k, i = 24 * j + k := ⟨i - 24 * j, by omega⟩
  rw [bt_at f _ (by omega), bt_at g _ (by omega), h k (by omega)]
theorem comp_bt {s : ByteArray} (h : getOk s = true) (i : Nat) (hi : i < 12) : bt s (i + 12) = ~~~(bt s i) := by
  have hz := (getOk_parts.1 h).1
  have := comp_get h i hi (by omega) (by omega)
  rw [bt_get s _ (by omega), bt_get s _ (by omega)] at this
  exact this
theorem or_more (a b s t : UInt8) (h1 : a &&& s = s) (h2 : b &&& t = t) (h : s ||| t = 255) : a ||| b = 255 := by
  apply UInt8.toBitVec_inj.1
  have h1' := congrArg UInt8.toBitVec h1
  have h2' := congrArg UInt8.toBitVec h2
  have h3' := congrArg UInt8.toBitVec h
  simp only [UInt8.toBitVec_and, UInt8.toBitVec_or] at h1' h2' h3' ⊢
  ext i hi
  have k1 := congrArg (fun x => x.getLsbD i) h1'
  have k2 := congrArg (fun x => x.getLsbD i) h2'
  have k3 := congrArg (fun x => x.getLsbD i) h3'
  simp [hi] at k1 k2 k3 ⊢
  have k4 : (255#8)[i] = true := by
    obtain rfl | rfl | rfl | rfl | rfl | rfl | rfl | rfl : i = 0 ∨ i = 1 ∨ i = 2 ∨ i = 3 ∨ i = 4 ∨ i = 5 ∨ i = 6 ∨ i = 7 := by omega
    all_goals simp
  rw [k4] at k3 ⊢
  cases ha : a.toBitVec[i] <;> cases hb : b.toBitVec[i] <;> cases hs : s.toBitVec[i] <;> cases ht : t.toBitVec[i] <;> simp_all
theorem all_and (s : UInt8) : 255 &&& s = s := and_ff s
theorem or_not (s : UInt8) : s ||| ~~~s = 255 := by
  have h : ∀ n : Fin 256, UInt8.ofNat n.val ||| ~~~(UInt8.ofNat n.val) = 255 := by decide +kernel
  have := h ⟨s.toNat, s.toNat_lt⟩
  simpa only [UInt8.ofNat_toNat] using this
theorem or_all (a : UInt8) : a ||| 255 = 255 := by
  have h : ∀ n : Fin 256, UInt8.ofNat n.val ||| 255 = 255 := by decide +kernel
  have := h ⟨a.toNat, a.toNat_lt⟩
  simpa only [UInt8.ofNat_toNat] using this
theorem all_or (a : UInt8) : 255 ||| a = 255 := by rw [UInt8.or_comm]; exact or_all a
theorem keep_more (s : UInt8) (k : Nat) : Nor.keep s k &&& s = s := by
  have h := Nor.keep_keep s k 8
  rw [Nor.keep_8 s 8 (Nat.le_refl _), Nor.keep_8 s (max k 8) (by omega)] at h
  exact h

/-- A tame flash. -/
def tameB (f : ByteArray) : Bool := decide (f.size = 768) && (List.range 8).all fun i => (List.range 12).all fun k => decide (bt f (24 * i + k) ||| bt f (24 * i + k + 12) = 255)
theorem tame_parts {f : ByteArray} : tameB f = true ↔ f.size = 768 ∧ ∀ i, i < 8 → ∀ k, k < 12 → bt f (24 * i + k) ||| bt f (24 * i + k + 12) = 255 := by
  unfold tameB
  simp only [Bool.and_eq_true, decide_eq_true_iff, List.all_eq_true, List.mem_range]

theorem bt_worn {f : ByteArray} {s k : Int} (h : Nor.wornOk f s k = true) (i : Nat) (hi : i < 768) : bt (Nor.wornS f s k) i = if 96 * s.toNat ≤ i ∧ i < 96 * s.toNat + k.toNat then 255 else bt f i := by
  have hf := Nor.size_of_wornOk h
  apply bt_of
  rw [Nor.list_wornS h, Nor.get_wornL, bt_at f i (by omega)]
  rfl
theorem worn_all {f : ByteArray} {s k : Int} (h : Nor.wornOk f s k = true) (i : Nat) (hi : i < 96 * s.toNat ∨ 96 * s.toNat + k.toNat ≤ i) : (Nor.wornS f s k).data.toList[i]? = f.data.toList[i]? := by
  rw [Nor.list_wornS h, Nor.get_wornL]
  cases f.data.toList[i]? with
  | none => rfl
  | some c => simp only [Option.map_some]; rw [if_neg (by omega)]
theorem worn_tame {f : ByteArray} {s k : Int} (ht : tameB f = true) (h : Nor.wornOk f s k = true) : tameB (Nor.wornS f s k) = true := by
  obtain ⟨hf, ht⟩ := tame_parts.1 ht
  refine tame_parts.2 ⟨Nor.size_wornS h, fun i hi j hj => ?_⟩
  rw [bt_worn h _ (by omega), bt_worn h _ (by omega)]
  by_cases h1 : 96 * s.toNat ≤ 24 * i + j ∧ 24 * i + j < 96 * s.toNat + k.toNat
  · rw [if_pos h1, all_or]
  · by_cases h2 : 96 * s.toNat ≤ 24 * i + j + 12 ∧ 24 * i + j + 12 < 96 * s.toNat + k.toNat
    · rw [if_pos h2, or_all]
    · rw [if_neg h1, if_neg h2]
      exact ht i hi j hj
/-- A sector's erasing, cut anywhere, makes no record: what is one then was it ahead. -/
theorem worn_slot {f : ByteArray} {s k : Int} (ht : tameB f = true) (h : Nor.wornOk f s k = true) (j : Nat) (hj : j < 8) : slotS (Nor.wornS f s k) j = slotS f j ∨ getOk (slotS (Nor.wornS f s k) j) = false := by
  obtain ⟨hf, ht⟩ := tame_parts.1 ht
  cases hg : getOk (slotS (Nor.wornS f s k) j) with
  | false => exact .inr rfl
  | true =>
    refine .inl (slot_same (Nor.size_wornS h) hf hj ?_)
    have hc : ∀ i, i < 12 → bt (Nor.wornS f s k) (24 * j + i + 12) = ~~~(bt (Nor.wornS f s k) (24 * j + i)) := fun i hi => by
      have := comp_bt hg i hi
      rw [bt_slot _ _ _ (by omega), bt_slot _ _ _ (by omega)] at this
      exact this
    have lo : ∀ i, i < 12 → bt (Nor.wornS f s k) (24 * j + i) = bt f (24 * j + i) ∧ bt (Nor.wornS f s k) (24 * j + i + 12) = bt f (24 * j + i + 12) := fun i hi => by
      have c := hc i hi
      have t := ht j hj i hi
      have e1 := bt_worn h (24 * j + i) (by omega)
      have e2 := bt_worn h (24 * j + i + 12) (by omega)
      by_cases h1 : 96 * s.toNat ≤ 24 * j + i ∧ 24 * j + i < 96 * s.toNat + k.toNat
      · rw [if_pos h1] at e1
        by_cases h2 : 96 * s.toNat ≤ 24 * j + i + 12 ∧ 24 * j + i + 12 < 96 * s.toNat + k.toNat
        · rw [if_pos h2] at e2
          rw [e1, e2] at c
          exact absurd c (by decide)
        · rw [if_neg h2] at e2
          rw [e1, e2] at c
          rw [c] at t
          rw [e1, e2]
          refine ⟨?_, rfl⟩
          rw [show (~~~(255 : UInt8)) = 0 from by decide, UInt8.or_zero] at t
          exact t.symm
      · rw [if_neg h1] at e1
        by_cases h2 : 96 * s.toNat ≤ 24 * j + i + 12 ∧ 24 * j + i + 12 < 96 * s.toNat + k.toNat
        · exfalso
          -- the sector begins within this place: it does not
          have hk := of_decide_eq_true (show decide (f.size = 768 ∧ 0 ≤ s ∧ s < 8 ∧ 0 ≤ k ∧ k ≤ 96) = true from h)
          omega
        · rw [if_neg h2] at e2
          exact ⟨e1, e2⟩
    intro i hi
    by_cases h1 : i < 12
    · exact (lo i h1).1
    · obtain ⟨n, rfl⟩ : ∃ n, i = n + 12 := ⟨i - 12, by omega⟩
      exact (lo n (by omega)).2
theorem worn_other {f : ByteArray} {s k : Int} (h : Nor.wornOk f s k = true) (j : Nat) (hj : ¬ j / 4 = s.toNat) : slotS (Nor.wornS f s k) j = slotS f j := by
  have hk := of_decide_eq_true (show decide (f.size = 768 ∧ 0 ≤ s ∧ s < 8 ∧ 0 ≤ k ∧ k ≤ 96) = true from h)
  exact slotS_eq fun i h1 h2 => worn_all h i (by omega)

/-- A record's bytes s are under way in place j of g: all else stands, and none of its bits is programmed that s does not ask for. -/
structure Part (g y : ByteArray) (j : Nat) (s : ByteArray) : Prop where
  sy : y.size = 768
  out : ∀ i, (i < 24 * j ∨ 24 * j + 24 ≤ i) → y.data.toList[i]? = g.data.toList[i]?
  ov : ∀ i, i < 24 → bt y (24 * j + i) &&& bt s i = bt s i
theorem getD_bt {s : ByteArray} {i : Nat} (h : i < s.size) : s.data.toList.getD i 255 = bt s i := by rw [List.getD_eq_getElem?_getD, bt_at s i h]; rfl
theorem full_bt {g : ByteArray} {j : Nat} (hb : slotS g j = full24) (i : Nat) (hi : i < 24) : g.data.toList[24 * j + i]? = some 255 := by
  rw [← get_slotS g j i hi, hb, list_full24, List.getElem?_replicate, if_pos hi]
theorem part_cut {g s : ByteArray} {j : Nat} (hg : g.size = 768) (hs : s.size = 24) (hj : j < 8) (hb : slotS g j = full24) (n : Nat) (hn : n < 6) (c : Int) (hc0 : 0 ≤ c) (hc1 : c ≤ 96) :
    cutOk (overS g s (24 * j) n) false (((24 * j : Nat) : Int) + 4 * (n : Int)) (wordS s n) c = true ∧ Part g (cutS (overS g s (24 * j) n) false (((24 * j : Nat) : Int) + 4 * (n : Int)) (wordS s n) c) j s := by
  have hw : wordsOk ((24 * j : Nat) : Int) s = true := wordsOk_parts.2 ⟨by omega, by omega, by omega, by omega⟩
  have e : cutOk (overS g s (24 * j) n) false (((24 * j : Nat) : Int) + 4 * (n : Int)) (wordS s n) c = true := cutOk_parts.2 ⟨by rw [size_overS]; exact hg, wordsMay hw n (by unfold wordsN; omega), hc0, hc1⟩
  have el : ∀ i : Nat, (cutS (overS g s (24 * j) n) false (((24 * j : Nat) : Int) + 4 * (n : Int)) (wordS s n) c).data.toList[i]? = (Nor.tornL (overL g.data.toList s.data.toList (24 * j) n) (wordL s.data.toList n) (24 * j + 4 * n) (min c.toNat 32))[i]? := fun i => by
    rw [list_cutS e, list_overS, show (((24 * j : Nat) : Int) + 4 * (n : Int)).toNat = 24 * j + 4 * n from by omega]
    rfl
  refine ⟨e, ⟨size_cutS e, fun i hi => ?_, fun i hi => ?_⟩⟩
  · rw [el i, Nor.get_tornL, get_overL]
    cases g.data.toList[i]? with
    | none => rfl
    | some b => simp only [Option.map_some]; rw [if_neg (by omega), if_neg (by omega)]
  · have h := el (24 * j + i)
    rw [Nor.get_tornL, get_overL, full_bt hb i hi] at h
    simp only [Option.map_some] at h
    rw [show 24 * j + i - 24 * j = i from by omega, getD_bt (by omega)] at h
    by_cases h1 : 24 * j + 4 * n ≤ 24 * j + i ∧ 24 * j + i < 24 * j + 4 * n + 4
    · rw [if_pos h1, if_neg (by omega), wordL_get _ _ _ (by omega), show 4 * n + (24 * j + i - (24 * j + 4 * n)) = i from by omega, getD_bt (by omega), all_and] at h
      rw [bt_of h]
      exact keep_more _ _
    · rw [if_neg h1] at h
      by_cases h2 : 24 * j ≤ 24 * j + i ∧ 24 * j + i < 24 * j + 4 * n
      · rw [if_pos h2, all_and] at h
        rw [bt_of h, UInt8.and_self]
      · rw [if_neg h2] at h
        rw [bt_of h, all_and]
theorem part_tame {g y s : ByteArray} {j : Nat} (ht : tameB g = true) (hs : getOk s = true) (h : Part g y j s) : tameB y = true := by
  obtain ⟨hg, ht⟩ := tame_parts.1 ht
  refine tame_parts.2 ⟨h.sy, fun i hi k hk => ?_⟩
  by_cases e : i = j
  · subst e
    have h1 := h.ov k (by omega)
    have h2 := h.ov (k + 12) (by omega)
    rw [comp_bt hs k hk, show 24 * i + (k + 12) = 24 * i + k + 12 from by omega] at h2
    exact or_more _ _ _ _ h1 h2 (or_not _)
  · rw [bt_eq (h.out (24 * i + k) (by omega)), bt_eq (h.out (24 * i + k + 12) (by omega))]
    exact ht i hi k hk
theorem part_other {g y s : ByteArray} {j : Nat} (h : Part g y j s) (i : Nat) (hi : ¬ i = j) : slotS y i = slotS g i := slotS_eq fun k h1 h2 => h.out k (by omega)
theorem part_new {g y s : ByteArray} {j : Nat} (hs : getOk s = true) (h : Part g y j s) : slotS y j = s ∨ getOk (slotS y j) = false := by
  cases hg : getOk (slotS y j) with
  | false => exact .inr rfl
  | true =>
    refine .inl (only_itself hs hg fun i h1 h2 => ?_)
    have hz := (getOk_parts.1 hs).1
    rw [bt_get _ _ h1, bt_get _ _ h2, bt_slot _ _ _ (by omega)]
    exact h.ov i (by omega)

/-- The records of a flash, place by place. -/
theorem found_iff {f : ByteArray} {n : Nat} {p : FPl} : p ∈ foundTo f n ↔ ∃ j, j < n ∧ getOk (slotS f j) = true ∧ p = recAt f j := by
  refine ⟨foundTo_mem, ?_⟩
  rintro ⟨j, h1, h2, rfl⟩
  unfold foundTo
  rw [List.mem_map]
  exact ⟨j, by rw [List.mem_filter, List.mem_range]; exact ⟨h1, h2⟩, rfl⟩
theorem scan_iff {f : ByteArray} (hf : f.size = 768) {p : FPl} : p ∈ scanL f ↔ ∃ j, j < 8 ∧ getOk (slotS f j) = true ∧ p = recAt f j := by rw [scan_ok hf]; exact found_iff
theorem scan_row (f : ByteArray) : (scanL f).Pairwise (fun a b => a.pa < b.pa) := by
  by_cases hf : f.size = 768
  · rw [scan_ok hf]
    unfold foundTo
    rw [List.pairwise_map]
    refine (List.Pairwise.filter _ List.pairwise_lt_range).imp ?_
    intro a b h
    show 24 * (a : Int) < 24 * (b : Int)
    omega
  · rw [scan_no hf]; exact List.Pairwise.nil
theorem row_lt {f : ByteArray} {i k : Nat} (hi : i < (scanL f).length) (hk : k < (scanL f).length) (h : i < k) : (scanL f)[i].pa < (scanL f)[k].pa := List.pairwise_iff_getElem.1 (scan_row f) i k hi hk h
/-- What the active record is, place by place. -/
theorem act_iff {f : ByteArray} (hf : f.size = 768) {p : FPl} : actO f = some p ↔ p ∈ scanL f ∧ goodP f p = true ∧ ∀ r ∈ scanL f, goodP f r = true → r.pq < p.pq ∨ (r.pq = p.pq ∧ r.pa ≤ p.pa) := by
  constructor
  · intro h
    obtain ⟨k, hk, e, _, g, hb⟩ := act_best h
    refine ⟨act_mem h, g, fun r hr gr => ?_⟩
    obtain ⟨i, hi, rfl⟩ := List.getElem_of_mem hr
    rcases hb i hi gr with h1 | ⟨h1, h2⟩
    · exact .inl h1
    · refine .inr ⟨h1, ?_⟩
      by_cases e2 : i = k
      · subst e2; rw [e]; exact Int.le_refl _
      · have := row_lt hi hk (by omega)
        rw [e] at this
        omega
  · rintro ⟨hm, hg, hb⟩
    obtain ⟨k, hk, e⟩ := List.getElem_of_mem hm
    have b := best_of (f := f) hk (by rw [e]; exact hg) fun i hi gi => by
      rw [e]
      rcases hb _ (List.getElem_mem hi) gi with h1 | ⟨h1, h2⟩
      · exact .inl h1
      · refine .inr ⟨h1, ?_⟩
        by_cases e2 : i ≤ k
        · exact e2
        · have := row_lt hk hi (by omega)
          rw [e] at this
          omega
    have := (act_some (mayF_t hf) hk b).1
    rw [e] at this
    exact this
theorem fold_ge : ∀ (l : List FPl) (x : Int), x ≤ l.foldl (fun x p => max x p.pq) x ∧ ∀ p ∈ l, p.pq ≤ l.foldl (fun x p => max x p.pq) x
  | [], x => ⟨Int.le_refl _, fun p h => by cases h⟩
  | r :: l, x => by
    obtain ⟨h1, h2⟩ := fold_ge l (max x r.pq)
    refine ⟨by show x ≤ l.foldl _ (max x r.pq); omega, fun p hp => ?_⟩
    show p.pq ≤ l.foldl _ (max x r.pq)
    rcases List.mem_cons.1 hp with rfl | hp
    · omega
    · exact h2 p hp
theorem fold_le (q : Int) : ∀ (l : List FPl) (x : Int), x ≤ q → (∀ p ∈ l, p.pq ≤ q) → l.foldl (fun x p => max x p.pq) x ≤ q
  | [], _, h, _ => h
  | r :: l, x, h, hp => fold_le q l (max x r.pq) (by have := hp r (List.mem_cons_self ..); omega) fun p h => hp p (List.mem_cons_of_mem _ h)
theorem top_ge {f : ByteArray} {p : FPl} (h : p ∈ scanL f) : p.pq ≤ topI f := (fold_ge (scanL f) 0).2 p h
theorem top_le {f : ByteArray} {q : Int} (h0 : 0 ≤ q) (h : ∀ p ∈ scanL f, p.pq ≤ q) : topI f ≤ q := fold_le q (scanL f) 0 h0 h

/-- y is f but for places that tell nothing, and place j, which may bear the record whose bytes are s. -/
structure Near (f y : ByteArray) (j : Nat) (s : ByteArray) : Prop where
  sf : f.size = 768
  sy : y.size = 768
  out : ∀ i, 192 ≤ i → y.data.toList[i]? = f.data.toList[i]?
  sl : ∀ i, i < 8 → slotS y i = slotS f i ∨ getOk (slotS y i) = false ∨ (i = j ∧ slotS y i = s)
theorem near_good {f y s : ByteArray} {j : Nat} (h : Near f y j s) (r : FPl) : goodP y r = goodP f r := good_eq h.sy h.sf r fun i h1 h2 => h.out i (by omega)
theorem near_mem {f y : ByteArray} {j : Nat} {q t z m : Int} (hr : recMay q t z m = true) (h : Near f y j (putS q t z m)) {r : FPl} (hm : r ∈ scanL y) : r ∈ scanL f ∨ (r = ⟨24 * (j : Int), q, t, z, m⟩ ∧ slotS y j = putS q t z m) := by
  obtain ⟨i, hi, hg, rfl⟩ := (scan_iff h.sy).1 hm
  rcases h.sl i hi with e | e | ⟨rfl, e⟩
  · exact .inl ((scan_iff h.sf).2 ⟨i, hi, by rw [← e]; exact hg, recAt_eq e⟩)
  · rw [e] at hg; cases hg
  · exact .inr ⟨(recAt_put hr e).2, e⟩
/-- Where the new record stands, it is the active one, and its number is the greatest. -/
theorem near_new {f y : ByteArray} {j : Nat} {q t z m : Int} (hj : j < 8) (hr : recMay q t z m = true) (h : Near f y j (putS q t z m)) (hq : topI f < q) (hg : goodB f q t z m = true) (hs : slotS y j = putS q t z m) : actO y = some ⟨24 * (j : Int), q, t, z, m⟩ ∧ topI y = q := by
  have hm : (⟨24 * (j : Int), q, t, z, m⟩ : FPl) ∈ scanL y := (scan_iff h.sy).2 ⟨j, hj, (recAt_put hr hs).1, (recAt_put hr hs).2.symm⟩
  have hl : ∀ r ∈ scanL y, r = ⟨24 * (j : Int), q, t, z, m⟩ ∨ r.pq < q := fun r hr' => by
    rcases near_mem hr h hr' with h1 | h1
    · have := top_ge h1
      exact .inr (by omega)
    · exact .inl h1.1
  constructor
  · refine (act_iff h.sy).2 ⟨hm, by rw [near_good h]; exact hg, fun r hr' _ => ?_⟩
    rcases hl r hr' with rfl | h1
    · exact .inr ⟨rfl, Int.le_refl _⟩
    · exact .inl h1
  · have a := top_ge hm
    have b := top_le (f := y) (q := q) (by have := topI_bound f; omega) fun r hr' => by
      rcases hl r hr' with rfl | h1
      · exact Int.le_refl _
      · omega
    exact Int.le_antisymm b a
/-- While it does not stand, the active one stays. -/
theorem near_old {f y : ByteArray} {j : Nat} {q t z m : Int} {p : FPl} (hr : recMay q t z m = true) (h : Near f y j (putS q t z m)) (ha : actO f = some p) (hp : ∀ i, i < 8 → getOk (slotS f i) = true → p = recAt f i → slotS y i = slotS f i) (hs : ¬ slotS y j = putS q t z m) : actO y = some p := by
  obtain ⟨hm, hg, hb⟩ := (act_iff h.sf).1 ha
  obtain ⟨i, hi, hk, e⟩ := (scan_iff h.sf).1 hm
  have es := hp i hi hk e
  refine (act_iff h.sy).2 ⟨(scan_iff h.sy).2 ⟨i, hi, by rw [es]; exact hk, by rw [e]; exact (recAt_eq es).symm⟩, by rw [near_good h]; exact hg, fun r hr' gr => ?_⟩
  rcases near_mem hr h hr' with h1 | h1
  · rw [near_good h] at gr
    exact hb r h1 gr
  · exact absurd h1.2 hs
theorem near_some {f y : ByteArray} {j : Nat} {q t z m : Int} {p : FPl} (hj : j < 8) (hr : recMay q t z m = true) (h : Near f y j (putS q t z m)) (hq : topI f < q) (hg : goodB f q t z m = true) (ha : actO f = some p) (hp : ∀ i, i < 8 → getOk (slotS f i) = true → p = recAt f i → slotS y i = slotS f i) : actO y = some p ∨ actO y = some ⟨24 * (j : Int), q, t, z, m⟩ := by
  by_cases hs : slotS y j = putS q t z m
  · exact .inr (near_new hj hr h hq hg hs).1
  · exact .inl (near_old hr h ha hp hs)

/-- Where the next record goes: a blank place of home, or the first one of the other sector, which is erased ahead. -/
theorem app_place (f : ByteArray) : ∃ j, j < 8 ∧ appA f = ((24 * j : Nat) : Int) ∧ ((appE f = [] ∧ slotS f j = full24 ∧ freeIs f (homeI f) = true) ∨ ∃ H : Nat, H ≤ 1 ∧ j = 4 * H ∧ appE f = [⟨true, ((96 * H : Nat) : Int), ⟨#[]⟩⟩] ∧ ¬ homeI f = (H : Int) ∧ freeIs f (homeI f) = false) := by
  have hh := home_01 f
  unfold appA appE
  cases h : freeIs f (homeI f) with
  | true =>
    have h0 := (free_in h).1
    obtain ⟨_, h1, h2⟩ := freeOk_parts.1 h0
    have h' := h
    unfold freeIs freeO at h'
    rw [if_pos h0] at h'
    obtain ⟨j, hj⟩ := Option.isSome_iff_exists.1 h'
    obtain ⟨g1, g2, g3⟩ := freeFrom_some hj
    have e : freeAt f (homeI f) = 24 * (j : Int) := by unfold freeAt freeO; rw [if_pos h0, hj]; rfl
    refine ⟨j, by omega, by rw [if_pos rfl, e]; omega, .inl ⟨by rw [if_pos rfl], ?_, rfl⟩⟩
    unfold blankP at g3
    exact of_decide_eq_true g3
  | false =>
    obtain ⟨H, hH⟩ : ∃ H : Nat, (H : Int) = 1 - homeI f := ⟨(1 - homeI f).toNat, by omega⟩
    refine ⟨4 * H, by omega, by rw [if_neg (by decide)]; omega, .inr ⟨H, by omega, rfl, ?_, by omega, rfl⟩⟩
    rw [if_neg (by decide), show (1 - homeI f) * 96 = ((96 * H : Nat) : Int) from by omega]
/-- The flash ahead of the words. -/
theorem erase_step {f : ByteArray} (hf : f.size = 768) (H : Nat) (hH : H ≤ 1) (c : Int) (h0 : 0 ≤ c) (h1 : c ≤ 96) : cutOk f true ((96 * H : Nat) : Int) ⟨#[]⟩ c = true ∧ Nor.wornOk f (H : Int) c = true ∧ cutS f true ((96 * H : Nat) : Int) ⟨#[]⟩ c = Nor.wornS f (H : Int) c := by
  have e : cutOk f true ((96 * H : Nat) : Int) ⟨#[]⟩ c = true := cutOk_parts.2 ⟨hf, may_er.2 ⟨by omega, by omega, by omega, rfl⟩, h0, h1⟩
  obtain ⟨g1, g2⟩ := cut_er e
  rw [show ((96 * H : Nat) : Int) / 96 = (H : Int) from by omega] at g1 g2
  exact ⟨e, g1, g2⟩
end Go.Proofs.YtmlfkbkpkgaefaaGreatDoor.Pla

/- The steps that lay a record down, one by one, cut anywhere: which record is active behind them, and that a tame flash stays tame. No program is named here. -/
namespace Go.Proofs.YtmlfkbkpkgaefaaGreatDoor.Pla
open Go.Proofs.YtmlfkbkpkgaefaaGreatDoor Go.Proofs.YtmlfkbkpkgaefaaGreatDoor.Bytes Go.Proofs.YtmlfkbkpkgaefaaGreatDoor.Ent Go.Proofs.YtmlfkbkpkgaefaaGreatDoor.Ops Go.Proofs.YtmlfkbkpkgaefaaGreatDoor.Jou Go.Proofs.YtmlfkbkpkgaefaaGreatDoor.Act Go.Proofs.YtmlfkbkpkgaefaaGreatDoor.Held Go.Proofs.YtmlfkbkpkgaefaaGreatDoor.Cho

/-- How the steps go: those ahead of the words, the flash that they leave, and the place, which is blank on it. -/
structure Way (f : ByteArray) (q t z m : Int) (E : List FOp) (g : ByteArray) (j : Nat) : Prop where
  hj : j < 8
  ap : appA f = ((24 * j : Nat) : Int)
  ll : appL f q t z m = E ++ wordsTo ((24 * j : Nat) : Int) (putS q t z m) 6
  dg : doL f E = g
  sf : f.size = 768
  sg : g.size = 768
  rm : recMay q t z m = true
  bl : slotS g j = full24
  out : ∀ i : Nat, 192 ≤ i → g.data.toList[i]? = f.data.toList[i]?
  old : ∀ p i, actO f = some p → getOk (slotS f i) = true → p = recAt f i → slotS g i = slotS f i ∧ ¬ i = j
  er : (E = [] ∧ g = f ∧ freeIs f (homeI f) = true) ∨ ∃ H : Nat, H ≤ 1 ∧ E = [⟨true, ((96 * H : Nat) : Int), ⟨#[]⟩⟩] ∧ ¬ homeI f = (H : Int) ∧ Nor.wornOk f (H : Int) 96 = true ∧ g = Nor.wornS f (H : Int) 96 ∧ freeIs f (homeI f) = false
theorem way {f : ByteArray} {q t z m : Int} (h : appOk f q t z m = true) : ∃ E g j, Way f q t z m E g j := by
  obtain ⟨hf, hr⟩ := imgOk_parts.1 h
  have hL := app_ok h
  obtain ⟨j, hj, hA, hE⟩ := app_place f
  rw [hA] at hL
  rcases hE with ⟨hE, hb, hi⟩ | ⟨H, hH, rfl, hE, hne, hi⟩
  · rw [hE] at hL
    refine ⟨[], f, j, hj, hA, hL, rfl, hf, hf, hr, hb, fun _ _ => rfl, fun p i _ hg _ => ⟨rfl, fun e => ?_⟩, .inl ⟨rfl, rfl, hi⟩⟩
    subst e
    rw [hb, get_full24] at hg
    cases hg
  · rw [hE] at hL
    obtain ⟨h1, h2, h3⟩ := erase_step hf H hH 96 (by omega) (by omega)
    refine ⟨_, Nor.wornS f (H : Int) 96, 4 * H, hj, hA, hL, h3, hf, Nor.size_wornS h2, hr, erased_in h2 (by omega), fun i hi => worn_all h2 i (by omega), fun p i ha _ e => ?_, .inr ⟨H, hH, rfl, hne, h2, rfl, hi⟩⟩
    have hp : p.pa = 24 * (i : Int) := by rw [e]; rfl
    have hh : homeI f = p.pa / 96 := by unfold homeI; rw [(act_may ha).2.1]
    have hn : ¬ i / 4 = H := by omega
    exact ⟨worn_other h2 i (by omega), by omega⟩
theorem take_words (a : Int) (t : ByteArray) (n k : Nat) (h : k ≤ n) : (wordsTo a t n).take k = wordsTo a t k := by
  unfold wordsTo
  rw [← List.map_take, List.take_range, Nat.min_eq_left h]
theorem way_len {f : ByteArray} {q t z m : Int} {E : List FOp} {g : ByteArray} {j : Nat} (w : Way f q t z m E g j) : (appL f q t z m).length = E.length + 6 := by rw [w.ll, List.length_append, length_wordsTo]
theorem way_size {f : ByteArray} {q t z m : Int} {E : List FOp} {g : ByteArray} {j : Nat} (w : Way f q t z m E g j) : (putS q t z m).size = 24 := size_putS w.rm
theorem way_wok {f : ByteArray} {q t z m : Int} {E : List FOp} {g : ByteArray} {j : Nat} (w : Way f q t z m E g j) : wordsOk ((24 * j : Nat) : Int) (putS q t z m) = true := by
  have := w.hj
  have := way_size w
  exact wordsOk_parts.2 ⟨by omega, by omega, by omega, by omega⟩
theorem way_take {f : ByteArray} {q t z m : Int} {E : List FOp} {g : ByteArray} {j : Nat} (w : Way f q t z m E g j) (n : Nat) (hn : n ≤ 6) : doL f ((appL f q t z m).take (E.length + n)) = overS g (putS q t z m) (24 * j) n := by
  have hz := way_size w
  rw [w.ll, List.take_length_add_append, take_words _ _ _ _ hn, doL_append, w.dg]
  exact doL_words w.sg (way_wok w) n (by unfold wordsN; omega)
theorem way_get {f : ByteArray} {q t z m : Int} {E : List FOp} {g : ByteArray} {j : Nat} (w : Way f q t z m E g j) (n : Nat) (hn : E.length + n < (appL f q t z m).length) : (appL f q t z m)[E.length + n] = ⟨false, ((24 * j : Nat) : Int) + 4 * (n : Int), wordS (putS q t z m) n⟩ := by
  simp only [w.ll]
  rw [List.getElem_append_right (by omega), get_wordsTo]
  simp only [show E.length + n - E.length = n from by omega]
/-- One step, whole or cut: an erasing of the sector that is not home, or a word of the record. -/
theorem way_step {f : ByteArray} {q t z m : Int} {E : List FOp} {g : ByteArray} {j : Nat} (w : Way f q t z m E g j) (k : Nat) (hk : k < (appL f q t z m).length) (c : Int) (h0 : 0 ≤ c) (h1 : c ≤ 96) :
    cutOk (doL f ((appL f q t z m).take k)) (appL f q t z m)[k].er (appL f q t z m)[k].pl (appL f q t z m)[k].tx c = true ∧
    ((k = 0 ∧ ∃ H : Nat, H ≤ 1 ∧ (appL f q t z m)[k].er = true ∧ (appL f q t z m)[k].pl = ((96 * H : Nat) : Int) ∧ ¬ homeI f = (H : Int) ∧ E.length = 1 ∧ Nor.wornOk f (H : Int) c = true ∧ cutS (doL f ((appL f q t z m).take k)) (appL f q t z m)[k].er (appL f q t z m)[k].pl (appL f q t z m)[k].tx c = Nor.wornS f (H : Int) c) ∨
     (∃ n, n < 6 ∧ k = E.length + n ∧ (appL f q t z m)[k].er = false ∧ (appL f q t z m)[k].pl = ((24 * j : Nat) : Int) + 4 * (n : Int) ∧ Part g (cutS (doL f ((appL f q t z m).take k)) (appL f q t z m)[k].er (appL f q t z m)[k].pl (appL f q t z m)[k].tx c) j (putS q t z m))) := by
  have hl := way_len w
  by_cases hE : k < E.length
  · rcases w.er with ⟨e, _⟩ | ⟨H, hH, e, hne, _, _, _⟩
    · rw [e] at hE; cases hE
    · have hk0 : k = 0 := by rw [e] at hE; simp at hE; exact hE
      subst hk0
      have eg : (appL f q t z m)[0] = ⟨true, ((96 * H : Nat) : Int), ⟨#[]⟩⟩ := by simp only [w.ll, e]; rfl
      rw [eg]
      obtain ⟨g1, g2, g3⟩ := erase_step w.sf H hH c h0 h1
      exact ⟨g1, .inl ⟨rfl, H, hH, rfl, rfl, hne, by rw [e]; rfl, g2, g3⟩⟩
  · obtain ⟨n, rfl⟩ : ∃ n, k = E.length + n := ⟨k - E.length, by omega⟩
    have hn : n < 6 := by omega
    rw [way_get w n hk, way_take w n (by omega)]
    obtain ⟨g1, g2⟩ := part_cut w.sg (way_size w) w.hj w.bl n hn c h0 h1
    exact ⟨g1, .inr ⟨n, hn, rfl, rfl, rfl, g2⟩⟩
theorem near_part {f y : ByteArray} {q t z m : Int} {E : List FOp} {g : ByteArray} {j : Nat} (w : Way f q t z m E g j) (ht : tameB f = true) (h : Part g y j (putS q t z m)) : Near f y j (putS q t z m) ∧ tameB y = true ∧ (∀ p i, actO f = some p → getOk (slotS f i) = true → p = recAt f i → slotS y i = slotS f i) := by
  have hs := (get_put w.rm).1
  have hgt : tameB g = true := by
    rcases w.er with ⟨_, e, _⟩ | ⟨H, _, _, _, h2, e, _⟩
    · rw [e]; exact ht
    · rw [e]; exact worn_tame ht h2
  refine ⟨⟨w.sf, h.sy, fun i hi => ?_, fun i hi => ?_⟩, part_tame hgt hs h, fun p i ha hg e => ?_⟩
  · have := w.hj
    rw [h.out i (by omega)]
    exact w.out i hi
  · by_cases e : i = j
    · subst e
      rcases part_new hs h with e2 | e2
      · exact .inr (.inr ⟨rfl, e2⟩)
      · exact .inr (.inl e2)
    · rw [part_other h i e]
      rcases w.er with ⟨_, e2, _⟩ | ⟨H, _, _, _, h2, e2, _⟩
      · rw [e2]; exact .inl rfl
      · rw [e2]
        rcases worn_slot ht h2 i hi with h3 | h3
        · exact .inl h3
        · exact .inr (.inl h3)
  · obtain ⟨h1, h2⟩ := w.old p i ha hg e
    rw [part_other h i h2]
    exact h1
/-- Behind any of the steps, the last one cut: the flash is tame, and the active record is what it was, or the new one. -/
theorem way_cut {f : ByteArray} {q t z m : Int} {E : List FOp} {g : ByteArray} {j : Nat} (w : Way f q t z m E g j) (ht : tameB f = true) (hq : topI f < q) (hg : goodB f q t z m = true) {p : FPl} (ha : actO f = some p) (k : Nat) (hk : k < (appL f q t z m).length) (c : Int) (h0 : 0 ≤ c) (h1 : c ≤ 96) (y : ByteArray) (hy : y = cutS (doL f ((appL f q t z m).take k)) (appL f q t z m)[k].er (appL f q t z m)[k].pl (appL f q t z m)[k].tx c) :
    tameB y = true ∧ (actO y = some p ∨ actO y = some ⟨((24 * j : Nat) : Int), q, t, z, m⟩) := by
  have hc : ((24 * j : Nat) : Int) = 24 * (j : Int) := by omega
  rw [hc]
  rcases (way_step w k hk c h0 h1).2 with ⟨_, H, hH, _, _, hne, _, hw, e⟩ | ⟨n, hn, _, _, _, hp⟩
  · rw [← hy] at e
    subst e
    refine ⟨worn_tame ht hw, near_some w.hj w.rm ⟨w.sf, Nor.size_wornS hw, fun i hi => worn_all hw i (by omega), fun i hi => ?_⟩ hq hg ha fun i hi hgi e => ?_⟩
    · rcases worn_slot ht hw i hi with h3 | h3
      · exact .inl h3
      · exact .inr (.inl h3)
    · have hpa : p.pa = 24 * (i : Int) := by rw [e]; rfl
      have hh : homeI f = p.pa / 96 := by unfold homeI; rw [(act_may ha).2.1]
      exact worn_other hw i (by omega)
  · rw [← hy] at hp
    obtain ⟨n1, n2, n3⟩ := near_part w ht hp
    exact ⟨n2, near_some w.hj w.rm n1 hq hg ha fun i _ hgi e => n3 p i ha hgi e⟩
/-- Behind all of them. -/
theorem way_end {f : ByteArray} {q t z m : Int} {E : List FOp} {g : ByteArray} {j : Nat} (w : Way f q t z m E g j) : Part g (doL f (appL f q t z m)) j (putS q t z m) ∧ slotS (doL f (appL f q t z m)) j = putS q t z m ∧ doL f (appL f q t z m) = overS g (putS q t z m) (24 * j) 6 := by
  have hz := way_size w
  have hl := way_len w
  have e : doL f (appL f q t z m) = overS g (putS q t z m) (24 * j) 6 := by
    have := way_take w 6 (Nat.le_refl _)
    rw [← hl, List.take_length] at this
    exact this
  have hp := (part_cut w.sg hz w.hj w.bl 5 (by omega) 96 (by omega) (by omega)).2
  have es := (over_step w.sg (way_wok w) 5 (by unfold wordsN; omega)).2
  rw [es] at hp
  have hm := over_mid g (putS q t z m) (24 * j) 6 (by omega) fun i hi => full_bt w.bl i (by omega)
  rw [hz] at hm
  rw [e]
  exact ⟨hp, hm, rfl⟩
theorem way_done {f : ByteArray} {q t z m : Int} {E : List FOp} {g : ByteArray} {j : Nat} (w : Way f q t z m E g j) (ht : tameB f = true) (hq : topI f < q) (hg : goodB f q t z m = true) : tameB (doL f (appL f q t z m)) = true ∧ actO (doL f (appL f q t z m)) = some ⟨((24 * j : Nat) : Int), q, t, z, m⟩ ∧ topI (doL f (appL f q t z m)) = q := by
  obtain ⟨h1, h2, _⟩ := way_end w
  obtain ⟨n1, n2, _⟩ := near_part w ht h1
  have hc : ((24 * j : Nat) : Int) = 24 * (j : Int) := by omega
  rw [hc]
  exact ⟨n2, near_new w.hj w.rm n1 hq hg h2⟩
/-- The record of a staged image is good, and its number above all. -/
theorem rof_good {f : ByteArray} {t z : Int} (h : errS f t z = 0) : recMay (rofQ f t z) (rofT f t z) (rofZ f t z) (rofM f t z) = true ∧ appOk f (rofQ f t z) (rofT f t z) (rofZ f t z) (rofM f t z) = true ∧ topI f < rofQ f t z ∧ goodB f (rofQ f t z) (rofT f t z) (rofZ f t z) (rofM f t z) = true ∧ rofQ f t z = topI f + 1 := by
  cases hk : rofOk f t z with
  | false => rw [(rof_no hk).2.2.2.2] at h; cases h
  | true =>
    by_cases ht : topI f < 1048576
    · obtain ⟨v1, v2, v3, v4, _⟩ := rof_yes hk ht
      obtain ⟨k1, k2, k3, k4, k5⟩ := rofOk_parts.1 hk
      have hb := topI_bound f
      have hs := sumI_lt f t z
      rw [v1, v2, v3, v4]
      have hm : recMay (topI f + 1) t z (sumI f t z) = true := recMay_parts.2 ⟨by omega, by omega, k2, k3, k4, k5, hs.1, hs.2⟩
      have ho : imgOk f (topI f + 1) t z (sumI f t z) = true := imgOk_parts.2 ⟨k1, hm⟩
      refine ⟨hm, ho, by omega, ?_, rfl⟩
      unfold goodB
      rw [ho, decide_eq_true rfl]
      rfl
    · rw [(rof_full hk ht).2.2.2.2] at h; cases h
theorem blank_tame : tameB Nor.blankS = true := by
  refine tame_parts.2 ⟨Nor.size_blankS, fun i hi k hk => ?_⟩
  rw [bt_of (blank_get (24 * i + k) (by omega)), bt_of (blank_get (24 * i + k + 12) (by omega))]
  rfl
theorem blank_top : topI Nor.blankS = 0 := by unfold topI; rw [blank_scan]; rfl
end Go.Proofs.YtmlfkbkpkgaefaaGreatDoor.Pla

/- The steps that erase a slot, what they leave of a flash; the record of a slot's first bytes, of which one byte is turned: as mathematics of texts. No program is named here. -/
namespace Go.Proofs.YtmlfkbkpkgaefaaGreatDoor.Sta
open Go.Proofs.YtmlfkbkpkgaefaaGreatDoor Go.Proofs.YtmlfkbkpkgaefaaGreatDoor.Bytes Go.Proofs.YtmlfkbkpkgaefaaGreatDoor.Ent Go.Proofs.YtmlfkbkpkgaefaaGreatDoor.Ops Go.Proofs.YtmlfkbkpkgaefaaGreatDoor.Jou Go.Proofs.YtmlfkbkpkgaefaaGreatDoor.Act Go.Proofs.YtmlfkbkpkgaefaaGreatDoor.Held Go.Proofs.YtmlfkbkpkgaefaaGreatDoor.Cho Go.Proofs.YtmlfkbkpkgaefaaGreatDoor.Pla Go.Proofs.YtmlfkbkpkgaefaaGreatDoor.Turn

/-- The first n steps that erase sectors from place b on, in their row. -/
def erTo (b : Int) : Nat → List FOp
  | 0 => []
  | n + 1 => erTo b n ++ [⟨true, b + 96 * (n : Int), ⟨#[]⟩⟩]
theorem erTo_succ (b : Int) (n : Nat) : erTo b (n + 1) = erTo b n ++ [⟨true, b + 96 * (n : Int), ⟨#[]⟩⟩] := rfl
theorem length_erTo (b : Int) (n : Nat) : (erTo b n).length = n := by
  induction n with
  | zero => rfl
  | succ n ih => rw [erTo_succ, List.length_append, ih]; rfl
theorem get_erTo (b : Int) (n i : Nat) (h : i < n) : (erTo b n)[i]? = some ⟨true, b + 96 * (i : Int), ⟨#[]⟩⟩ := by
  induction n with
  | zero => omega
  | succ n ih =>
    rw [erTo_succ]
    by_cases e : i < n
    · rw [List.getElem?_append_left (by rw [length_erTo]; exact e)]
      exact ih e
    · obtain rfl : i = n := by omega
      rw [List.getElem?_append_right (by rw [length_erTo]; omega), length_erTo, Nat.sub_self]
      rfl
def erL (t : Int) : List FOp := if baseOk t then erTo (baseI t) 3 else []
def errG (ok : Bool) : Int := if ok then 0 else 900
theorem erL_no {t : Int} (h : baseOk t = false) : erL t = [] := by unfold erL; rw [h]; rfl
theorem erL_ok {t : Int} (h : baseOk t = true) : erL t = erTo (baseI t) 3 := by unfold erL; rw [if_pos h]
theorem erL_few (t : Int) : (erL t).length ≤ 65536 := by
  cases h : baseOk t with
  | false => rw [erL_no h]; simp
  | true => rw [erL_ok h, length_erTo]; omega

/-- Behind the first n steps: the first 96 n bytes from place b on are blank, all others as they were. -/
structure Gone (f y : ByteArray) (b n : Nat) : Prop where
  sy : y.size = 768
  out : ∀ i, (i < b ∨ b + 96 * n ≤ i) → y.data.toList[i]? = f.data.toList[i]?
  ins : ∀ i, b ≤ i → i < b + 96 * n → y.data.toList[i]? = some 255
theorem gone_zero {f : ByteArray} (hf : f.size = 768) (b : Nat) : Gone f f b 0 := ⟨hf, fun _ _ => rfl, fun i h1 h2 => by omega⟩
theorem gone_step {f y : ByteArray} {b n : Nat} (h : Gone f y b n) (hb : b % 96 = 0) (hn : b + 96 * n + 96 ≤ 768) : cutOk y true ((b : Int) + 96 * (n : Int)) ⟨#[]⟩ 96 = true ∧ Gone f (cutS y true ((b : Int) + 96 * (n : Int)) ⟨#[]⟩ 96) b (n + 1) := by
  have e : cutOk y true ((b : Int) + 96 * (n : Int)) ⟨#[]⟩ 96 = true := cutOk_parts.2 ⟨h.sy, may_er.2 ⟨by omega, by omega, by omega, rfl⟩, by omega, by omega⟩
  obtain ⟨g1, g2⟩ := cut_er e
  obtain ⟨s, hs⟩ : ∃ s : Nat, 96 * s = b + 96 * n := ⟨(b + 96 * n) / 96, by omega⟩
  rw [show ((b : Int) + 96 * (n : Int)) / 96 = (s : Int) from by omega] at g1 g2
  refine ⟨e, ?_⟩
  rw [g2]
  refine ⟨Nor.size_wornS g1, fun i hi => ?_, fun i h1 h2 => ?_⟩
  · rw [worn_all g1 i (by omega)]
    exact h.out i (by omega)
  · by_cases hl : i < b + 96 * n
    · rw [worn_all g1 i (by omega)]
      exact h.ins i h1 hl
    · rw [bt_at _ i (by rw [Nor.size_wornS g1]; omega), bt_worn g1 i (by omega), if_pos (by omega)]
theorem ext_out {f y : ByteArray} {p q : Nat} (h : ∀ i, p ≤ i → i < q → y.data.toList[i]? = f.data.toList[i]?) : y.extract p q = f.extract p q := by
  apply ba_ext
  apply List.ext_getElem?
  intro i
  rw [list_extract, list_extract, List.getElem?_take, List.getElem?_take]
  by_cases hi : i < q - p
  · rw [if_pos hi, if_pos hi, List.getElem?_drop, List.getElem?_drop]
    exact h _ (by omega) (by omega)
  · rw [if_neg hi, if_neg hi]
theorem gone_end {f y : ByteArray} {b : Nat} (hf : f.size = 768) (h : Gone f y b 3) : y.extract 0 b = f.extract 0 b ∧ y.extract b (b + 288) = Nor.blankS.extract 0 288 ∧ y.extract (b + 288) y.size = f.extract (b + 288) f.size := by
  refine ⟨ext_out fun i _ h2 => h.out i (by omega), ?_, ?_⟩
  · apply ba_ext
    apply List.ext_getElem?
    intro i
    rw [list_extract, list_extract, List.getElem?_take, List.getElem?_take]
    by_cases hi : i < 288
    · rw [if_pos (by omega), if_pos (by omega), List.getElem?_drop, List.getElem?_drop, h.ins _ (by omega) (by omega), Held.list_blankS, Nor.get_blankL _ (by omega)]
    · rw [if_neg (by omega), if_neg (by omega)]
  · rw [h.sy, hf]
    exact ext_out fun i h1 _ => h.out i (by omega)

/-- A byte of a slot turned: the records stand, and so do the next number and what may be. -/
theorem turn_scan {f : ByteArray} (hf : f.size = 768) (k : Nat) (c : UInt8) (h : 192 ≤ k) : scanL (turnS f k c) = scanL f :=
  scan_eq ((size_turnS f k c).trans hf) hf fun i hi => by
    rw [list_turnS]
    unfold turnL
    rw [List.getElem?_set_ne (by omega)]
theorem turn_top {f : ByteArray} (hf : f.size = 768) (k : Nat) (c : UInt8) (h : 192 ≤ k) : topI (turnS f k c) = topI f := by unfold topI; rw [turn_scan hf k c h]
theorem turn_rof {f : ByteArray} {t z : Int} (h : errS f t z = 0) (k : Nat) (c : UInt8) (hk : 192 ≤ k) : f.size = 768 ∧ rofQ f t z = topI f + 1 ∧ rofT f t z = t ∧ rofZ f t z = z ∧ rofM f t z = sumI f t z ∧ rofQ (turnS f k c) t z = topI f + 1 ∧ rofT (turnS f k c) t z = t ∧ rofZ (turnS f k c) t z = z ∧ rofM (turnS f k c) t z = sumI (turnS f k c) t z ∧ errS (turnS f k c) t z = 0 := by
  cases ho : rofOk f t z with
  | false => rw [(rof_no ho).2.2.2.2] at h; cases h
  | true =>
    by_cases ht : topI f < 1048576
    · obtain ⟨hf, p1, p2, p3, p4⟩ := rofOk_parts.1 ho
      have e := turn_top hf k c hk
      have ho2 : rofOk (turnS f k c) t z = true := rofOk_parts.2 ⟨(size_turnS f k c).trans hf, p1, p2, p3, p4⟩
      obtain ⟨v1, v2, v3, v4, _⟩ := rof_yes ho ht
      obtain ⟨u1, u2, u3, u4, u5⟩ := rof_yes ho2 (by rw [e]; exact ht)
      rw [e] at u1
      exact ⟨hf, v1, v2, v3, v4, u1, u2, u3, u4, u5⟩
    · rw [(rof_full ho ht).2.2.2.2] at h; cases h
end Go.Proofs.YtmlfkbkpkgaefaaGreatDoor.Sta
