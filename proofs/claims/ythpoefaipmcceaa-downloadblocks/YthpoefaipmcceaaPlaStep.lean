/- The steps that lay a record down, one by one, cut anywhere: which record is active behind them, and that a tame flash stays tame. No program is named here. -/
import Derived.Test.YthpoefaipmcceaaPlaMath
namespace Go.Proofs.Ythpoefaipmcceaa.Pla
open Go.Proofs.Ythpoefaipmcceaa Go.Proofs.Ythpoefaipmcceaa.Bytes Go.Proofs.Ythpoefaipmcceaa.Ent Go.Proofs.Ythpoefaipmcceaa.Ops Go.Proofs.Ythpoefaipmcceaa.Jou Go.Proofs.Ythpoefaipmcceaa.Act Go.Proofs.Ythpoefaipmcceaa.Held Go.Proofs.Ythpoefaipmcceaa.Cho

/-- How the steps go: those ahead of the words, the flash that they leave, and the place, which is blank on it. -/
structure Way (f : ByteArray) (q t z m : Int) (E : List FOp) (g : ByteArray) (j : Nat) : Prop where
  hj : j < 8
  ap : appA f = ((24 * j : Nat) : Int)
  ll : appL f q t z m = E ++ wordsTo ((24 * j : Nat) : Int) (putS q t z m) 6
  dg : doL f E = g
  sf : f.size = 768
  sg : g.size = 768
  rm : recMay q t z m = true
  bl : slotS g j = full24
  out : ∀ i : Nat, 192 ≤ i → g.data.toList[i]? = f.data.toList[i]?
  old : ∀ p i, actO f = some p → getOk (slotS f i) = true → p = recAt f i → slotS g i = slotS f i ∧ ¬ i = j
  er : (E = [] ∧ g = f ∧ freeIs f (homeI f) = true) ∨ ∃ H : Nat, H ≤ 1 ∧ E = [⟨true, ((96 * H : Nat) : Int), ⟨#[]⟩⟩] ∧ ¬ homeI f = (H : Int) ∧ Nor.wornOk f (H : Int) 96 = true ∧ g = Nor.wornS f (H : Int) 96 ∧ freeIs f (homeI f) = false
theorem way {f : ByteArray} {q t z m : Int} (h : appOk f q t z m = true) : ∃ E g j, Way f q t z m E g j := by
  obtain ⟨hf, hr⟩ := imgOk_parts.1 h
  have hL := app_ok h
  obtain ⟨j, hj, hA, hE⟩ := app_place f
  rw [hA] at hL
  rcases hE with ⟨hE, hb, hi⟩ | ⟨H, hH, rfl, hE, hne, hi⟩
  · rw [hE] at hL
    refine ⟨[], f, j, hj, hA, hL, rfl, hf, hf, hr, hb, fun _ _ => rfl, fun p i _ hg _ => ⟨rfl, fun e => ?_⟩, .inl ⟨rfl, rfl, hi⟩⟩
    subst e
    rw [hb, get_full24] at hg
    cases hg
  · rw [hE] at hL
    obtain ⟨h1, h2, h3⟩ := erase_step hf H hH 96 (by omega) (by omega)
    refine ⟨_, Nor.wornS f (H : Int) 96, 4 * H, hj, hA, hL, h3, hf, Nor.size_wornS h2, hr, erased_in h2 (by omega), fun i hi => worn_all h2 i (by omega), fun p i ha _ e => ?_, .inr ⟨H, hH, rfl, hne, h2, rfl, hi⟩⟩
    have hp : p.pa = 24 * (i : Int) := by rw [e]; rfl
    have hh : homeI f = p.pa / 96 := by unfold homeI; rw [(act_may ha).2.1]
    have hn : ¬ i / 4 = H := by omega
    exact ⟨worn_other h2 i (by omega), by omega⟩
theorem take_words (a : Int) (t : ByteArray) (n k : Nat) (h : k ≤ n) : (wordsTo a t n).take k = wordsTo a t k := by
  unfold wordsTo
  rw [← List.map_take, List.take_range, Nat.min_eq_left h]
theorem way_len {f : ByteArray} {q t z m : Int} {E : List FOp} {g : ByteArray} {j : Nat} (w : Way f q t z m E g j) : (appL f q t z m).length = E.length + 6 := by rw [w.ll, List.length_append, length_wordsTo]
theorem way_size {f : ByteArray} {q t z m : Int} {E : List FOp} {g : ByteArray} {j : Nat} (w : Way f q t z m E g j) : (putS q t z m).size = 24 := size_putS w.rm
theorem way_wok {f : ByteArray} {q t z m : Int} {E : List FOp} {g : ByteArray} {j : Nat} (w : Way f q t z m E g j) : wordsOk ((24 * j : Nat) : Int) (putS q t z m) = true := by
  have := w.hj
  have := way_size w
  exact wordsOk_parts.2 ⟨by omega, by omega, by omega, by omega⟩
theorem way_take {f : ByteArray} {q t z m : Int} {E : List FOp} {g : ByteArray} {j : Nat} (w : Way f q t z m E g j) (n : Nat) (hn : n ≤ 6) : doL f ((appL f q t z m).take (E.length + n)) = overS g (putS q t z m) (24 * j) n := by
  have hz := way_size w
  rw [w.ll, List.take_length_add_append, take_words _ _ _ _ hn, doL_append, w.dg]
  exact doL_words w.sg (way_wok w) n (by unfold wordsN; omega)
theorem way_get {f : ByteArray} {q t z m : Int} {E : List FOp} {g : ByteArray} {j : Nat} (w : Way f q t z m E g j) (n : Nat) (hn : E.length + n < (appL f q t z m).length) : (appL f q t z m)[E.length + n] = ⟨false, ((24 * j : Nat) : Int) + 4 * (n : Int), wordS (putS q t z m) n⟩ := by
  simp only [w.ll]
  rw [List.getElem_append_right (by omega), get_wordsTo]
  simp only [show E.length + n - E.length = n from by omega]
/-- One step, whole or cut: an erasing of the sector that is not home, or a word of the record. -/
theorem way_step {f : ByteArray} {q t z m : Int} {E : List FOp} {g : ByteArray} {j : Nat} (w : Way f q t z m E g j) (k : Nat) (hk : k < (appL f q t z m).length) (c : Int) (h0 : 0 ≤ c) (h1 : c ≤ 96) :
    cutOk (doL f ((appL f q t z m).take k)) (appL f q t z m)[k].er (appL f q t z m)[k].pl (appL f q t z m)[k].tx c = true ∧
    ((k = 0 ∧ ∃ H : Nat, H ≤ 1 ∧ (appL f q t z m)[k].er = true ∧ (appL f q t z m)[k].pl = ((96 * H : Nat) : Int) ∧ ¬ homeI f = (H : Int) ∧ E.length = 1 ∧ Nor.wornOk f (H : Int) c = true ∧ cutS (doL f ((appL f q t z m).take k)) (appL f q t z m)[k].er (appL f q t z m)[k].pl (appL f q t z m)[k].tx c = Nor.wornS f (H : Int) c) ∨
     (∃ n, n < 6 ∧ k = E.length + n ∧ (appL f q t z m)[k].er = false ∧ (appL f q t z m)[k].pl = ((24 * j : Nat) : Int) + 4 * (n : Int) ∧ Part g (cutS (doL f ((appL f q t z m).take k)) (appL f q t z m)[k].er (appL f q t z m)[k].pl (appL f q t z m)[k].tx c) j (putS q t z m))) := by
  have hl := way_len w
  by_cases hE : k < E.length
  · rcases w.er with ⟨e, _⟩ | ⟨H, hH, e, hne, _, _, _⟩
    · rw [e] at hE; cases hE
    · have hk0 : k = 0 := by rw [e] at hE; simp at hE; exact hE
      subst hk0
      have eg : (appL f q t z m)[0] = ⟨true, ((96 * H : Nat) : Int), ⟨#[]⟩⟩ := by simp only [w.ll, e]; rfl
      rw [eg]
      obtain ⟨g1, g2, g3⟩ := erase_step w.sf H hH c h0 h1
      exact ⟨g1, .inl ⟨rfl, H, hH, rfl, rfl, hne, by rw [e]; rfl, g2, g3⟩⟩
  · obtain ⟨n, rfl⟩ : ∃ n, k = E.length + n := ⟨k - E.length, by omega⟩
    have hn : n < 6 := by omega
    rw [way_get w n hk, way_take w n (by omega)]
    obtain ⟨g1, g2⟩ := part_cut w.sg (way_size w) w.hj w.bl n hn c h0 h1
    exact ⟨g1, .inr ⟨n, hn, rfl, rfl, rfl, g2⟩⟩
theorem near_part {f y : ByteArray} {q t z m : Int} {E : List FOp} {g : ByteArray} {j : Nat} (w : Way f q t z m E g j) (ht : tameB f = true) (h : Part g y j (putS q t z m)) : Near f y j (putS q t z m) ∧ tameB y = true ∧ (∀ p i, actO f = some p → getOk (slotS f i) = true → p = recAt f i → slotS y i = slotS f i) := by
  have hs := (get_put w.rm).1
  have hgt : tameB g = true := by
    rcases w.er with ⟨_, e, _⟩ | ⟨H, _, _, _, h2, e, _⟩
    · rw [e]; exact ht
    · rw [e]; exact worn_tame ht h2
  refine ⟨⟨w.sf, h.sy, fun i hi => ?_, fun i hi => ?_⟩, part_tame hgt hs h, fun p i ha hg e => ?_⟩
  · have := w.hj
    rw [h.out i (by omega)]
    exact w.out i hi
  · by_cases e : i = j
    · subst e
      rcases part_new hs h with e2 | e2
      · exact .inr (.inr ⟨rfl, e2⟩)
      · exact .inr (.inl e2)
    · rw [part_other h i e]
      rcases w.er with ⟨_, e2, _⟩ | ⟨H, _, _, _, h2, e2, _⟩
      · rw [e2]; exact .inl rfl
      · rw [e2]
        rcases worn_slot ht h2 i hi with h3 | h3
        · exact .inl h3
        · exact .inr (.inl h3)
  · obtain ⟨h1, h2⟩ := w.old p i ha hg e
    rw [part_other h i h2]
    exact h1
/-- Behind any of the steps, the last one cut: the flash is tame, and the active record is what it was, or the new one. -/
theorem way_cut {f : ByteArray} {q t z m : Int} {E : List FOp} {g : ByteArray} {j : Nat} (w : Way f q t z m E g j) (ht : tameB f = true) (hq : topI f < q) (hg : goodB f q t z m = true) {p : FPl} (ha : actO f = some p) (k : Nat) (hk : k < (appL f q t z m).length) (c : Int) (h0 : 0 ≤ c) (h1 : c ≤ 96) (y : ByteArray) (hy : y = cutS (doL f ((appL f q t z m).take k)) (appL f q t z m)[k].er (appL f q t z m)[k].pl (appL f q t z m)[k].tx c) :
    tameB y = true ∧ (actO y = some p ∨ actO y = some ⟨((24 * j : Nat) : Int), q, t, z, m⟩) := by
  have hc : ((24 * j : Nat) : Int) = 24 * (j : Int) := by omega
  rw [hc]
  rcases (way_step w k hk c h0 h1).2 with ⟨_, H, hH, _, _, hne, _, hw, e⟩ | ⟨n, hn, _, _, _, hp⟩
  · rw [← hy] at e
    subst e
    refine ⟨worn_tame ht hw, near_some w.hj w.rm ⟨w.sf, Nor.size_wornS hw, fun i hi => worn_all hw i (by omega), fun i hi => ?_⟩ hq hg ha fun i hi hgi e => ?_⟩
    · rcases worn_slot ht hw i hi with h3 | h3
      · exact .inl h3
      · exact .inr (.inl h3)
    · have hpa : p.pa = 24 * (i : Int) := by rw [e]; rfl
      have hh : homeI f = p.pa / 96 := by unfold homeI; rw [(act_may ha).2.1]
      exact worn_other hw i (by omega)
  · rw [← hy] at hp
    obtain ⟨n1, n2, n3⟩ := near_part w ht hp
    exact ⟨n2, near_some w.hj w.rm n1 hq hg ha fun i _ hgi e => n3 p i ha hgi e⟩
/-- Behind all of them. -/
theorem way_end {f : ByteArray} {q t z m : Int} {E : List FOp} {g : ByteArray} {j : Nat} (w : Way f q t z m E g j) : Part g (doL f (appL f q t z m)) j (putS q t z m) ∧ slotS (doL f (appL f q t z m)) j = putS q t z m ∧ doL f (appL f q t z m) = overS g (putS q t z m) (24 * j) 6 := by
  have hz := way_size w
  have hl := way_len w
  have e : doL f (appL f q t z m) = overS g (putS q t z m) (24 * j) 6 := by
    have := way_take w 6 (Nat.le_refl _)
    rw [← hl, List.take_length] at this
    exact this
  have hp := (part_cut w.sg hz w.hj w.bl 5 (by omega) 96 (by omega) (by omega)).2
  have es := (over_step w.sg (way_wok w) 5 (by unfold wordsN; omega)).2
  rw [es] at hp
  have hm := over_mid g (putS q t z m) (24 * j) 6 (by omega) fun i hi => full_bt w.bl i (by omega)
  rw [hz] at hm
  rw [e]
  exact ⟨hp, hm, rfl⟩
theorem way_done {f : ByteArray} {q t z m : Int} {E : List FOp} {g : ByteArray} {j : Nat} (w : Way f q t z m E g j) (ht : tameB f = true) (hq : topI f < q) (hg : goodB f q t z m = true) : tameB (doL f (appL f q t z m)) = true ∧ actO (doL f (appL f q t z m)) = some ⟨((24 * j : Nat) : Int), q, t, z, m⟩ ∧ topI (doL f (appL f q t z m)) = q := by
  obtain ⟨h1, h2, _⟩ := way_end w
  obtain ⟨n1, n2, _⟩ := near_part w ht h1
  have hc : ((24 * j : Nat) : Int) = 24 * (j : Int) := by omega
  rw [hc]
  exact ⟨n2, near_new w.hj w.rm n1 hq hg h2⟩
/-- The record of a staged image is good, and its number above all. -/
theorem rof_good {f : ByteArray} {t z : Int} (h : errS f t z = 0) : recMay (rofQ f t z) (rofT f t z) (rofZ f t z) (rofM f t z) = true ∧ appOk f (rofQ f t z) (rofT f t z) (rofZ f t z) (rofM f t z) = true ∧ topI f < rofQ f t z ∧ goodB f (rofQ f t z) (rofT f t z) (rofZ f t z) (rofM f t z) = true ∧ rofQ f t z = topI f + 1 := by
  cases hk : rofOk f t z with
  | false => rw [(rof_no hk).2.2.2.2] at h; cases h
  | true =>
    by_cases ht : topI f < 1048576
    · obtain ⟨v1, v2, v3, v4, _⟩ := rof_yes hk ht
      obtain ⟨k1, k2, k3, k4, k5⟩ := rofOk_parts.1 hk
      have hb := topI_bound f
      have hs := sumI_lt f t z
      rw [v1, v2, v3, v4]
      have hm : recMay (topI f + 1) t z (sumI f t z) = true := recMay_parts.2 ⟨by omega, by omega, k2, k3, k4, k5, hs.1, hs.2⟩
      have ho : imgOk f (topI f + 1) t z (sumI f t z) = true := imgOk_parts.2 ⟨k1, hm⟩
      refine ⟨hm, ho, by omega, ?_, rfl⟩
      unfold goodB
      rw [ho, decide_eq_true rfl]
      rfl
    · rw [(rof_full hk ht).2.2.2.2] at h; cases h
theorem blank_tame : tameB Nor.blankS = true := by
  refine tame_parts.2 ⟨Nor.size_blankS, fun i hi k hk => ?_⟩
  rw [bt_of (blank_get (24 * i + k) (by omega)), bt_of (blank_get (24 * i + k + 12) (by omega))]
  rfl
theorem blank_top : topI Nor.blankS = 0 := by unfold topI; rw [blank_scan]; rfl
end Go.Proofs.Ythpoefaipmcceaa.Pla
