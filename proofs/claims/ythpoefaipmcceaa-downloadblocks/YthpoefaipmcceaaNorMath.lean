/- Flashes as plain lists of bytes: a word programmed after so many of its bits, a sector erased after so many of its bytes; what each byte is behind them, and how two of them meet. No program is named here. -/
namespace Go.Proofs.Ythpoefaipmcceaa.Nor

/-- The bits from the k-th on. -/
def hi (k : Nat) : UInt8 := UInt8.ofNat (255 * 2 ^ k)
/-- A byte of which just the first k bits tell; the others are ones. -/
def keep (b : UInt8) (k : Nat) : UInt8 := b ||| hi k

theorem hi_8 (k : Nat) (h : 8 ≤ k) : hi k = 0 := by
  unfold hi
  obtain ⟨m, rfl⟩ : ∃ m, k = 8 + m := ⟨k - 8, by omega⟩
  apply UInt8.toNat_inj.1
  rw [UInt8.toNat_ofNat', Nat.pow_add]
  have e : 255 * (2 ^ 8 * 2 ^ m) = 256 * (255 * 2 ^ m) := by
    rw [← Nat.mul_assoc, ← Nat.mul_assoc]
  rw [e]
  show 256 * _ % 256 = 0
  exact Nat.mul_mod_right _ _
theorem hi_0 : hi 0 = 255 := by decide
theorem keep_8 (b : UInt8) (k : Nat) (h : 8 ≤ k) : keep b k = b := by unfold keep; rw [hi_8 k h]; simp
theorem keep_0 (b : UInt8) : keep b 0 = 255 := by
  unfold keep; rw [hi_0]
  have h : ∀ n : Fin 256, UInt8.ofNat n.val ||| 255 = 255 := by decide +kernel
  have := h ⟨b.toNat, b.toNat_lt⟩
  simpa using this
theorem keep_succ (b : UInt8) (k : Nat) (h : k < 8) : keep b (k + 1) = keep b k &&& ~~~(~~~b &&& (1 <<< UInt8.ofNat k)) := by
  have h0 : ∀ n : Fin 256, ∀ k : Fin 8, keep (UInt8.ofNat n.val) (k.val + 1) = keep (UInt8.ofNat n.val) k.val &&& ~~~(~~~(UInt8.ofNat n.val) &&& (1 <<< UInt8.ofNat k.val)) := by decide +kernel
  have := h0 ⟨b.toNat, b.toNat_lt⟩ ⟨k, h⟩
  simpa using this
theorem keep_keep (b : UInt8) (j k : Nat) : keep b j &&& keep b k = keep b (max j k) := by
  have h0 : ∀ n : Fin 256, ∀ j k : Fin 9, keep (UInt8.ofNat n.val) j.val &&& keep (UInt8.ofNat n.val) k.val = keep (UInt8.ofNat n.val) (max j.val k.val) := by decide +kernel
  have e : ∀ m, keep b m = keep b (min m 8) := by
    intro m
    by_cases hm : m ≤ 8
    · rw [Nat.min_eq_left hm]
    · rw [Nat.min_eq_right (by omega), keep_8 b m (by omega), keep_8 b 8 (by omega)]
  have := h0 ⟨b.toNat, b.toNat_lt⟩ ⟨min j 8, by omega⟩ ⟨min k 8, by omega⟩
  simp only [UInt8.ofNat_toNat] at this
  rw [e j, e k, this, e (max j k)]
  congr 1
  omega

/-- Behind so many bits of the word w at the place p. -/
def tornL (f w : List UInt8) (p k : Nat) : List UInt8 := f.mapIdx fun i c => if p ≤ i ∧ i < p + 4 then c &&& keep (w.getD (i - p) 0) (k - 8 * (i - p)) else c
/-- Behind so many bytes of the sector that begins at p. -/
def wornL (f : List UInt8) (p k : Nat) : List UInt8 := f.mapIdx fun i c => if p ≤ i ∧ i < p + k then 255 else c
def blankL : List UInt8 := List.replicate 768 255

theorem length_tornL (f w : List UInt8) (p k : Nat) : (tornL f w p k).length = f.length := by simp [tornL]
theorem length_wornL (f : List UInt8) (p k : Nat) : (wornL f p k).length = f.length := by simp [wornL]
theorem get_tornL (f w : List UInt8) (p k i : Nat) : (tornL f w p k)[i]? = f[i]?.map fun c => if p ≤ i ∧ i < p + 4 then c &&& keep (w.getD (i - p) 0) (k - 8 * (i - p)) else c := by simp [tornL]
theorem get_wornL (f : List UInt8) (p k i : Nat) : (wornL f p k)[i]? = f[i]?.map fun c => if p ≤ i ∧ i < p + k then 255 else c := by simp [wornL]

theorem tornL_0 (f w : List UInt8) (p : Nat) : tornL f w p 0 = f := by
  apply List.ext_getElem?
  intro i
  rw [get_tornL]
  cases f[i]? with
  | none => rfl
  | some c =>
    simp only [Option.map_some, Nat.zero_sub]
    split
    · rw [keep_0]
      have h : ∀ n : Fin 256, UInt8.ofNat n.val &&& 255 = UInt8.ofNat n.val := by decide +kernel
      have := h ⟨c.toNat, c.toNat_lt⟩
      simp only [UInt8.ofNat_toNat] at this
      rw [this]
    · rfl
theorem wornL_0 (f : List UInt8) (p : Nat) : wornL f p 0 = f := by
  apply List.ext_getElem?
  intro i
  rw [get_wornL]
  cases f[i]? with
  | none => rfl
  | some c => simp only [Option.map_some]; rw [if_neg (by omega)]
theorem wornL_succ (f : List UInt8) (p k : Nat) (h : p + k < f.length) : wornL f p (k + 1) = (wornL f p k).set (p + k) 255 := by
  apply List.ext_getElem?
  intro i
  by_cases e : p + k = i
  · subst e
    rw [List.getElem?_set_self (by rw [length_wornL]; exact h), get_wornL, List.getElem?_eq_getElem h]
    simp only [Option.map_some]
    rw [if_pos (by omega)]
  · rw [List.getElem?_set_ne e, get_wornL, get_wornL]
    cases f[i]? with
    | none => rfl
    | some c =>
      simp only [Option.map_some]
      by_cases hh : p ≤ i ∧ i < p + k
      · rw [if_pos (by omega), if_pos hh]
      · rw [if_neg (by omega), if_neg hh]
/-- What the k-th bit leaves of a byte. -/
def bitStep (c b : UInt8) (k : Nat) : UInt8 := c &&& ~~~(~~~b &&& (1 <<< UInt8.ofNat (k % 8)))
theorem and_assoc8 (a b c : UInt8) : a &&& b &&& c = a &&& (b &&& c) := UInt8.and_assoc a b c
theorem tornL_succ (f w : List UInt8) (p k : Nat) (hk : k < 32) (h : p + 4 ≤ f.length) : tornL f w p (k + 1) = (tornL f w p k).set (p + k / 8) (bitStep ((tornL f w p k).getD (p + k / 8) 0) (w.getD (k / 8) 0) k) := by
  apply List.ext_getElem?
  intro i
  have hl : p + k / 8 < f.length := by omega
  by_cases e : p + k / 8 = i
  · subst e
    have hg : (tornL f w p k).getD (p + k / 8) 0 = f[p + k / 8] &&& keep (w.getD (k / 8) 0) (k % 8) := by
      rw [List.getD_eq_getElem?_getD, get_tornL, List.getElem?_eq_getElem hl]
      simp only [Option.map_some, Option.getD_some]
      rw [if_pos (by omega), show p + k / 8 - p = k / 8 from by omega, show k - 8 * (k / 8) = k % 8 from by omega]
    rw [List.getElem?_set_self (by rw [length_tornL]; exact hl), get_tornL, List.getElem?_eq_getElem hl, hg]
    simp only [Option.map_some]
    rw [if_pos (by omega), show p + k / 8 - p = k / 8 from by omega, show k + 1 - 8 * (k / 8) = k % 8 + 1 from by omega, keep_succ _ _ (by omega)]
    unfold bitStep
    rw [and_assoc8]
  · rw [List.getElem?_set_ne e, get_tornL, get_tornL]
    cases f[i]? with
    | none => rfl
    | some c =>
      simp only [Option.map_some]
      by_cases hh : p ≤ i ∧ i < p + 4
      · rw [if_pos hh, if_pos hh]
        by_cases hj : i - p < k / 8
        · rw [keep_8 _ (k + 1 - 8 * (i - p)) (by omega), keep_8 _ (k - 8 * (i - p)) (by omega)]
        · rw [show k + 1 - 8 * (i - p) = 0 from by omega, show k - 8 * (i - p) = 0 from by omega]
      · rw [if_neg hh, if_neg hh]

/-- Torn again at the same word, it is as torn once, farther. -/
theorem tornL_tornL (f w : List UInt8) (p j k : Nat) : tornL (tornL f w p j) w p k = tornL f w p (max j k) := by
  apply List.ext_getElem?
  intro i
  rw [get_tornL, get_tornL, get_tornL]
  cases f[i]? with
  | none => rfl
  | some c =>
    simp only [Option.map_some]
    by_cases hh : p ≤ i ∧ i < p + 4
    · rw [if_pos hh, if_pos hh, if_pos hh, and_assoc8, keep_keep]
      congr 3
      omega
    · rw [if_neg hh, if_neg hh, if_neg hh]
/-- Two words may be programmed in either row. -/
theorem tornL_comm (f v w : List UInt8) (p q j k : Nat) : tornL (tornL f v p j) w q k = tornL (tornL f w q k) v p j := by
  apply List.ext_getElem?
  intro i
  rw [get_tornL, get_tornL, get_tornL, get_tornL]
  cases f[i]? with
  | none => rfl
  | some c =>
    simp only [Option.map_some]
    by_cases h1 : p ≤ i ∧ i < p + 4 <;> by_cases h2 : q ≤ i ∧ i < q + 4
    · rw [if_pos h1, if_pos h2, if_pos h1, if_pos h2, and_assoc8, and_assoc8, UInt8.and_comm (keep _ _)]
    · simp only [if_pos h1, if_neg h2]
    · simp only [if_neg h1, if_pos h2]
    · simp only [if_neg h1, if_neg h2]
/-- Worn again, it is as worn once, farther. -/
theorem wornL_wornL (f : List UInt8) (p j k : Nat) : wornL (wornL f p j) p k = wornL f p (max j k) := by
  apply List.ext_getElem?
  intro i
  rw [get_wornL, get_wornL, get_wornL]
  cases f[i]? with
  | none => rfl
  | some c =>
    simp only [Option.map_some]
    by_cases h1 : p ≤ i ∧ i < p + j <;> by_cases h2 : p ≤ i ∧ i < p + k
    · rw [if_pos h2, if_pos (by omega)]
    · rw [if_pos h1, if_neg h2, if_pos (by omega)]
    · rw [if_pos h2, if_pos (by omega)]
    · rw [if_neg h1, if_neg h2, if_neg (by omega)]

/-- The word's bytes alone turn: what stands ahead of it and behind it stays. -/
theorem tornL_cut (f w : List UInt8) (p k : Nat) (h : p + 4 ≤ f.length) : tornL f w p k = f.take p ++ tornL ((f.drop p).take 4) w 0 k ++ f.drop (p + 4) := by
  apply List.ext_getElem?
  intro i
  rw [get_tornL]
  by_cases h1 : i < p
  · rw [List.append_assoc, List.getElem?_append_left (by simp; omega), List.getElem?_take_of_lt h1]
    cases f[i]? with
    | none => rfl
    | some c => simp only [Option.map_some]; rw [if_neg (by omega)]
  · by_cases h2 : i < p + 4
    · rw [List.getElem?_append_left (by simp [length_tornL]; omega), List.getElem?_append_right (by simp; omega), get_tornL]
      rw [show i - (f.take p).length = i - p from by simp; omega, List.getElem?_take_of_lt (by omega), List.getElem?_drop, show p + (i - p) = i from by omega]
      cases f[i]? with
      | none => rfl
      | some c => simp only [Option.map_some]; rw [if_pos (by omega), if_pos (by omega), Nat.sub_zero]
    · rw [List.getElem?_append_right (by simp [length_tornL]; omega), List.getElem?_drop]
      rw [show p + 4 + (i - (f.take p ++ tornL ((f.drop p).take 4) w 0 k).length) = i from by simp [length_tornL]; omega]
      cases f[i]? with
      | none => rfl
      | some c => simp only [Option.map_some]; rw [if_neg (by omega)]
theorem wornL_cut (f : List UInt8) (p k : Nat) (h : p + k ≤ f.length) : wornL f p k = f.take p ++ List.replicate k 255 ++ f.drop (p + k) := by
  apply List.ext_getElem?
  intro i
  rw [get_wornL]
  by_cases h1 : i < p
  · rw [List.append_assoc, List.getElem?_append_left (by simp; omega), List.getElem?_take_of_lt h1]
    cases f[i]? with
    | none => rfl
    | some c => simp only [Option.map_some]; rw [if_neg (by omega)]
  · by_cases h2 : i < p + k
    · rw [List.getElem?_append_left (by simp; omega), List.getElem?_append_right (by simp; omega), List.getElem?_replicate]
      rw [List.getElem?_eq_getElem (by omega), if_pos (by simp; omega)]
      simp only [Option.map_some]
      rw [if_pos (by omega)]
    · rw [List.getElem?_append_right (by simp; omega), List.getElem?_drop]
      rw [show p + k + (i - (f.take p ++ List.replicate k (255 : UInt8)).length) = i from by simp; omega]
      cases f[i]? with
      | none => rfl
      | some c => simp only [Option.map_some]; rw [if_neg (by omega)]

theorem word_tornL (f w : List UInt8) (p k : Nat) (h : p + 4 ≤ f.length) : ((tornL f w p k).drop p).take 4 = tornL ((f.drop p).take 4) w 0 k := by
  have e1 : (f.take p).length = p := by simp; omega
  have e2 : (tornL ((f.drop p).take 4) w 0 k).length = 4 := by rw [length_tornL]; simp; omega
  rw [tornL_cut f w p k h, List.append_assoc, List.drop_append_of_le_length (by omega), List.drop_of_length_le (by omega), List.nil_append, List.take_append_of_le_length (by omega), List.take_of_length_le (by omega)]
theorem get_blankL (i : Nat) (h : i < 768) : blankL[i]? = some 255 := by unfold blankL; rw [List.getElem?_replicate, if_pos h]
theorem length_blankL : blankL.length = 768 := by unfold blankL; rw [List.length_replicate]
theorem word_blankL (p : Nat) (h : p + 4 ≤ 768) : (blankL.drop p).take 4 = [255, 255, 255, 255] := by
  unfold blankL
  rw [List.drop_replicate, List.take_replicate, show min 4 (768 - p) = 4 from by omega]
  rfl
/-- A word that is programmed in a blank flash is gone with its sector's erasing. -/
theorem wornL_tornL_blank (w : List UInt8) (p q k : Nat) (h1 : q ≤ p) (h2 : p + 4 ≤ q + 96) : wornL (tornL blankL w p k) q 96 = blankL := by
  apply List.ext_getElem?
  intro i
  rw [get_wornL, get_tornL]
  by_cases hi : i < 768
  · rw [get_blankL i hi]
    simp only [Option.map_some]
    by_cases hh : q ≤ i ∧ i < q + 96
    · rw [if_pos hh]
    · rw [if_neg hh, if_neg (by omega)]
  · rw [List.getElem?_eq_none (by rw [length_blankL]; omega)]
    rfl

/-- As the program sees them: any text, place, word and number. -/
def tornOk (f : ByteArray) (a : Int) (w : ByteArray) (k : Int) : Bool := decide (f.size = 768 ∧ 0 ≤ a ∧ a < 768 ∧ a % 4 = 0 ∧ w.size = 4 ∧ 0 ≤ k ∧ k ≤ 32)
def wornOk (f : ByteArray) (s : Int) (k : Int) : Bool := decide (f.size = 768 ∧ 0 ≤ s ∧ s < 8 ∧ 0 ≤ k ∧ k ≤ 96)
def errN (ok : Bool) : Int := if ok then 0 else 200
def tornS (f : ByteArray) (a : Int) (w : ByteArray) (k : Int) : ByteArray := if tornOk f a w k then ⟨(tornL f.data.toList w.data.toList a.toNat k.toNat).toArray⟩ else ⟨#[]⟩
def wornS (f : ByteArray) (s : Int) (k : Int) : ByteArray := if wornOk f s k then ⟨(wornL f.data.toList (96 * s.toNat) k.toNat).toArray⟩ else ⟨#[]⟩
def blankS : ByteArray := ⟨blankL.toArray⟩

theorem size_list (f : ByteArray) : f.data.toList.length = f.size := by rw [Array.length_toList]; rfl
theorem size_blankS : blankS.size = 768 := by
  show (List.replicate 768 (255 : UInt8)).toArray.size = 768
  rw [List.size_toArray, List.length_replicate]
theorem tornS_ok {f : ByteArray} {a : Int} {w : ByteArray} {k : Int} (h : tornOk f a w k = true) : tornS f a w k = ⟨(tornL f.data.toList w.data.toList a.toNat k.toNat).toArray⟩ := by unfold tornS; rw [if_pos h]
theorem tornS_no {f : ByteArray} {a : Int} {w : ByteArray} {k : Int} (h : tornOk f a w k = false) : tornS f a w k = ⟨#[]⟩ := by unfold tornS; rw [h]; rfl
theorem wornS_ok {f : ByteArray} {s : Int} {k : Int} (h : wornOk f s k = true) : wornS f s k = ⟨(wornL f.data.toList (96 * s.toNat) k.toNat).toArray⟩ := by unfold wornS; rw [if_pos h]
theorem wornS_no {f : ByteArray} {s : Int} {k : Int} (h : wornOk f s k = false) : wornS f s k = ⟨#[]⟩ := by unfold wornS; rw [h]; rfl
theorem errN_t {ok : Bool} (h : ok = true) : errN ok = 0 := by rw [h]; rfl
theorem errN_f {ok : Bool} (h : ok = false) : errN ok = 200 := by rw [h]; rfl
theorem size_tornS {f : ByteArray} {a : Int} {w : ByteArray} {k : Int} (h : tornOk f a w k = true) : (tornS f a w k).size = 768 := by
  rw [tornS_ok h]
  show (tornL _ _ _ _).toArray.size = 768
  rw [List.size_toArray, length_tornL, size_list]
  unfold tornOk at h
  exact (of_decide_eq_true h).1
theorem size_wornS {f : ByteArray} {s : Int} {k : Int} (h : wornOk f s k = true) : (wornS f s k).size = 768 := by
  rw [wornS_ok h]
  show (wornL _ _ _).toArray.size = 768
  rw [List.size_toArray, length_wornL, size_list]
  unfold wornOk at h
  exact (of_decide_eq_true h).1
theorem list_tornS {f : ByteArray} {a : Int} {w : ByteArray} {k : Int} (h : tornOk f a w k = true) : (tornS f a w k).data.toList = tornL f.data.toList w.data.toList a.toNat k.toNat := by rw [tornS_ok h]
theorem list_wornS {f : ByteArray} {s : Int} {k : Int} (h : wornOk f s k = true) : (wornS f s k).data.toList = wornL f.data.toList (96 * s.toNat) k.toNat := by rw [wornS_ok h]
theorem tornOk_size {f g : ByteArray} (h : f.size = g.size) (a : Int) (w : ByteArray) (k : Int) : tornOk f a w k = tornOk g a w k := by unfold tornOk; rw [h]
theorem wornOk_size {f g : ByteArray} (h : f.size = g.size) (s k : Int) : wornOk f s k = wornOk g s k := by unfold wornOk; rw [h]
theorem size_of_tornOk {f : ByteArray} {a : Int} {w : ByteArray} {k : Int} (h : tornOk f a w k = true) : f.size = 768 := by unfold tornOk at h; exact (of_decide_eq_true h).1
theorem size_of_wornOk {f : ByteArray} {s k : Int} (h : wornOk f s k = true) : f.size = 768 := by unfold wornOk at h; exact (of_decide_eq_true h).1
/-- Whether a call is let does not turn with how many bits are asked, both being in bounds. -/
theorem tornOk_bits (f : ByteArray) (a : Int) (w : ByteArray) (j k : Nat) (hj : j ≤ 32) (hk : k ≤ 32) : tornOk f a w (j : Int) = tornOk f a w (k : Int) := by
  unfold tornOk
  rw [decide_eq_decide]
  omega
theorem wornOk_many (f : ByteArray) (s j k : Nat) (hs : s < 8) (hj : j ≤ 96) (hk : k ≤ 96) : wornOk f (s : Int) (j : Int) = wornOk f (s : Int) (k : Int) := by
  unfold wornOk
  rw [decide_eq_decide]
  omega
theorem ba_eq {a b : ByteArray} (h : a.data.toList = b.data.toList) : a = b := by
  cases a with
  | mk x => cases b with
    | mk y => exact congrArg ByteArray.mk (Array.toList_inj.1 h)
/-- Torn and torn again at one word. -/
theorem torn_torn (f : ByteArray) (a : Int) (w : ByteArray) (j k : Nat) (h : tornOk f a w (j : Int) = true) (hk : k ≤ 32) :
    tornOk (tornS f a w j) a w k = true ∧ tornS (tornS f a w j) a w k = tornS f a w (max j k : Nat) := by
  have hj : j ≤ 32 := by unfold tornOk at h; have := (of_decide_eq_true h); omega
  have e : tornOk (tornS f a w j) a w k = true := by
    rw [tornOk_size ((size_tornS h).trans (size_of_tornOk h).symm), tornOk_bits f a w k j hk hj]
    exact h
  refine ⟨e, ba_eq ?_⟩
  rw [list_tornS e, list_tornS h, list_tornS (by rw [tornOk_bits f a w (max j k) j (by omega) hj]; exact h), tornL_tornL]
  rfl
theorem twice (f : ByteArray) (a b : Int) (v w : ByteArray) (h : tornOk f a v 32 = true) (g : tornOk f b w 32 = true) :
    tornOk (tornS f a v 32) b w 32 = true ∧ tornOk (tornS f b w 32) a v 32 = true ∧ tornS (tornS f a v 32) b w 32 = tornS (tornS f b w 32) a v 32 := by
  have e1 : tornOk (tornS f a v 32) b w 32 = true := by rw [tornOk_size ((size_tornS h).trans (size_of_tornOk h).symm)]; exact g
  have e2 : tornOk (tornS f b w 32) a v 32 = true := by rw [tornOk_size ((size_tornS g).trans (size_of_tornOk g).symm)]; exact h
  refine ⟨e1, e2, ba_eq ?_⟩
  rw [list_tornS e1, list_tornS e2, list_tornS h, list_tornS g, tornL_comm]
theorem worn_worn (f : ByteArray) (s j k : Nat) (h : wornOk f (s : Int) (j : Int) = true) (hk : k ≤ 96) :
    wornOk (wornS f s j) s k = true ∧ wornOk f s (max j k : Nat) = true ∧ wornS (wornS f s j) s k = wornS f s (max j k : Nat) := by
  have hj : s < 8 ∧ j ≤ 96 := by unfold wornOk at h; have := (of_decide_eq_true h); omega
  have e : wornOk (wornS f s j) s k = true := by
    rw [wornOk_size ((size_wornS h).trans (size_of_wornOk h).symm), wornOk_many f s k j hj.1 hk hj.2]
    exact h
  have e2 : wornOk f s (max j k : Nat) = true := by rw [wornOk_many f s (max j k) j hj.1 (by omega) hj.2]; exact h
  refine ⟨e, e2, ba_eq ?_⟩
  rw [list_wornS e, list_wornS h, list_wornS e2, wornL_wornL]
  rfl
theorem ba_get (x : ByteArray) (i : Nat) (h : i < x.size) : x.data.toList[i]? = some x[i] := by
  rw [List.getElem?_eq_getElem (by rw [size_list]; exact h), Array.getElem_toList]
  rfl
theorem worn_get {f : ByteArray} {s k : Nat} (h : wornOk f (s : Int) (k : Int) = true) (i : Nat) (hi : i < f.size) (hi' : i < (wornS f s k).size) : (wornS f s k)[i] = if 96 * s ≤ i ∧ i < 96 * s + k then 255 else f[i] := by
  have e := get_wornL f.data.toList (96 * s) k i
  have e2 : (wornS f s k).data.toList = wornL f.data.toList (96 * s) k := list_wornS h
  rw [← e2, ba_get _ i hi', ba_get _ i hi] at e
  exact Option.some.inj e
theorem torn_get {f : ByteArray} {a k : Nat} {w : ByteArray} (h : tornOk f (a : Int) w (k : Int) = true) (i : Nat) (hi : i < f.size) (hi' : i < (tornS f a w k).size) : (tornS f a w k)[i] = if a ≤ i ∧ i < a + 4 then f[i] &&& keep (w.data.toList.getD (i - a) 0) (k - 8 * (i - a)) else f[i] := by
  have e := get_tornL f.data.toList w.data.toList a k i
  have e2 : (tornS f a w k).data.toList = tornL f.data.toList w.data.toList a k := list_tornS h
  rw [← e2, ba_get _ i hi', ba_get _ i hi] at e
  exact Option.some.inj e
theorem clears3 (x K W : UInt8) (h : K &&& W = W) : (x &&& K) &&& (x &&& W) = x &&& W := by
  rw [← UInt8.and_assoc, UInt8.and_assoc x K x, UInt8.and_comm K x, ← UInt8.and_assoc, UInt8.and_self, UInt8.and_assoc, h]
/-- What programming leaves of a byte of the word, whole and torn. -/
theorem clears {f : ByteArray} {a k : Nat} {w : ByteArray} (hA : tornOk f (a : Int) w 32 = true) (hB : tornOk f (a : Int) w (k : Int) = true) (j : Nat) (hj : j < 4) (h0 : a + j < f.size) (h1 : a + j < (tornS f a w 32).size) (h2 : a + j < (tornS f a w k).size) :
    f[a + j] &&& (tornS f a w 32)[a + j] = (tornS f a w 32)[a + j] ∧ f[a + j] &&& (tornS f a w k)[a + j] = (tornS f a w k)[a + j] ∧ (tornS f a w k)[a + j] &&& (tornS f a w 32)[a + j] = (tornS f a w 32)[a + j] := by
  have hk : k ≤ 32 := by unfold tornOk at hB; have := of_decide_eq_true hB; omega
  have eA := torn_get (k := 32) hA (a + j) h0 h1
  have eB := torn_get hB (a + j) h0 h2
  have eA' : (tornS f a w 32)[a + j] = f[a + j] &&& keep (w.data.toList.getD j 0) (32 - 8 * j) := by
    rw [if_pos (by omega), show a + j - a = j from by omega] at eA
    exact eA
  rw [if_pos (by omega), show a + j - a = j from by omega] at eB
  rw [eA', eB]
  refine ⟨by rw [← UInt8.and_assoc, UInt8.and_self], by rw [← UInt8.and_assoc, UInt8.and_self], clears3 _ _ _ ?_⟩
  rw [keep_keep, show max (k - 8 * j) (32 - 8 * j) = 32 - 8 * j from by omega]
theorem outside_head {f : ByteArray} {a k : Nat} {w : ByteArray} (h : tornOk f (a : Int) w (k : Int) = true) : (tornS f a w k).data.toList.take a = f.data.toList.take a := by
  rw [list_tornS h]
  have hb : f.size = 768 ∧ a + 4 ≤ 768 := by unfold tornOk at h; have := of_decide_eq_true h; omega
  show List.take a (tornL _ _ a k) = _
  rw [tornL_cut _ _ _ _ (by rw [size_list]; omega), List.append_assoc, List.take_append_of_le_length (by simp; rw [← size_list] at hb; simp at hb; omega), List.take_of_length_le (by simp; omega)]
theorem outside_tail {f : ByteArray} {a k : Nat} {w : ByteArray} (h : tornOk f (a : Int) w (k : Int) = true) : (tornS f a w k).data.toList.drop (a + 4) = f.data.toList.drop (a + 4) := by
  rw [list_tornS h]
  have hb : f.size = 768 ∧ a + 4 ≤ 768 := by unfold tornOk at h; have := of_decide_eq_true h; omega
  have hl := size_list f
  show List.drop (a + 4) (tornL _ _ a k) = _
  have e2 : (f.data.toList.take a ++ tornL ((f.data.toList.drop a).take 4) w.data.toList 0 k).length = a + 4 := by
    rw [List.length_append, length_tornL, List.length_take, List.length_take, List.length_drop]; omega
  rw [tornL_cut _ _ _ _ (by omega), List.drop_append_of_le_length (by omega), List.drop_of_length_le (by omega), List.nil_append]
end Go.Proofs.Ythpoefaipmcceaa.Nor
