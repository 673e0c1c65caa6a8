/- What ticks do, one behind the other: a cut lies between what was and what would be; as many ticks as steps; a slot written, cut, written again. No program is named here. -/
import Derived.Test.YtmbgdidelbkdgaaTicMath
import Derived.Test.YtmbgdidelbkdgaaBagRow
import Derived.Test.YtmbgdidelbkdgaaBagCho
namespace Go.Proofs.Ytmbgdidelbkdgaa.TicDoes
open Go.Proofs.Ytmbgdidelbkdgaa Go.Proofs.Ytmbgdidelbkdgaa.Bytes Go.Proofs.Ytmbgdidelbkdgaa.Nor Go.Proofs.Ytmbgdidelbkdgaa.Ops Go.Proofs.Ytmbgdidelbkdgaa.Jou Go.Proofs.Ytmbgdidelbkdgaa.Act Go.Proofs.Ytmbgdidelbkdgaa.Held Go.Proofs.Ytmbgdidelbkdgaa.Cho Go.Proofs.Ytmbgdidelbkdgaa.Sta Go.Proofs.Ytmbgdidelbkdgaa.Dev Go.Proofs.Ytmbgdidelbkdgaa.Dnl Go.Proofs.Ytmbgdidelbkdgaa.DnlMore Go.Proofs.Ytmbgdidelbkdgaa.DnlDoes Go.Proofs.Ytmbgdidelbkdgaa.Tic

/-- The byte z is between x and y: no bit that neither has; each that both have. -/
def Btw (x y z : UInt8) : Prop := z &&& (x ||| y) = z ∧ (x &&& y) &&& z = x &&& y
theorem fin8 {p : UInt8 → Prop} (h : ∀ n : Fin 256, p (UInt8.ofNat n.val)) (x : UInt8) : p x := by
  have := h ⟨x.toNat, x.toNat_lt⟩
  simpa only [UInt8.ofNat_toNat] using this
theorem btw_same (x : UInt8) : Btw x x x := by
  unfold Btw
  exact ⟨fin8 (p := fun x => x &&& (x ||| x) = x) (by decide +kernel) x, fin8 (p := fun x => (x &&& x) &&& x = x &&& x) (by decide +kernel) x⟩
theorem btw_all (x : UInt8) : Btw x 255 255 := by
  unfold Btw
  exact ⟨fin8 (p := fun x => 255 &&& (x ||| 255) = 255) (by decide +kernel) x, fin8 (p := fun x => (x &&& 255) &&& 255 = x &&& 255) (by decide +kernel) x⟩
theorem btw_none (x : UInt8) : Btw x 255 x := by
  unfold Btw
  exact ⟨fin8 (p := fun x => x &&& (x ||| 255) = x) (by decide +kernel) x, fin8 (p := fun x => (x &&& 255) &&& x = x &&& 255) (by decide +kernel) x⟩
theorem btw_keep (x w k : UInt8) (h : k &&& w = w) : Btw x (x &&& w) (x &&& k) := by
  unfold Btw
  have h' := congrArg UInt8.toBitVec h
  refine ⟨UInt8.toBitVec_inj.1 ?_, UInt8.toBitVec_inj.1 ?_⟩
  all_goals
    simp only [UInt8.toBitVec_and, UInt8.toBitVec_or] at h' ⊢
    ext i hi
    have k1 := congrArg (fun x => x.getLsbD i) h'
    simp [hi] at k1 ⊢
    cases hx : x.toBitVec[i] <;> cases hw : w.toBitVec[i] <;> cases hk : k.toBitVec[i] <;> simp_all
theorem btw_step (f t : List UInt8) (e : Bool) (p k i : Nat) (x y z : UInt8) (hx : f[i]? = some x) (hy : (stepL f t e p 96)[i]? = some y) (hz : (stepL f t e p k)[i]? = some z) (hk : k ≤ 96) : Btw x y z := by
  cases e with
  | true =>
    have hy' : (wornL f p 96)[i]? = some y := hy
    have hz' : (wornL f p k)[i]? = some z := hz
    rw [get_wornL, hx] at hy' hz'
    have e1 := Option.some.inj hy'
    have e2 := Option.some.inj hz'
    dsimp only at e1 e2
    by_cases h1 : p ≤ i ∧ i < p + 96
    · rw [if_pos h1] at e1
      subst e1
      by_cases h2 : p ≤ i ∧ i < p + k
      · rw [if_pos h2] at e2; subst e2; exact btw_all x
      · rw [if_neg h2] at e2; subst e2; exact btw_none x
    · rw [if_neg h1] at e1
      rw [if_neg (by omega)] at e2
      subst e1 e2
      exact btw_same x
  | false =>
    have hy' : (tornL f t p 32)[i]? = some y := hy
    have hz' : (tornL f t p (min k 32))[i]? = some z := hz
    rw [get_tornL, hx] at hy' hz'
    have e1 := Option.some.inj hy'
    have e2 := Option.some.inj hz'
    dsimp only at e1 e2
    by_cases h1 : p ≤ i ∧ i < p + 4
    · rw [if_pos h1] at e1 e2
      rw [keep_8 _ _ (by omega)] at e1
      subst e1 e2
      exact btw_keep _ _ _ (Pla.keep_more _ _)
    · rw [if_neg h1] at e1 e2
      subst e1 e2
      exact btw_same x
/-- A cut of a tick: each byte is between what was and what would be. -/
theorem btw_tick {f : ByteArray} {d : FDev} {k : Int} (h : cutB f d k = true) : (cutF f d k).size = 768 ∧ (tickF f d).size = 768 ∧ ∀ (i : Nat) (h0 : i < f.size) (h1 : i < (tickF f d).size) (h2 : i < (cutF f d k).size), Btw f[i] (tickF f d)[i] (cutF f d k)[i] := by
  obtain ⟨h1, h2, h3, h4⟩ := cut_parts.1 h
  have hb : bothB f d = true := both_parts.2 ⟨h1, h2⟩
  have hf := may_size h1
  have e1 : tickF f d = stepF f d 96 := by unfold tickF; rw [if_pos hb]
  have e2 : cutF f d k = stepF f d k := by unfold cutF; rw [if_pos h]
  rw [e1, e2]
  clear e1 e2
  cases hd : dueB d with
  | false =>
    have e1 := fun k => idle_step (f := f) (k := k) hd
    simp only [e1]
    exact ⟨hf, hf, fun i h0 _ _ => btw_same _⟩
  | true =>
    obtain ⟨hw, o, l, hl⟩ := due_yes hd
    have e1 := fun k => due_step (f := f) (k := k) hw hl
    simp only [e1]
    have hm : opMay o.er o.pl o.tx = true := by
      unfold devB stepsB mayAll at h2
      simp only [Bool.and_eq_true, hl, List.all_cons] at h2
      exact h2.2.2.1
    have o1 : cutOk f o.er o.pl o.tx 96 = true := cutOk_parts.2 ⟨hf, hm, by omega, by omega⟩
    have o2 : cutOk f o.er o.pl o.tx k = true := cutOk_parts.2 ⟨hf, hm, h3, h4⟩
    refine ⟨size_cutS o2, size_cutS o1, fun i h0 h1 h2 => ?_⟩
    have g1 := ba_get _ i h1
    have g2 := ba_get _ i h2
    rw [list_cutS o1] at g1
    rw [list_cutS o2] at g2
    exact btw_step _ _ _ _ _ i _ _ _ (ba_get _ i h0) g1 g2 (by omega)
/-- What a walk asks of three such bytes. -/
theorem btw_bits {x y z : UInt8} (h : Btw x y z) : ∃ p q : UInt8, bits .or .u8 (x.toNat : Int) (y.toNat : Int) = (p.toNat : Int) ∧ bits .andNot .u8 (z.toNat : Int) (p.toNat : Int) = 0 ∧ bits .and .u8 (x.toNat : Int) (y.toNat : Int) = (q.toNat : Int) ∧ bits .or .u8 (z.toNat : Int) (q.toNat : Int) = (z.toNat : Int) := by
  obtain ⟨h1, h2⟩ := h
  refine ⟨x ||| y, x &&& y, ?_, ?_, and_u8 _ _ _ rfl, ?_⟩
  · rw [u8_or_nat _ _ x.toNat_lt y.toNat_lt, ← UInt8.toNat_or]
  · generalize x ||| y = p at *
    have hn : (~~~p).toNat = 255 - p.toNat := fin8 (p := fun p => (~~~p).toNat = 255 - p.toNat) (by decide +kernel) p
    rw [u8_andNot_nat _ _ z.toNat_lt p.toNat_lt, ← hn, ← UInt8.toNat_and]
    have e : z &&& ~~~p = 0 := by
      have h' := congrArg UInt8.toBitVec h1
      apply UInt8.toBitVec_inj.1
      simp only [UInt8.toBitVec_and, UInt8.toBitVec_not] at h' ⊢
      ext i hi
      have k1 := congrArg (fun x => x.getLsbD i) h'
      simp [hi] at k1 ⊢
      cases hz : z.toBitVec[i] <;> cases hp : p.toBitVec[i] <;> simp_all
    rw [e]
    rfl
  · generalize x &&& y = q at *
    rw [u8_or_nat _ _ z.toNat_lt q.toNat_lt, ← UInt8.toNat_or]
    have e : z ||| q = z := by
      have h' := congrArg UInt8.toBitVec h2
      apply UInt8.toBitVec_inj.1
      simp only [UInt8.toBitVec_and, UInt8.toBitVec_or] at h' ⊢
      ext i hi
      have k1 := congrArg (fun x => x.getLsbD i) h'
      simp [hi] at k1 ⊢
      cases hz : z.toBitVec[i] <;> cases hq : q.toBitVec[i] <;> simp_all
    rw [e]
theorem may_drop {l : List FOp} (h : mayAll l = true) (n : Nat) : mayAll (l.drop n) = true := by
  unfold mayAll at h ⊢
  rw [List.all_eq_true] at h ⊢
  exact fun x hx => h x (List.mem_of_mem_drop hx)
/-- One of as many ticks as there are steps. -/
theorem at_step {s g : Int} {os : List FOp} {f : ByteArray} (hs : s = 2 ∨ s = 5) (h0 : 0 ≤ g) (h1 : g ≤ 288) (hm : mayAll os = true) (hl : os.length ≤ 768) (hf : f.size = 768) {j : Nat} (hj : j < os.length) :
    bothB f ⟨s, 0, 0, g, 0, os.drop j⟩ = true ∧ tickF f ⟨s, 0, 0, g, 0, os.drop j⟩ = cutS f os[j].er os[j].pl os[j].tx 96 ∧ (j + 1 < os.length → tickD f ⟨s, 0, 0, g, 0, os.drop j⟩ = ⟨s, 0, 0, g, 0, os.drop (j + 1)⟩) ∧ (¬ j + 1 < os.length → tickD f ⟨s, 0, 0, g, 0, os.drop j⟩ = setD ⟨s, 0, 0, g, 0, []⟩) ∧
    ∀ k, 0 ≤ k → k ≤ 96 → cutB f ⟨s, 0, 0, g, 0, os.drop j⟩ k = true ∧ cutF f ⟨s, 0, 0, g, 0, os.drop j⟩ k = cutS f os[j].er os[j].pl os[j].tx k := by
  have hdrop : os.drop j = os[j] :: os.drop (j + 1) := List.drop_eq_getElem_cons hj
  have hw : workB s = true := work_iff.2 hs
  have hdev : devB ⟨s, 0, 0, g, 0, os.drop j⟩ = true := by
    have b1 : Ans.saB s = true := by rcases hs with rfl | rfl <;> rfl
    have b2 : upB g 288 = true := upB_iff.2 ⟨h0, h1⟩
    have b3 : stepsB (os.drop j) = true := by rw [stepsB_short (by rw [List.length_drop]; omega)]; exact may_drop hm j
    unfold devB
    simp only [b1, b2, b3]
    rfl
  have hb : bothB f ⟨s, 0, 0, g, 0, os.drop j⟩ = true := both_parts.2 ⟨mayF_t hf, hdev⟩
  have hst := fun k => due_step (f := f) (d := ⟨s, 0, 0, g, 0, os.drop j⟩) (k := k) hw hdrop
  have hgo := due_gone (d := ⟨s, 0, 0, g, 0, os.drop j⟩) hw hdrop
  refine ⟨hb, ?_, fun h => ?_, fun h => ?_, fun k k0 k1 => ?_⟩
  · unfold tickF; rw [if_pos hb, hst]
  · unfold tickD; rw [if_pos hb, hgo, set_keeps (.inr (by show 0 < (os.drop (j + 1)).length; rw [List.length_drop]; omega))]
  · unfold tickD; rw [if_pos hb, hgo]
    have e : os.drop (j + 1) = [] := List.drop_eq_nil_iff.2 (by omega)
    dsimp only
    rw [e]
  · have hc : cutB f ⟨s, 0, 0, g, 0, os.drop j⟩ k = true := cut_parts.2 ⟨mayF_t hf, hdev, k0, k1⟩
    exact ⟨hc, by unfold cutF; rw [if_pos hc, hst]⟩
theorem set5 (g : Int) : setD ⟨5, 0, 0, g, 0, []⟩ = newD := set_mani rfl rfl
theorem set2 (g : Int) : setD ⟨2, 0, 0, g, 0, []⟩ = ⟨1, 0, 0, g, 0, []⟩ := set_busy rfl rfl

/-- Steps that may be, and turn nothing but what is from p to q. -/
def In (l : List FOp) (p q : Nat) : Prop := ∀ o ∈ l, opMay o.er o.pl o.tx = true ∧ (p : Int) ≤ o.pl ∧ o.pl + (if o.er then 96 else 4) ≤ (q : Int)
theorem in_may {l : List FOp} {p q : Nat} (h : In l p q) : mayAll l = true := by
  unfold mayAll
  rw [List.all_eq_true]
  exact fun o ho => (h o ho).1
theorem in_cut {f : ByteArray} (hf : f.size = 768) {o : FOp} {p q : Nat} (h : opMay o.er o.pl o.tx = true ∧ (p : Int) ≤ o.pl ∧ o.pl + (if o.er then 96 else 4) ≤ (q : Int)) {k : Int} (h0 : 0 ≤ k) (h1 : k ≤ 96) : (cutS f o.er o.pl o.tx k).size = 768 ∧ ∀ i, (i < p ∨ q ≤ i) → (cutS f o.er o.pl o.tx k).data.toList[i]? = f.data.toList[i]? := by
  have ok : cutOk f o.er o.pl o.tx k = true := cutOk_parts.2 ⟨hf, h.1, h0, h1⟩
  refine ⟨size_cutS ok, fun i hi => ?_⟩
  rw [list_cutS ok]
  obtain ⟨g, e, _⟩ := get_stepL f.data.toList o.tx.data.toList o.er o.pl.toNat k.toNat i
  rw [e]
  have h2 := h.2.1
  have h3 := h.2.2
  cases hc : f.data.toList[i]? with
  | none => rfl
  | some c =>
    show some (if _ then _ else _) = some c
    rw [if_neg]
    cases he : o.er with
    | true => rw [he] at h3; simp at h3 ⊢; omega
    | false => rw [he] at h3; simp at h3 ⊢; omega
theorem in_do : ∀ (l : List FOp) (f : ByteArray) {p q : Nat}, f.size = 768 → In l p q → (doL f l).size = 768 ∧ ∀ i, (i < p ∨ q ≤ i) → (doL f l).data.toList[i]? = f.data.toList[i]?
  | [], _, _, _, hf, _ => ⟨hf, fun _ _ => rfl⟩
  | o :: l, f, p, q, hf, h => by
    obtain ⟨c1, c2⟩ := in_cut hf (h o (by simp)) (k := 96) (by omega) (by omega)
    obtain ⟨d1, d2⟩ := in_do l (cutS f o.er o.pl o.tx 96) c1 (fun x hx => h x (by simp [hx]))
    exact ⟨d1, fun i hi => (d2 i hi).trans (c2 i hi)⟩
theorem in_take {l : List FOp} {p q : Nat} (h : In l p q) (n : Nat) : In (l.take n) p q := fun o ho => h o (List.mem_of_mem_take ho)
/-- The steps that erase the first slot and write a text into it. -/
theorem row_in {t : ByteArray} (ht : t.size ≤ 288) : In (erTo ((192 : Nat) : Int) 3 ++ wordsTo ((192 : Nat) : Int) t (wordsN t)) 192 480 := by
  have hw : wordsOk ((192 : Nat) : Int) t = true := wordsOk_parts.2 ⟨by omega, by omega, by omega, by omega⟩
  intro o ho
  rcases List.mem_append.1 ho with ho | ho
  · obtain ⟨i, hi, e⟩ := List.getElem_of_mem ho
    have hi' : i < 3 := by rw [length_erTo] at hi; exact hi
    have g := get_erTo ((192 : Nat) : Int) 3 i hi'
    rw [List.getElem?_eq_getElem hi, e] at g
    obtain rfl := Option.some.inj g
    refine ⟨by show opMay true (((192 : Nat) : Int) + 96 * (i : Int)) ⟨#[]⟩ = true; exact may_er.2 ⟨by omega, by omega, by omega, rfl⟩, ?_, ?_⟩
    · show ((192 : Nat) : Int) ≤ ((192 : Nat) : Int) + 96 * (i : Int); omega
    · show ((192 : Nat) : Int) + 96 * (i : Int) + (if true = true then 96 else 4) ≤ _; simp; omega
  · obtain ⟨i, hi, rfl⟩ := List.mem_map.1 ho
    have hi' := List.mem_range.1 hi
    have hN : wordsN t ≤ 72 := by unfold wordsN; omega
    refine ⟨wordsMay hw i hi', ?_, ?_⟩
    · show ((192 : Nat) : Int) ≤ ((192 : Nat) : Int) + 4 * (i : Int); omega
    · show ((192 : Nat) : Int) + 4 * (i : Int) + (if false = true then 96 else 4) ≤ _; simp; omega
theorem row_as {t : ByteArray} (ht : t.size ≤ 288) : erL 0 ++ wordsL 192 t = erTo ((192 : Nat) : Int) 3 ++ wordsTo ((192 : Nat) : Int) t (wordsN t) := by
  obtain ⟨hb, he⟩ := base_of (t := 0) (by omega) (by omega)
  rw [erL_ok hb, wordsL_ok (wordsOk_parts.2 ⟨by omega, by omega, by omega, by omega⟩), he]
  rfl
theorem row_len {t : ByteArray} (ht : t.size ≤ 288) : (erL 0 ++ wordsL 192 t).length = 3 + wordsN t ∧ 3 + wordsN t ≤ 75 := by
  rw [row_as ht, List.length_append, length_erTo, length_wordsTo]
  exact ⟨rfl, by unfold wordsN; omega⟩
/-- The row done so far, the next one cut, then all of it anew: as never cut. -/
theorem row_done {t : ByteArray} (ht : t.size ≤ 288) {L : List FOp} (hL : L = erL 0 ++ wordsL 192 t) {k : Nat} (hk : k < L.length) {c : Int} (h0 : 0 ≤ c) (h1 : c ≤ 96) {F : ByteArray} (hF : F = doL (cutS (doL blankS (L.take k)) L[k].er L[k].pl L[k].tx c) L) :
    F.size = 768 ∧ F.extract 192 (192 + t.size) = t ∧ F.extract 0 192 = blankS.extract 0 192 ∧ F.extract (192 + t.size) 768 = blankS.extract (192 + t.size) 768 := by
  rw [row_as ht] at hL
  have hin : In L 192 480 := by rw [hL]; exact row_in ht
  obtain ⟨a1, a2⟩ := in_do (L.take k) blankS size_blankS (in_take hin k)
  obtain ⟨b1, b2⟩ := in_cut a1 (hin L[k] (List.getElem_mem hk)) h0 h1
  generalize cutS (doL blankS (L.take k)) L[k].er L[k].pl L[k].tx c = G at *
  obtain ⟨c0, c1, c2, c3⟩ := done b1 192 (by omega) (by omega) (by omega) (wordsOk_parts.2 ⟨by omega, by omega, by omega, by omega⟩ : wordsOk ((192 : Nat) : Int) t = true)
  rw [← hL, ← hF] at c0 c1 c2 c3
  have hout : ∀ i, i < 768 → (i < 192 ∨ 480 ≤ i) → F.data.toList[i]? = some 255 := fun i hi h => by rw [c2 i h, b2 i h, a2 i h]; exact blank_get i hi
  refine ⟨c0, c1, ext_out fun i h1 h2 => ?_, ext_out fun i h1 h2 => ?_⟩
  · rw [hout i (by omega) (.inl h2), blank_get i (by omega)]
  · rw [blank_get i h2]
    by_cases h : i < 480
    · exact c3 i h1 h
    · exact hout i h2 (.inr (by omega))
end Go.Proofs.Ytmbgdidelbkdgaa.TicDoes
