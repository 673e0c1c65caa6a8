/- Steps done on a flash in their row: none fails where each may be; what a slot's erasing and a text's words leave. No program is named here. -/
import Derived.Test.YthpoefaipmcceaaDnlMore
namespace Go.Proofs.Ythpoefaipmcceaa.DnlDoes
open Go.Proofs.Ythpoefaipmcceaa Go.Proofs.Ythpoefaipmcceaa.Bytes Go.Proofs.Ythpoefaipmcceaa.Nor Go.Proofs.Ythpoefaipmcceaa.Ops Go.Proofs.Ythpoefaipmcceaa.Jou Go.Proofs.Ythpoefaipmcceaa.Act Go.Proofs.Ythpoefaipmcceaa.Held Go.Proofs.Ythpoefaipmcceaa.Cho Go.Proofs.Ythpoefaipmcceaa.Sta Go.Proofs.Ythpoefaipmcceaa.Dev Go.Proofs.Ythpoefaipmcceaa.Dnl Go.Proofs.Ythpoefaipmcceaa.DnlMore

theorem step_ok {f : ByteArray} {o : FOp} (hf : f.size = 768) (h : opMay o.er o.pl o.tx = true) : cutOk f o.er o.pl o.tx 96 = true := cutOk_parts.2 ⟨hf, h, by omega, by omega⟩
theorem do_size : ∀ (l : List FOp) (f : ByteArray), f.size = 768 → mayAll l = true → (doL f l).size = 768
  | [], _, hf, _ => hf
  | o :: l, f, hf, h => by
    unfold mayAll at h
    rw [List.all_cons, Bool.and_eq_true] at h
    exact do_size l _ (size_cutS (step_ok hf h.1)) h.2
theorem may_take {l : List FOp} (h : mayAll l = true) (n : Nat) : mayAll (l.take n) = true := by
  unfold mayAll at h ⊢
  rw [List.all_eq_true] at h ⊢
  exact fun x hx => h x (List.mem_of_mem_take hx)
theorem do_ok {f : ByteArray} {l : List FOp} (hf : f.size = 768) (h : mayAll l = true) {n : Nat} (hn : n < l.length) : cutOk (doL f (l.take n)) l[n].er l[n].pl l[n].tx 96 = true := step_ok (do_size _ f hf (may_take h n)) (mayAll_get h hn)
theorem may_append {l m : List FOp} (h : mayAll l = true) (g : mayAll m = true) : mayAll (l ++ m) = true := by
  unfold mayAll at *
  rw [List.all_append, h, g]
  rfl
theorem may_words {a : Int} {t : ByteArray} : mayAll (wordsL a t) = true := by
  cases h : wordsOk a t with
  | false => rw [wordsL_no h]; rfl
  | true =>
    rw [wordsL_ok h]
    unfold mayAll wordsTo
    rw [List.all_eq_true]
    intro o ho
    obtain ⟨i, hi, rfl⟩ := List.mem_map.1 ho
    exact wordsMay h i (List.mem_range.1 hi)
theorem may_erases (s : Int) : mayAll (erL s) = true := by
  cases h : baseOk s with
  | false => rw [erL_no h]; rfl
  | true =>
    unfold baseOk at h
    have h0 := of_decide_eq_true h
    rw [erL_ok h, (base_of h0.1 h0.2).2]
    unfold mayAll
    rw [List.all_eq_true]
    intro o ho
    obtain ⟨i, hi, e⟩ := List.getElem_of_mem ho
    have hi' : i < 3 := by rw [length_erTo] at hi; exact hi
    have g := get_erTo (192 + 288 * s) 3 i hi'
    rw [List.getElem?_eq_getElem hi, e] at g
    obtain rfl := Option.some.inj g
    show opMay true (192 + 288 * s + 96 * (i : Int)) ⟨#[]⟩ = true
    exact may_er.2 ⟨by omega, by omega, by omega, rfl⟩
theorem gone_do {f : ByteArray} (hf : f.size = 768) (p : Nat) (hp : p % 96 = 0) : ∀ n, p + 96 * n ≤ 768 → Gone f (doL f (erTo (p : Int) n)) p n
  | 0, _ => gone_zero hf p
  | n + 1, h => by
    have g := gone_do hf p hp n (by omega)
    rw [erTo_succ, doL_append]
    exact (gone_step g hp (by omega)).2
/-- A slot that was erased, a text's words behind: the text stands there, blank is what is behind it in the slot, all else stayed. -/
theorem done {f t : ByteArray} (hf : f.size = 768) (p : Nat) (hp : p % 96 = 0) (hp2 : p + 288 ≤ 768) (ht : t.size ≤ 288) (hw : wordsOk (p : Int) t = true) : (doL f (erTo (p : Int) 3 ++ wordsTo (p : Int) t (wordsN t))).size = 768 ∧ (doL f (erTo (p : Int) 3 ++ wordsTo (p : Int) t (wordsN t))).extract p (p + t.size) = t ∧ (∀ i, (i < p ∨ p + 288 ≤ i) → (doL f (erTo (p : Int) 3 ++ wordsTo (p : Int) t (wordsN t))).data.toList[i]? = f.data.toList[i]?) ∧ (∀ i, p + t.size ≤ i → i < p + 288 → (doL f (erTo (p : Int) 3 ++ wordsTo (p : Int) t (wordsN t))).data.toList[i]? = some 255) := by
  have g := gone_do hf p hp 3 (by omega)
  rw [doL_append]
  generalize doL f (erTo (p : Int) 3) = y at *
  rw [doL_words g.sy hw _ (Nat.le_refl _)]
  have hN : wordsN t = (t.size + 3) / 4 := rfl
  refine ⟨by rw [size_overS]; exact g.sy, over_mid y t p _ (by rw [hN]; omega) (fun i hi => g.ins _ (by omega) (by omega)), fun i hi => ?_, fun i h1 h2 => ?_⟩
  · rw [over_out y t p _ i (by rw [hN]; omega)]
    exact g.out i (by omega)
  · by_cases h3 : i < p + 4 * wordsN t
    · rw [over_in y t p _ i (by omega) h3 (g.ins i (by omega) (by omega))]
      rw [List.getD_eq_getElem?_getD, List.getElem?_eq_none (by rw [Nor.size_list]; omega)]
      rfl
    · rw [over_out y t p _ i (.inr (by omega))]
      exact g.ins i (by omega) (by omega)
/-- Where each step of the start lies, and which erase. -/
theorem start_get {p : Nat} {t : ByteArray} (ht : t.size ≤ 32) {n : Nat} (h : n < (erTo (p : Int) 3 ++ wordsTo (p : Int) t (wordsN t)).length) : ((erTo (p : Int) 3 ++ wordsTo (p : Int) t (wordsN t))[n]).er = decide (n < 3) ∧ (p : Int) ≤ ((erTo (p : Int) 3 ++ wordsTo (p : Int) t (wordsN t))[n]).pl ∧ ((erTo (p : Int) 3 ++ wordsTo (p : Int) t (wordsN t))[n]).pl < (p : Int) + 288 := by
  have hl : n < 3 + wordsN t := by rw [List.length_append, length_erTo, length_wordsTo] at h; exact h
  have hN : wordsN t ≤ 8 := by unfold wordsN; omega
  have e := List.getElem?_eq_getElem h
  by_cases h3 : n < 3
  · rw [List.getElem?_append_left (by rw [length_erTo]; exact h3), get_erTo _ _ _ h3] at e
    rw [← Option.some.inj e]
    refine ⟨(decide_eq_true h3).symm, ?_, ?_⟩
    · show (p : Int) ≤ (p : Int) + 96 * (n : Int); omega
    · show (p : Int) + 96 * (n : Int) < (p : Int) + 288; omega
  · rw [List.getElem?_append_right (by rw [length_erTo]; omega), length_erTo] at e
    rw [List.getElem?_eq_getElem (by rw [length_wordsTo]; omega), get_wordsTo] at e
    rw [← Option.some.inj e]
    refine ⟨(decide_eq_false h3).symm, ?_, ?_⟩
    · show (p : Int) ≤ (p : Int) + 4 * ((n - 3 : Nat) : Int); omega
    · show (p : Int) + 4 * ((n - 3 : Nat) : Int) < (p : Int) + 288; omega
theorem start_as {s : Int} {t : ByteArray} (h0 : 0 ≤ s) (h1 : s ≤ 1) (ht : t.size ≤ 32) : erL s ++ wordsL (baseI s) t = erTo ((192 + 288 * s.toNat : Nat) : Int) 3 ++ wordsTo ((192 + 288 * s.toNat : Nat) : Int) t (wordsN t) ∧ baseI s = ((192 + 288 * s.toNat : Nat) : Int) := by
  obtain ⟨hb, he⟩ := base_of h0 h1
  have hc : baseI s = ((192 + 288 * s.toNat : Nat) : Int) := by rw [he]; omega
  exact ⟨by rw [erL_ok hb, wordsL_ok (start_ok h0 h1 ht), hc], hc⟩
end Go.Proofs.Ythpoefaipmcceaa.DnlDoes
