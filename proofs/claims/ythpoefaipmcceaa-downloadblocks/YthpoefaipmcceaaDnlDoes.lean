/- Steps done on a flash in their row: none fails where each may be; what a slot's erasing and a text's words leave. No program is named here. -/
import Derived.Test.YthpoefaipmcceaaDnlMore
namespace Go.Proofs.Ythpoefaipmcceaa.DnlDoes
open Go.Proofs.Ythpoefaipmcceaa Go.Proofs.Ythpoefaipmcceaa.Bytes Go.Proofs.Ythpoefaipmcceaa.Nor Go.Proofs.Ythpoefaipmcceaa.Ops Go.Proofs.Ythpoefaipmcceaa.Jou Go.Proofs.Ythpoefaipmcceaa.Act Go.Proofs.Ythpoefaipmcceaa.Held Go.Proofs.Ythpoefaipmcceaa.Cho Go.Proofs.Ythpoefaipmcceaa.Sta Go.Proofs.Ythpoefaipmcceaa.Dev Go.Proofs.Ythpoefaipmcceaa.Dnl Go.Proofs.Ythpoefaipmcceaa.DnlMore

theorem step_ok {f : ByteArray} {o : FOp} (hf : f.size = 768) (h : opMay o.er o.pl o.tx = true) : cutOk f o.er o.pl o.tx 96 = true := cutOk_parts.2 ⟨hf, h, by omega, by omega⟩
theorem do_size : ∀ (l : List FOp) (f : ByteArray), f.size = 768 → mayAll l = true → (doL f l).size = 768
  | [], _, hf, _ => hf
  | o :: l, f, hf, h => by
    unfold mayAll at h
    rw [List.all_cons, Bool.and_eq_true] at h
    exact do_size l _ (size_cutS (step_ok hf h.1)) h.2
theorem may_take {l : List FOp} (h : mayAll l = true) (n : Nat) : mayAll (l.take n) = true := by
  unfold mayAll at h ⊢
  rw [List.all_eq_true] at h ⊢
  exact fun x hx => h x (List.mem_of_mem_take hx)
theorem do_ok {f : ByteArray} {l : List FOp} (hf : f.size = 768) (h : mayAll l = true) {n : Nat} (hn : n < l.length) : cutOk (doL f (l.take n)) l[n].er l[n].pl l[n].tx 96 = true := step_ok (do_size _ f hf (may_take h n)) (mayAll_get h hn)
theorem may_append {l m : List FOp} (h : mayAll l = true) (g : mayAll m = true) : mayAll (l ++ m) = true := by
  unfold mayAll at *
  rw [List.all_append, h, g]
  rfl
theorem may_words {a : Int} {t : ByteArray} : mayAll (wordsL a t) = true := by
  cases h : wordsOk a t with
  | false => rw [wordsL_no h]; rfl
  | true =>
    rw [wordsL_ok h]
    unfold mayAll wordsTo
    rw [List.all_eq_true]
    intro o ho
    obtain ⟨i, hi, rfl⟩ := List.mem_map.1 ho
    exact wordsMay h i (List.mem_range.1 hi)
theorem may_erases (s : Int) : mayAll (erL s) = true := by
  cases h : baseOk s with
  | false => rw [erL_no h]; rfl
  | true =>
    unfold baseOk at h
    have h0 := of_decide_eq_true h
    rw [erL_ok h, (base_of h0.1 h0.2).2]
    unfold mayAll
    rw [List.all_eq_true]
    intro o ho
    obtain ⟨i, hi, e⟩ := List.getElem_of_mem ho
    have hi' : i < 3 := by rw [length_erTo] at hi; exact hi
    have g := get_erTo (192 + 288 * s) 3 i hi'
    rw [List.getElem?_eq_getElem hi, e] at g
    obtain rfl := Option.some.inj g
    show opMay true (192 + 288 * s + 96 * (i : Int)) ⟨#[]⟩ = true
    exact may_er.2 ⟨by omega, by omega, by omega, rfl⟩
theorem gone_do {f : ByteArray} (hf : f.size = 768) (p : Nat) (hp : p % 96 = 0) : ∀ n, p + 96 * n ≤ 768 → Gone f (doL f (erTo (p : Int) n)) p n
  | 0, _ => gone_zero hf p
  | n + 1, h => by
    have g := gone_do hf p hp n (by omega)
    rw [erTo_succ, doL_append]
    exact (gone_step g hp (by omega)).2
/-- A slot that was erased, a text's words behind: the text stands there, blank is what is behind it in the slot, all else stayed. -/
theorem done {f t : ByteArray} (hf : f.size = 768) (p : Nat) (hp : p % 96 = 0) (hp2 : p + 288 ≤ 768) (ht : t.size ≤ 288) (hw : wordsOk (p : Int) t = true) : (doL f (erTo (p : Int) 3 ++ wordsTo (p : Int) t (wordsN t))).size = 768 ∧ (doL f (erTo (p : Int) 3 ++ wordsTo (p : Int) t (wordsN t))).extract p (p + t.size) = t ∧ (∀ i, (i < p ∨ p + 288 ≤ i) → (doL f (erTo (p : Int) 3 ++ wordsTo (p : Int) t (wordsN t))).data.toList[i]? = f.data.toList[i]?) ∧ (∀ i, p + t.size ≤ i → i < p + 288 → (doL f (erTo (p : Int) 3 ++ wordsTo (p : Int) t (wordsN t))).data.toList[i]? = some 255) := by
  have g := gone_do hf p hp 3 (by omega)
  rw [doL_append]
  generalize doL f (erTo (p : Int) 3) = y at *
  rw [doL_words g.sy hw _ (Nat.le_refl _)]
  have hN : wordsN t = (t.size + 3) / 4 := rfl
  refine ⟨by rw [size_overS]; exact g.sy, over_mid y t p _ (by rw [hN]; omega) (fun i hi => g.ins _ (by omega) (by omega)), fun i hi => ?_, fun i h1 h2 => ?_⟩
  · rw [over_out y t p _ i (by rw [hN]; omega)]
    exact g.out i (by omega)
  · by_cases h3 : i < p + 4 * wordsN t
    · rw [over_in y t p _ i (by omega) h3 (g.ins i (by omega) (by omega))]
      rw [List.getD_eq_getElem?_getD, List.getElem?_eq_none (by rw [Nor.size_list]; omega)]
      rfl
    · rw [over_out y t p _ i (.inr (by omega))]
      exact g.ins i (by omega) (by omega)
/-- Where each step of the start lies, and which erase. -/
theorem start_get {p : Nat} {t : ByteArray} (ht : t.size ≤ 32) {n : Nat} (h : n < (erTo (p : Int) 3 ++ wordsTo (p : Int) t (wordsN t)).length) : ((erTo (p : Int) 3 ++ wordsTo (p : Int) t (wordsN t))[n]).er = decide (n < 3) ∧ (p : Int) ≤ ((erTo (p : Int) 3 ++ wordsTo (p : Int) t (wordsN t))[n]).pl ∧ ((erTo (p : Int) 3 ++ wordsTo (p : Int) t (wordsN t))[n]).pl < (p : Int) + 288 := by
  have hl : n < 3 + wordsN t := by rw [List.length_append, length_erTo, length_wordsTo] at h; exact h
  have hN : wordsN t ≤ 8 := by unfold wordsN; omega
  have e := List.getElem?_eq_getElem h
  by_cases h3 : n < 3
  · rw [List.getElem?_append_left (by rw [length_erTo]; exact h3), get_erTo _ _ _ h3] at e
    rw [← Option.some.inj e]
    refine ⟨(decide_eq_true h3).symm, ?_, ?_⟩
    · show (p : Int) ≤ (p : Int) + 96 * (n : Int); omega
    · show (p : Int) + 96 * (n : Int) < (p : Int) + 288; omega
  · rw [List.getElem?_append_right (by rw [length_erTo]; omega), length_erTo] at e
    rw [List.getElem?_eq_getElem (by rw [length_wordsTo]; omega), get_wordsTo] at e
    rw [← Option.some.inj e]
    refine ⟨(decide_eq_false h3).symm, ?_, ?_⟩
    · show (p : Int) ≤ (p : Int) + 4 * ((n - 3 : Nat) : Int); omega
    · show (p : Int) + 4 * ((n - 3 : Nat) : Int) < (p : Int) + 288; omega
theorem start_as {s : Int} {t : ByteArray} (h0 : 0 ≤ s) (h1 : s ≤ 1) (ht : t.size ≤ 32) : erL s ++ wordsL (baseI s) t = erTo ((192 + 288 * s.toNat : Nat) : Int) 3 ++ wordsTo ((192 + 288 * s.toNat : Nat) : Int) t (wordsN t) ∧ baseI s = ((192 + 288 * s.toNat : Nat) : Int) := by
  obtain ⟨hb, he⟩ := base_of h0 h1
  have hc : baseI s = ((192 + 288 * s.toNat : Nat) : Int) := by rw [he]; omega
  exact ⟨by rw [erL_ok hb, wordsL_ok (start_ok h0 h1 ht), hc], hc⟩
/-- A flash of whose journal every byte is blank. -/
def Bare (f : ByteArray) : Prop := f.size = 768 ∧ ∀ i, i < 192 → f.data.toList[i]? = some 255
theorem bare_blank : Bare blankS := ⟨size_blankS, fun i hi => blank_get i (by omega)⟩
theorem bare_step {f : ByteArray} {o : FOp} (h : Bare f) (hm : opMay o.er o.pl o.tx = true) (hp : 192 ≤ o.pl) : cutOk f o.er o.pl o.tx 96 = true ∧ Bare (cutS f o.er o.pl o.tx 96) := by
  have ok := step_ok h.1 hm
  refine ⟨ok, size_cutS ok, fun i hi => ?_⟩
  rw [list_cutS ok]
  obtain ⟨g, e, _⟩ := get_stepL f.data.toList o.tx.data.toList o.er o.pl.toNat (96 : Int).toNat i
  rw [e, h.2 i hi]
  show some (if _ then _ else (255 : UInt8)) = some 255
  rw [if_neg (by omega)]
/-- Steps that may be, and none in the journal. -/
def Far (l : List FOp) : Prop := ∀ n (h : n < l.length), opMay l[n].er l[n].pl l[n].tx = true ∧ 192 ≤ l[n].pl
theorem far_start {t : ByteArray} (ht : t.size ≤ 32) : Far (erL 0 ++ wordsL (baseI 0) t) := by
  intro n h
  refine ⟨mayAll_get (may_append (may_erases _) may_words) h, ?_⟩
  obtain ⟨e, _⟩ := start_as (s := 0) (t := t) (by omega) (by omega) ht
  have g : n < (erTo ((192 : Nat) : Int) 3 ++ wordsTo ((192 : Nat) : Int) t (wordsN t)).length := by rw [e] at h; exact h
  have g2 := (start_get (p := 192) (t := t) ht g).2.1
  have e2 : (erL 0 ++ wordsL (baseI 0) t)[n] = (erTo ((192 : Nat) : Int) 3 ++ wordsTo ((192 : Nat) : Int) t (wordsN t))[n] := by congr 1
  rw [e2]
  exact g2
theorem far_words {a : Int} {t : ByteArray} (h : 192 ≤ a) : Far (wordsL a t) := by
  intro n hn
  refine ⟨mayAll_get may_words hn, ?_⟩
  cases hw : wordsOk a t with
  | false => rw [wordsL_no hw] at hn; simp at hn
  | true =>
    have e : (wordsL a t)[n] = (wordsTo a t (wordsN t))[n]'(by rw [wordsL_ok hw] at hn; exact hn) := by congr 1; exact wordsL_ok hw
    rw [e, get_wordsTo]
    show 192 ≤ a + 4 * (n : Int)
    omega
theorem mix_take {F t : ByteArray} (hF : Bare F) {c : Int} {i : Nat} (ht : t.size = 32) (hi : i < 9) (hc : (i = 0 ∧ c = 0) ∨ (1 ≤ i ∧ c = 3)) : ∃ (L : List FOp) (n : Nat), L.length = n ∧ 1 ≤ n ∧ n ≤ 11 ∧ Far L ∧ okB F ⟨c, 0, (i : Int), 32 * (i : Int), 0, []⟩ (i : Int) t = true ∧ takeD F ⟨c, 0, (i : Int), 32 * (i : Int), 0, []⟩ (i : Int) t = ⟨1, 0, (i : Int) + 1, 32 * (i : Int) + 32, 0, L⟩ := by
  have hm := mayF_t hF.1
  rcases hc with ⟨rfl, rfl⟩ | ⟨h1, rfl⟩
  · obtain ⟨g1, g2⟩ := start_is (t := t) hm (by omega) (by omega)
    rw [oth_bare hF.1 hF.2] at g2
    refine ⟨_, _, length_start 0 t (by omega) (by omega) (by omega), by omega, by omega, far_start (by omega), g1, ?_⟩
    rw [ht] at g2
    exact g2
  · have hok : okB F (downD (i : Int) (32 * (i : Int))) (i : Int) t = true := ok_down hm (by omega) (by omega) (by omega) (by omega) (by omega) (by omega) (by omega)
    have g := more_is hok (by omega) (by omega) (by omega) (by omega)
    rw [ht] at g
    refine ⟨_, _, rfl, ?_, ?_, far_words (a := 192 + 32 * (i : Int)) (t := t) (by omega), hok, g⟩
    · rw [wordsL_ok (wordsOk_parts.2 ⟨by omega, by omega, by omega, by omega⟩), length_wordsTo]
      unfold wordsN
      omega
    · have := words_few (192 + 32 * (i : Int)) t (by omega)
      omega
theorem blank_ext {x y : ByteArray} {r q z : Nat} (hr : r + z = q) (hq : q ≤ 768) (h1 : ∀ i, r ≤ i → i < q → x.data.toList[i]? = some 255) (h2 : ∀ i, i < 768 → y.data.toList[i]? = some 255) : x.extract r q = y.extract 0 z := by
  apply ba_ext
  apply List.ext_getElem?
  intro i
  rw [list_extract, list_extract, List.getElem?_take, List.getElem?_take, List.getElem?_drop, List.getElem?_drop]
  by_cases h : i < z
  · rw [if_pos (by omega), if_pos (by omega), h1 _ (by omega) (by omega), h2 _ (by omega)]
  · rw [if_neg (by omega), if_neg (by omega)]
/-- A carrying that begins on a flash without an active image: its steps, what they leave. -/
theorem mix_start {F t : ByteArray} (hF : Bare F) (h0 : ¬ t.size = 0) (ht : t.size ≤ 32) : ∃ L : List FOp, L.length = 3 + (t.size + 3) / 4 ∧ mayAll L = true ∧ okB F newD 0 t = true ∧ takeD F newD 0 t = ⟨1, 0, 1, t.size, 0, L⟩ ∧ (doL F L).size = 768 ∧ (doL F L).extract 192 (192 + t.size) = t ∧ (∀ i, 192 + t.size ≤ i → i < 480 → (doL F L).data.toList[i]? = some 255) := by
  obtain ⟨g1, g2⟩ := start_is (t := t) (mayF_t hF.1) h0 ht
  rw [oth_bare hF.1 hF.2] at g2
  obtain ⟨e, _⟩ := start_as (s := 0) (t := t) (by omega) (by omega) ht
  obtain ⟨x0, x1, _, x3⟩ := done hF.1 192 (by omega) (by omega) (by omega) (wordsOk_parts.2 ⟨by omega, by omega, by omega, by omega⟩ : wordsOk ((192 : Nat) : Int) t = true)
  refine ⟨erL 0 ++ wordsL (baseI 0) t, length_start 0 t (by omega) (by omega) ht, may_append (may_erases _) may_words, g1, g2, ?_, ?_, ?_⟩
  · rw [e]; exact x0
  · rw [e]; exact x1
  · rw [e]; exact x3
end Go.Proofs.Ythpoefaipmcceaa.DnlDoes
