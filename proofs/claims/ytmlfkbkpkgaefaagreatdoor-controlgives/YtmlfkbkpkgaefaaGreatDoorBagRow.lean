/- Steps done on a flash in their row: none fails where each may be; what a slot's erasing and a text's words leave. No program is named here. -/
import Derived.Test.YtmlfkbkpkgaefaaGreatDoorBagDnl
import Derived.Test.YtmlfkbkpkgaefaaGreatDoorBagDev
namespace Go.Proofs.YtmlfkbkpkgaefaaGreatDoor.DnlDoes
open Go.Proofs.YtmlfkbkpkgaefaaGreatDoor Go.Proofs.YtmlfkbkpkgaefaaGreatDoor.Bytes Go.Proofs.YtmlfkbkpkgaefaaGreatDoor.Nor Go.Proofs.YtmlfkbkpkgaefaaGreatDoor.Ops Go.Proofs.YtmlfkbkpkgaefaaGreatDoor.Jou Go.Proofs.YtmlfkbkpkgaefaaGreatDoor.Act Go.Proofs.YtmlfkbkpkgaefaaGreatDoor.Held Go.Proofs.YtmlfkbkpkgaefaaGreatDoor.Cho Go.Proofs.YtmlfkbkpkgaefaaGreatDoor.Sta Go.Proofs.YtmlfkbkpkgaefaaGreatDoor.Dev Go.Proofs.YtmlfkbkpkgaefaaGreatDoor.Dnl Go.Proofs.YtmlfkbkpkgaefaaGreatDoor.DnlMore

theorem step_ok {f : ByteArray} {o : FOp} (hf : f.size = 768) (h : opMay o.er o.pl o.tx = true) : cutOk f o.er o.pl o.tx 96 = true := cutOk_parts.2 ⟨hf, h, by omega, by omega⟩
theorem do_size : ∀ (l : List FOp) (f : ByteArray), f.size = 768 → mayAll l = true → (doL f l).size = 768
  | [], _, hf, _ => hf
  | o :: l, f, hf, h => by
    unfold mayAll at h
    rw [List.all_cons, Bool.and_eq_true] at h
    exact do_size l _ (size_cutS (step_ok hf h.1)) h.2
theorem may_take {l : List FOp} (h : mayAll l = true) (n : Nat) : mayAll (l.take n) = true := by
  unfold mayAll at h ⊢
  rw [List.all_eq_true] at h ⊢
  exact fun x hx => h x (List.mem_of_mem_take hx)
theorem do_ok {f : ByteArray} {l : List FOp} (hf : f.size = 768) (h : mayAll l = true) {n : Nat} (hn : n < l.length) : cutOk (doL f (l.take n)) l[n].er l[n].pl l[n].tx 96 = true := step_ok (do_size _ f hf (may_take h n)) (mayAll_get h hn)
theorem may_append {l m : List FOp} (h : mayAll l = true) (g : mayAll m = true) : mayAll (l ++ m) = true := by
  unfold mayAll at *
  rw [List.all_append, h, g]
  rfl
theorem may_words {a : Int} {t : ByteArray} : mayAll (wordsL a t) = true := by
  cases h : wordsOk a t with
  | false => rw [wordsL_no h]; rfl
  | true =>
    rw [wordsL_ok h]
    unfold mayAll wordsTo
    rw [List.all_eq_true]
    intro o ho
    obtain ⟨i, hi, rfl⟩ := List.mem_map.1 ho
    exact wordsMay h i (List.mem_range.1 hi)
theorem may_erases (s : Int) : mayAll (erL s) = true := by
  cases h : baseOk s with
  | false => rw [erL_no h]; rfl
  | true =>
    unfold baseOk at h
    have h0 := of_decide_eq_true h
    rw [erL_ok h, (base_of h0.1 h0.2).2]
    unfold mayAll
    rw [List.all_eq_true]
    intro o ho
    obtain ⟨i, hi, e⟩ := List.getElem_of_mem ho
    have hi' : i < 3 := by rw [length_erTo] at hi; exact hi
    have g := get_erTo (192 + 288 * s) 3 i hi'
    rw [List.getElem?_eq_getElem hi, e] at g
    obtain rfl := Option.some.inj g
    show opMay true (192 + 288 * s + 96 * (i : Int)) ⟨#[]⟩ = true
    exact may_er.2 ⟨by omega, by omega, by omega, rfl⟩
theorem gone_do {f : ByteArray} (hf : f.size = 768) (p : Nat) (hp : p % 96 = 0) : ∀ n, p + 96 * n ≤ 768 → Gone f (doL f (erTo (p : Int) n)) p n
  | 0, _ => gone_zero hf p
  | n + 1, h => by
    have g := gone_do hf p hp n (by omega)
    rw [erTo_succ, doL_append]
    exact (gone_step g hp (by omega)).2
/-- A slot that was erased, a text's words behind: the text stands there, blank is what is behind it in the slot, all else stayed. -/
theorem done {f t : ByteArray} (hf : f.size = 768) (p : Nat) (hp : p % 96 = 0) (hp2 : p + 288 ≤ 768) (ht : t.size ≤ 288) (hw : wordsOk (p : Int) t = true) : (doL f (erTo (p : Int) 3 ++ wordsTo (p : Int) t (wordsN t))).size = 768 ∧ (doL f (erTo (p : Int) 3 ++ wordsTo (p : Int) t (wordsN t))).extract p (p + t.size) = t ∧ (∀ i, (i < p ∨ p + 288 ≤ i) → (doL f (erTo (p : Int) 3 ++ wordsTo (p : Int) t (wordsN t))).data.toList[i]? = f.data.toList[i]?) ∧ (∀ i, p + t.size ≤ i → i < p + 288 → (doL f (erTo (p : Int) 3 ++ wordsTo (p : Int) t (wordsN t))).data.toList[i]? = some 255) := by
  have g := gone_do hf p hp 3 (by omega)
  rw [doL_append]
  generalize doL f (erTo (p : Int) 3) = y at *
  rw [doL_words g.sy hw _ (Nat.le_refl _)]
  have hN : wordsN t = (t.size + 3) / 4 := rfl
  refine ⟨by rw [size_overS]; exact g.sy, over_mid y t p _ (by rw [hN]; omega) (fun i hi => g.ins _ (by omega) (by omega)), fun i hi => ?_, fun i h1 h2 => ?_⟩
  · rw [over_out y t p _ i (by rw [hN]; omega)]
    exact g.out i (by omega)
  · by_cases h3 : i < p + 4 * wordsN t
    · rw [over_in y t p _ i (by omega) h3 (g.ins i (by omega) (by omega))]
      rw [List.getD_eq_getElem?_getD, List.getElem?_eq_none (by rw [Nor.size_list]; omega)]
      rfl
    · rw [over_out y t p _ i (.inr (by omega))]
      exact g.ins i (by omega) (by omega)
/-- Where each step of the start lies, and which erase. -/
theorem start_get {p : Nat} {t : ByteArray} (ht : t.size ≤ 32) {n : Nat} (h : n < (erTo (p : Int) 3 ++ wordsTo (p : Int) t (wordsN t)).length) : ((erTo (p : Int) 3 ++ wordsTo (p : Int) t (wordsN t))[n]).er = decide (n < 3) ∧ (p : Int) ≤ ((erTo (p : Int) 3 ++ wordsTo (p : Int) t (wordsN t))[n]).pl ∧ ((erTo (p : Int) 3 ++ wordsTo (p : Int) t (wordsN t))[n]).pl < (p : Int) + 288 := by
  have hl : n < 3 + wordsN t := by rw [List.length_append, length_erTo, length_wordsTo] at h; exact h
  have hN : wordsN t ≤ 8 := by unfold wordsN; omega
  have e := List.getElem?_eq_getElem h
  by_cases h3 : n < 3
  · rw [List.getElem?_append_left (by rw [length_erTo]; exact h3), get_erTo _ _ _ h3] at e
    rw [← Option.some.inj e]
    refine ⟨(decide_eq_true h3).symm, ?_, ?_⟩
    · show (p : Int) ≤ (p : Int) + 96 * (n : Int); omega
    · show (p : Int) + 96 * (n : Int) < (p : Int) + 288; omega
  · rw [List.getElem?_append_right (by rw [length_erTo]; omega), length_erTo] at e
    rw [List.getElem?_eq_getElem (by rw [length_wordsTo]; omega), get_wordsTo] at e
    rw [← Option.some.inj e]
    refine ⟨(decide_eq_false h3).symm, ?_, ?_⟩
    · show (p : Int) ≤ (p : Int) + 4 * ((n - 3 : Nat) : Int); omega
    · show (p : Int) + 4 * ((n - 3 : Nat) : Int) < (p : Int) + 288; omega
theorem start_as {s : Int} {t : ByteArray} (h0 : 0 ≤ s) (h1 : s ≤ 1) (ht : t.size ≤ 32) : erL s ++ wordsL (baseI s) t = erTo ((192 + 288 * s.toNat : Nat) : Int) 3 ++ wordsTo ((192 + 288 * s.toNat : Nat) : Int) t (wordsN t) ∧ baseI s = ((192 + 288 * s.toNat : Nat) : Int) := by
  obtain ⟨hb, he⟩ := base_of h0 h1
  have hc : baseI s = ((192 + 288 * s.toNat : Nat) : Int) := by rw [he]; omega
  exact ⟨by rw [erL_ok hb, wordsL_ok (start_ok h0 h1 ht), hc], hc⟩
/-- A flash of whose journal every byte is blank. -/
def Bare (f : ByteArray) : Prop := f.size = 768 ∧ ∀ i, i < 192 → f.data.toList[i]? = some 255
theorem bare_blank : Bare blankS := ⟨size_blankS, fun i hi => blank_get i (by omega)⟩
theorem bare_step {f : ByteArray} {o : FOp} (h : Bare f) (hm : opMay o.er o.pl o.tx = true) (hp : 192 ≤ o.pl) : cutOk f o.er o.pl o.tx 96 = true ∧ Bare (cutS f o.er o.pl o.tx 96) := by
  have ok := step_ok h.1 hm
  refine ⟨ok, size_cutS ok, fun i hi => ?_⟩
  rw [list_cutS ok]
  obtain ⟨g, e, _⟩ := get_stepL f.data.toList o.tx.data.toList o.er o.pl.toNat (96 : Int).toNat i
  rw [e, h.2 i hi]
  show some (if _ then _ else (255 : UInt8)) = some 255
  rw [if_neg (by omega)]
/-- Steps that may be, and none in the journal. -/
def Far (l : List FOp) : Prop := ∀ n (h : n < l.length), opMay l[n].er l[n].pl l[n].tx = true ∧ 192 ≤ l[n].pl
theorem far_start {t : ByteArray} (ht : t.size ≤ 32) : Far (erL 0 ++ wordsL (baseI 0) t) := by
  intro n h
  refine ⟨mayAll_get (may_append (may_erases _) may_words) h, ?_⟩
  obtain ⟨e, _⟩ := start_as (s := 0) (t := t) (by omega) (by omega) ht
  have g : n < (erTo ((192 : Nat) : Int) 3 ++ wordsTo ((192 : Nat) : Int) t (wordsN t)).length := by rw [e] at h; exact h
  have g2 := (start_get (p := 192) (t := t) ht g).2.1
  have e2 : (erL 0 ++ wordsL (baseI 0) t)[n] = (erTo ((192 : Nat) : Int) 3 ++ wordsTo ((192 : Nat) : Int) t (wordsN t))[n] := by congr 1
  rw [e2]
  exact g2
theorem far_words {a : Int} {t : ByteArray} (h : 192 ≤ a) : Far (wordsL a t) := by
  intro n hn
  refine ⟨mayAll_get may_words hn, ?_⟩
  cases hw : wordsOk a t with
  | false => rw [wordsL_no hw] at hn; simp at hn
  | true =>
    have e : (wordsL a t)[n] = (wordsTo a t (wordsN t))[n]'(by rw [wordsL_ok hw] at hn; exact hn) := by congr 1; exact wordsL_ok hw
    rw [e, get_wordsTo]
    show 192 ≤ a + 4 * (n : Int)
    omega
theorem mix_take {F t : ByteArray} (hF : Bare F) {c : Int} {i : Nat} (ht : t.size = 32) (hi : i < 9) (hc : (i = 0 ∧ c = 0) ∨ (1 ≤ i ∧ c = 3)) : ∃ (L : List FOp) (n : Nat), L.length = n ∧ 1 ≤ n ∧ n ≤ 11 ∧ Far L ∧ okB F ⟨c, 0, (i : Int), 32 * (i : Int), 0, []⟩ (i : Int) t = true ∧ takeD F ⟨c, 0, (i : Int), 32 * (i : Int), 0, []⟩ (i : Int) t = ⟨1, 0, (i : Int) + 1, 32 * (i : Int) + 32, 0, L⟩ := by
  have hm := mayF_t hF.1
  rcases hc with ⟨rfl, rfl⟩ | ⟨h1, rfl⟩
  · obtain ⟨g1, g2⟩ := start_is (t := t) hm (by omega) (by omega)
    rw [oth_bare hF.1 hF.2] at g2
    refine ⟨_, _, length_start 0 t (by omega) (by omega) (by omega), by omega, by omega, far_start (by omega), g1, ?_⟩
    rw [ht] at g2
    exact g2
  · have hok : okB F (downD (i : Int) (32 * (i : Int))) (i : Int) t = true := ok_down hm (by omega) (by omega) (by omega) (by omega) (by omega) (by omega) (by omega)
    have g := more_is hok (by omega) (by omega) (by omega) (by omega)
    rw [ht] at g
    refine ⟨_, _, rfl, ?_, ?_, far_words (a := 192 + 32 * (i : Int)) (t := t) (by omega), hok, g⟩
    · rw [wordsL_ok (wordsOk_parts.2 ⟨by omega, by omega, by omega, by omega⟩), length_wordsTo]
      unfold wordsN
      omega
    · have := words_few (192 + 32 * (i : Int)) t (by omega)
      omega
theorem blank_ext {x y : ByteArray} {r q z : Nat} (hr : r + z = q) (hq : q ≤ 768) (h1 : ∀ i, r ≤ i → i < q → x.data.toList[i]? = some 255) (h2 : ∀ i, i < 768 → y.data.toList[i]? = some 255) : x.extract r q = y.extract 0 z := by
  apply ba_ext
  apply List.ext_getElem?
  intro i
  rw [list_extract, list_extract, List.getElem?_take, List.getElem?_take, List.getElem?_drop, List.getElem?_drop]
  by_cases h : i < z
  · rw [if_pos (by omega), if_pos (by omega), h1 _ (by omega) (by omega), h2 _ (by omega)]
  · rw [if_neg (by omega), if_neg (by omega)]
/-- A carrying that begins on a flash without an active image: its steps, what they leave. -/
theorem mix_start {F t : ByteArray} (hF : Bare F) (h0 : ¬ t.size = 0) (ht : t.size ≤ 32) : ∃ L : List FOp, L.length = 3 + (t.size + 3) / 4 ∧ mayAll L = true ∧ okB F newD 0 t = true ∧ takeD F newD 0 t = ⟨1, 0, 1, t.size, 0, L⟩ ∧ (doL F L).size = 768 ∧ (doL F L).extract 192 (192 + t.size) = t ∧ (∀ i, 192 + t.size ≤ i → i < 480 → (doL F L).data.toList[i]? = some 255) := by
  obtain ⟨g1, g2⟩ := start_is (t := t) (mayF_t hF.1) h0 ht
  rw [oth_bare hF.1 hF.2] at g2
  obtain ⟨e, _⟩ := start_as (s := 0) (t := t) (by omega) (by omega) ht
  obtain ⟨x0, x1, _, x3⟩ := done hF.1 192 (by omega) (by omega) (by omega) (wordsOk_parts.2 ⟨by omega, by omega, by omega, by omega⟩ : wordsOk ((192 : Nat) : Int) t = true)
  refine ⟨erL 0 ++ wordsL (baseI 0) t, length_start 0 t (by omega) (by omega) ht, may_append (may_erases _) may_words, g1, g2, ?_, ?_, ?_⟩
  · rw [e]; exact x0
  · rw [e]; exact x1
  · rw [e]; exact x3
end Go.Proofs.YtmlfkbkpkgaefaaGreatDoor.DnlDoes

/- An image carried block by block: the steps of all blocks are the steps of the whole; what they leave; the device behind them. No program is named here. -/
namespace Go.Proofs.YtmlfkbkpkgaefaaGreatDoor.DnlAll
open Go.Proofs.YtmlfkbkpkgaefaaGreatDoor Go.RowKit Go.Proofs.YtmlfkbkpkgaefaaGreatDoor.Bytes Go.Proofs.YtmlfkbkpkgaefaaGreatDoor.Nor Go.Proofs.YtmlfkbkpkgaefaaGreatDoor.Ops Go.Proofs.YtmlfkbkpkgaefaaGreatDoor.Jou Go.Proofs.YtmlfkbkpkgaefaaGreatDoor.Act Go.Proofs.YtmlfkbkpkgaefaaGreatDoor.Held Go.Proofs.YtmlfkbkpkgaefaaGreatDoor.Cho Go.Proofs.YtmlfkbkpkgaefaaGreatDoor.Sta Go.Proofs.YtmlfkbkpkgaefaaGreatDoor.Dev Go.Proofs.YtmlfkbkpkgaefaaGreatDoor.DevRow Go.Proofs.YtmlfkbkpkgaefaaGreatDoor.Dnl Go.Proofs.YtmlfkbkpkgaefaaGreatDoor.DnlMore Go.Proofs.YtmlfkbkpkgaefaaGreatDoor.DnlDoes

/-- A struct in a block that was not the row's that grew. -/
theorem resG {w w' : World} {row : Option Nat} {B : Nat} {x0 x1 x2 x3 x4 x5 : Value} (h : Res w B x0 x1 x2 x3 x4 x5) (hg : w.grownBy w' row) (hr : ¬ some B = row) : Res w' B x0 x1 x2 x3 x4 x5 := by
  obtain ⟨h, h0, h1, h2, h3, h4, h5, h6⟩ := h
  have e := hg.block B h hr
  have c : ∀ i, w'.cell? ⟨B, i, none⟩ = w.cell? ⟨B, i, none⟩ := fun i => World.cell?_of_block (a := ⟨B, i, none⟩) e
  exact ⟨Nat.lt_of_lt_of_le h hg.size, by rw [c]; exact h0, by rw [c]; exact h1, by rw [c]; exact h2, by rw [c]; exact h3, by rw [c]; exact h4, by rw [c]; exact h5, fun i => by rw [World.frozen?_of_block (a := ⟨B, i, none⟩) e]; exact h6 i⟩
def cnt (s : ByteArray) (j : Nat) : Nat := min (8 * j) (wordsN s)
/-- The steps of the first j blocks. -/
def allL (s : ByteArray) : Nat → List FOp
  | 0 => []
  | j + 1 => erTo ((192 : Nat) : Int) 3 ++ wordsTo ((192 : Nat) : Int) s (cnt s (j + 1))
theorem length_all (s : ByteArray) (j : Nat) (h : s.size ≤ 288) : (allL s j).length ≤ 75 := by
  cases j with
  | zero => exact Nat.zero_le _
  | succ j =>
    show (erTo ((192 : Nat) : Int) 3 ++ wordsTo ((192 : Nat) : Int) s (cnt s (j + 1))).length ≤ 75
    rw [List.length_append, length_erTo, length_wordsTo]
    unfold cnt wordsN
    omega
theorem piece_at {s : ByteArray} {x y m : Nat} (hx : x ≤ s.size) (hy : y = min s.size (x + 32)) (hm : m < 32) : (s.extract x y).data.toList.getD m 255 = s.data.toList.getD (x + m) 255 := by
  rw [list_extract, List.getD_eq_getElem?_getD, List.getD_eq_getElem?_getD, List.getElem?_take, List.getElem?_drop]
  by_cases h : m < y - x
  · rw [if_pos h]
  · rw [if_neg h, List.getElem?_eq_none (by rw [Nor.size_list]; omega)]
theorem word_at {s : ByteArray} {j x y n : Nat} (hx : x = 32 * j) (hxs : x ≤ s.size) (hy : y = min s.size (x + 32)) (hn : n < 8) : wordS (s.extract x y) n = wordS s (8 * j + n) := by
  unfold wordS wordL
  rw [piece_at hxs hy (by omega), piece_at hxs hy (by omega), piece_at hxs hy (by omega), piece_at hxs hy (by omega)]
  rw [show x + 4 * n = 4 * (8 * j + n) by omega, show x + (4 * n + 1) = 4 * (8 * j + n) + 1 by omega, show x + (4 * n + 2) = 4 * (8 * j + n) + 2 by omega, show x + (4 * n + 3) = 4 * (8 * j + n) + 3 by omega]
theorem words_join {s : ByteArray} {j x y : Nat} (hx : x = 32 * j) (hxs : x ≤ s.size) (hy : y = min s.size (x + 32)) : ∀ n, n ≤ 8 → wordsTo ((192 : Nat) : Int) s (8 * j) ++ wordsTo (192 + (x : Int)) (s.extract x y) n = wordsTo ((192 : Nat) : Int) s (8 * j + n)
  | 0, _ => by rw [show wordsTo (192 + (x : Int)) (s.extract x y) 0 = [] from rfl, List.append_nil, Nat.add_zero]
  | n + 1, h => by
    rw [wordsTo_succ, ← List.append_assoc, words_join hx hxs hy n (by omega), ← Nat.add_assoc, wordsTo_succ, word_at hx hxs hy (by omega)]
    congr 3
    omega
theorem size_piece {s : ByteArray} {x y : Nat} (hy : y = min s.size (x + 32)) (hxs : x < s.size) : (s.extract x y).size = y - x ∧ 1 ≤ y - x ∧ y - x ≤ 32 := by
  rw [ByteArray.size_extract]
  omega
theorem row_take {s : ByteArray} {c : Int} {j x y : Nat} (hs : s.size ≤ 288) (hx : x = 32 * j) (hxs : x < s.size) (hy : y = min s.size (x + 32)) (hc : (j = 0 ∧ c = 0) ∨ (1 ≤ j ∧ c = 3)) : ∃ (L : List FOp) (n : Nat), L.length = n ∧ 1 ≤ n ∧ n ≤ 11 ∧ okB blankS ⟨c, 0, (j : Int), (x : Int), 0, []⟩ (j : Int) (s.extract x y) = true ∧ takeD blankS ⟨c, 0, (j : Int), (x : Int), 0, []⟩ (j : Int) (s.extract x y) = ⟨1, 0, (j : Int) + 1, (y : Int), 0, L⟩ ∧ allL s j ++ L = allL s (j + 1) := by
  obtain ⟨z1, z2, z3⟩ := size_piece hy hxs
  have hN : wordsN (s.extract x y) = (y - x + 3) / 4 := by unfold wordsN; rw [z1]
  have hcn : cnt s (j + 1) = 8 * j + wordsN (s.extract x y) := by rw [hN]; unfold cnt wordsN; omega
  have hjoin := words_join hx (Nat.le_of_lt hxs) hy (wordsN (s.extract x y)) (by rw [hN]; omega)
  rw [← hcn] at hjoin
  rcases hc with ⟨rfl, rfl⟩ | ⟨h1, rfl⟩
  · obtain rfl : x = 0 := by omega
    obtain ⟨g1, g2⟩ := start_is (t := s.extract 0 y) may_blank (by omega) (by omega)
    rw [oth_blank] at g2
    refine ⟨_, _, length_start 0 (s.extract 0 y) (by omega) (by omega) (by omega), by omega, by omega, g1, ?_, ?_⟩
    · rw [show ((s.extract 0 y).size : Int) = (y : Int) by omega] at g2
      exact g2
    · rw [show allL s 0 = [] from rfl, List.nil_append, (start_as (s := 0) (t := s.extract 0 y) (by omega) (by omega) (by omega)).1]
      show _ = erTo ((192 : Nat) : Int) 3 ++ wordsTo ((192 : Nat) : Int) s (cnt s (0 + 1))
      rw [← hjoin]
      rfl
  · have hok : okB blankS (downD (j : Int) (x : Int)) (j : Int) (s.extract x y) = true := ok_down may_blank (by omega) (by omega) (by omega) (by omega) (by omega) (by omega) (by omega)
    have g := more_is hok (by omega) (by omega) (by omega) (by omega)
    rw [show (x : Int) + ((s.extract x y).size : Int) = (y : Int) by omega] at g
    have hw : wordsOk (192 + (x : Int)) (s.extract x y) = true := wordsOk_parts.2 ⟨by omega, by omega, by omega, by omega⟩
    refine ⟨_, _, rfl, ?_, ?_, hok, g, ?_⟩
    · rw [wordsL_ok hw, length_wordsTo, hN]; omega
    · rw [wordsL_ok hw, length_wordsTo, hN]; omega
    · rw [wordsL_ok hw]
      obtain ⟨j', rfl⟩ : ∃ j', j = j' + 1 := ⟨j - 1, by omega⟩
      show (erTo ((192 : Nat) : Int) 3 ++ wordsTo ((192 : Nat) : Int) s (cnt s (j' + 1))) ++ _ = erTo ((192 : Nat) : Int) 3 ++ wordsTo ((192 : Nat) : Int) s (cnt s (j' + 1 + 1))
      rw [List.append_assoc, ← hjoin, show cnt s (j' + 1) = 8 * (j' + 1) by unfold cnt wordsN; omega]
theorem row_again {t : ByteArray} {j y : Nat} (hj : j ≤ 9) (hy : y ≤ 288) (ht : t.size ≤ 32) : okB blankS (downD ((j : Int) + 1) (y : Int)) (j : Int) t = true ∧ takeD blankS (downD ((j : Int) + 1) (y : Int)) (j : Int) t = ⟨1, 0, (j : Int) + 1, (y : Int), 0, []⟩ := by
  have hok : okB blankS (downD ((j : Int) + 1) (y : Int)) (j : Int) t = true := ok_down may_blank (by omega) (by omega) (by omega) (by omega) (by omega) (by omega) ht
  exact ⟨hok, again_is hok (by omega)⟩
theorem all_end {s : ByteArray} {M : Nat} (h0 : 1 ≤ s.size) (hs : s.size ≤ 288) (hM : s.size ≤ 32 * M) (hM1 : 1 ≤ M) : mayAll (allL s M) = true ∧ (doL blankS (allL s M)).size = 768 ∧ (doL blankS (allL s M)).extract 192 (192 + s.size) = s := by
  have hw : wordsOk ((192 : Nat) : Int) s = true := wordsOk_parts.2 ⟨by omega, by omega, by omega, by omega⟩
  have hc : cnt s M = wordsN s := by unfold cnt wordsN; omega
  obtain ⟨M', rfl⟩ : ∃ M', M = M' + 1 := ⟨M - 1, by omega⟩
  obtain ⟨x0, x1, _, _⟩ := done size_blankS 192 (by omega) (by omega) hs hw
  have e : allL s (M' + 1) = erTo ((192 : Nat) : Int) 3 ++ wordsTo ((192 : Nat) : Int) s (wordsN s) := by rw [← hc]; rfl
  refine ⟨?_, by rw [e]; exact x0, by rw [e]; exact x1⟩
  have e2 : allL s (M' + 1) = erL 0 ++ wordsL ((192 : Nat) : Int) s := by
    rw [e, wordsL_ok hw, erL_ok (base_of (t := 0) (by omega) (by omega)).1, (base_of (t := 0) (by omega) (by omega)).2]
    rfl
  rw [e2]
  exact may_append (may_erases _) may_words
end Go.Proofs.YtmlfkbkpkgaefaaGreatDoor.DnlAll
