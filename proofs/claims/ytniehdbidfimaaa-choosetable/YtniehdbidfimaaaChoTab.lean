/- A flash of two records, each in a sector of its own and each of an image of its own: what stands in it, and which of the two is active. No program is named here. -/
import Derived.Test.YtniehdbidfimaaaChoMath
namespace Go.Proofs.Ytniehdbidfimaaa.Cho
open Go.Proofs.Ytniehdbidfimaaa Go.Proofs.Ytniehdbidfimaaa.Bytes Go.Proofs.Ytniehdbidfimaaa.Ent Go.Proofs.Ytniehdbidfimaaa.Ops Go.Proofs.Ytniehdbidfimaaa.Jou Go.Proofs.Ytniehdbidfimaaa.Act Go.Proofs.Ytniehdbidfimaaa.Held

theorem which4 (a : Int) : ∃ m : Nat, m < 4 ∧ bits .and .i64 a 1 = ((m % 2 : Nat) : Int) ∧ bits .and .i64 a 2 = ((2 * (m / 2) : Nat) : Int) ∧ bits .and .i64 a 3 = (m : Int) := by
  have key : ∀ k : Nat, k ≤ 3 → bits .and .i64 a (k : Int) = (((BitVec.ofInt 64 a).toNat &&& k : Nat) : Int) := fun k hk => by
    show IntKind.i64.wrap ((BitVec.ofInt 64 a &&& BitVec.ofInt 64 (k : Int)).toNat : Int) = _
    have hl : (BitVec.ofInt 64 a).toNat &&& k ≤ k := Nat.and_le_right
    rw [BitVec.toNat_and, ofInt_u64 k (by omega), IntKind.wrap_i64]
    omega
  have k1 := key 1 (by omega)
  have k2 := key 2 (by omega)
  have k3 := key 3 (by omega)
  generalize (BitVec.ofInt 64 a).toNat = N at k1 k2 k3
  have a1 : N &&& 1 = (N &&& 3) &&& 1 := by rw [Nat.and_assoc]; rfl
  have a2 : N &&& 2 = (N &&& 3) &&& 2 := by rw [Nat.and_assoc]; rfl
  have hm : N &&& 3 ≤ 3 := Nat.and_le_right
  rw [a1] at k1
  rw [a2] at k2
  generalize N &&& 3 = m at *
  refine ⟨m, by omega, ?_, ?_, k3⟩
  · have : m &&& 1 = m % 2 := by
      obtain rfl | rfl | rfl | rfl : m = 0 ∨ m = 1 ∨ m = 2 ∨ m = 3 := by omega
      all_goals rfl
    rw [this] at k1
    exact k1
  · have : m &&& 2 = 2 * (m / 2) := by
      obtain rfl | rfl | rfl | rfl : m = 0 ∨ m = 1 ∨ m = 2 ∨ m = 3 := by omega
      all_goals rfl
    rw [this] at k2
    exact k2

def one5 : ByteArray := ⟨#[102, 105, 114, 115, 116]⟩
def two6 : ByteArray := ⟨#[115, 101, 99, 111, 110, 100]⟩
/-- A blank flash with an image in each slot. -/
def imgs2 : ByteArray := Nor.blankS.extract 0 192 ++ one5 ++ Nor.blankS.extract 197 480 ++ two6 ++ Nor.blankS.extract 486 Nor.blankS.size
/-- And the texts s and t as the first places of the two sectors. -/
def tab2 (s t : ByteArray) : ByteArray := s ++ imgs2.extract 24 96 ++ t ++ imgs2.extract 120 imgs2.size
theorem blank_list : Nor.blankS.data.toList = List.replicate 768 255 := by
  rw [list_blankS]
  rfl
theorem list_imgs2 : imgs2.data.toList = List.replicate 192 255 ++ (one5.data.toList ++ (List.replicate 283 255 ++ (two6.data.toList ++ List.replicate 282 255))) := by
  unfold imgs2
  rw [list_append, list_append, list_append, list_append, list_head, list_extract, list_tail, blank_list]
  simp only [List.take_replicate, List.drop_replicate, List.append_assoc]
  rfl
theorem list_tab2 (s t : ByteArray) : (tab2 s t).data.toList = s.data.toList ++ (List.replicate 72 255 ++ (t.data.toList ++ (List.replicate 72 255 ++ (one5.data.toList ++ (List.replicate 283 255 ++ (two6.data.toList ++ List.replicate 282 255)))))) := by
  unfold tab2
  rw [list_append, list_append, list_append, list_extract, list_tail, list_imgs2]
  rw [List.drop_append_of_le_length (by rw [List.length_replicate]; omega), List.drop_append_of_le_length (by rw [List.length_replicate]; omega), List.drop_replicate, List.drop_replicate, List.take_append_of_le_length (by rw [List.length_replicate]; omega), List.take_replicate]
  simp only [List.append_assoc]
  rfl
theorem idx {l : List UInt8} {a b : Nat} (h : a = b) : l[a]? = l[b]? := by rw [h]
theorem len_one : one5.data.toList.length = 5 := rfl
theorem len_two : two6.data.toList.length = 6 := rfl
theorem size_imgs2 : imgs2.size = 768 := by
  rw [← Nor.size_list, list_imgs2]
  simp only [List.length_append, List.length_replicate, len_one, len_two]
theorem size_tab2 {s t : ByteArray} (hs : s.size = 24) (ht : t.size = 24) : (tab2 s t).size = 768 := by
  rw [← Nor.size_list, list_tab2]
  simp only [List.length_append, List.length_replicate, Nor.size_list, hs, ht, show one5.size = 5 from rfl, show two6.size = 6 from rfl]
theorem get_tab2 {s t : ByteArray} (hs : s.size = 24) (ht : t.size = 24) (i : Nat) : (tab2 s t).data.toList[i]? = if i < 24 then s.data.toList[i]? else if i < 96 then some 255 else if i < 120 then t.data.toList[i - 96]? else if i < 192 then some 255 else if i < 197 then one5.data.toList[i - 192]? else if i < 480 then some 255 else if i < 486 then two6.data.toList[i - 480]? else if i < 768 then some 255 else none := by
  have ls : s.data.toList.length = 24 := by rw [Nor.size_list]; exact hs
  have lt : t.data.toList.length = 24 := by rw [Nor.size_list]; exact ht
  rw [list_tab2]
  simp only [List.getElem?_append, List.getElem?_replicate, ls, lt, len_one, len_two, List.length_replicate]
  by_cases c1 : i < 24
  · rw [if_pos c1, if_pos c1]
  rw [if_neg c1, if_neg c1]
  by_cases c2 : i < 96
  · rw [if_pos (by omega), if_pos (by omega), if_pos c2]
  rw [if_neg (by omega), if_neg c2]
  by_cases c3 : i < 120
  · rw [if_pos (by omega), if_pos c3]
    exact idx (by omega)
  rw [if_neg (by omega), if_neg c3]
  by_cases c4 : i < 192
  · rw [if_pos (by omega), if_pos (by omega), if_pos c4]
  rw [if_neg (by omega), if_neg c4]
  by_cases c5 : i < 197
  · rw [if_pos (by omega), if_pos c5]
    exact idx (by omega)
  rw [if_neg (by omega), if_neg c5]
  by_cases c6 : i < 480
  · rw [if_pos (by omega), if_pos (by omega), if_pos c6]
  rw [if_neg (by omega), if_neg c6]
  by_cases c7 : i < 486
  · rw [if_pos (by omega), if_pos c7]
    exact idx (by omega)
  rw [if_neg (by omega), if_neg c7]
  by_cases c8 : i < 768
  · rw [if_pos (by omega), if_pos c8]
  rw [if_neg (by omega), if_neg c8]
theorem tab_blank {s t : ByteArray} (hs : s.size = 24) (ht : t.size = 24) (j : Nat) (hj : j < 8) (h0 : j ≠ 0) (h4 : j ≠ 4) : slotS (tab2 s t) j = full24 := slot_full fun i hi => by
  rw [get_tab2 hs ht]
  by_cases c : j < 4
  · rw [if_neg (by omega), if_pos (by omega)]
  · rw [if_neg (by omega), if_neg (by omega), if_neg (by omega), if_pos (by omega)]
theorem tab_first {s t : ByteArray} (hs : s.size = 24) (ht : t.size = 24) : slotS (tab2 s t) 0 = s := slotS_is hs fun i hi => by
  rw [get_tab2 hs ht, if_pos (by omega)]
  exact idx (by omega)
theorem tab_second {s t : ByteArray} (hs : s.size = 24) (ht : t.size = 24) : slotS (tab2 s t) 4 = t := slotS_is ht fun i hi => by
  rw [get_tab2 hs ht, if_neg (by omega), if_neg (by omega), if_pos (by omega)]
  exact idx (by omega)
theorem ext_is {f s : ByteArray} {p : Nat} (h : ∀ i, i < s.size → f.data.toList[p + i]? = s.data.toList[i]?) : f.extract p (p + s.size) = s := by
  apply ba_ext
  apply List.ext_getElem?
  intro i
  rw [get_ext]
  by_cases hi : i < s.size
  · rw [if_pos hi]; exact h i hi
  · rw [if_neg hi, List.getElem?_eq_none (by rw [Nor.size_list]; omega)]
theorem tab_one {s t : ByteArray} (hs : s.size = 24) (ht : t.size = 24) : cutI (tab2 s t) 0 5 = one5 := by
  have e : one5.size = 5 := rfl
  exact ext_is (s := one5) (p := 192) fun i hi => by
    rw [e] at hi
    rw [get_tab2 hs ht, if_neg (by omega), if_neg (by omega), if_neg (by omega), if_neg (by omega), if_pos (by omega)]
    exact idx (by omega)
theorem tab_two {s t : ByteArray} (hs : s.size = 24) (ht : t.size = 24) : cutI (tab2 s t) 1 6 = two6 := by
  have e : two6.size = 6 := rfl
  exact ext_is (s := two6) (p := 480) fun i hi => by
    rw [e] at hi
    rw [get_tab2 hs ht, if_neg (by omega), if_neg (by omega), if_neg (by omega), if_neg (by omega), if_neg (by omega), if_neg (by omega), if_pos (by omega)]
    exact idx (by omega)
/-- The two records. -/
theorem tab_scan {p q x y : Int} (h1 : recMay p 0 5 x = true) (h2 : recMay q 1 6 y = true) : scanL (tab2 (putS p 0 5 x) (putS q 1 6 y)) = [⟨0, p, 0, 5, x⟩, ⟨96, q, 1, 6, y⟩] := by
  have hs := size_putS h1
  have ht := size_putS h2
  have no : ∀ j, j < 8 → j ≠ 0 → j ≠ 4 → getOk (slotS (tab2 (putS p 0 5 x) (putS q 1 6 y)) j) = false := fun j a b c => by rw [tab_blank hs ht j a b c]; exact get_full24
  obtain ⟨g1, r1⟩ := recAt_put h1 (tab_first hs ht)
  obtain ⟨g2, r2⟩ := recAt_put h2 (tab_second hs ht)
  rw [scan_ok (size_tab2 hs ht), foundTo_no _ 7 (no 7 (by omega) (by omega) (by omega)), foundTo_no _ 6 (no 6 (by omega) (by omega) (by omega)), foundTo_no _ 5 (no 5 (by omega) (by omega) (by omega)), foundTo_yes _ 4 g2, foundTo_no _ 3 (no 3 (by omega) (by omega) (by omega)), foundTo_no _ 2 (no 2 (by omega) (by omega) (by omega)), foundTo_no _ 1 (no 1 (by omega) (by omega) (by omega)), foundTo_yes _ 0 g1, r1, r2]
  rfl
def sumOne : Int := ((Crc.sum one5.data.toList : Nat) : Int)
def sumTwo : Int := ((Crc.sum two6.data.toList : Nat) : Int)
def sumOne1 : Int := bits .xor .i64 sumOne 1
def sumTwo1 : Int := bits .xor .i64 sumTwo 1
theorem sums_ne : (0 ≤ sumOne ∧ sumOne ≤ 4294967295) ∧ (0 ≤ sumTwo ∧ sumTwo ≤ 4294967295) ∧ (¬ sumOne = sumOne1 ∧ 0 ≤ sumOne1 ∧ sumOne1 ≤ 4294967295) ∧ (¬ sumTwo = sumTwo1 ∧ 0 ≤ sumTwo1 ∧ sumTwo1 ≤ 4294967295) := by decide +kernel
theorem tab_good1 {p q x y : Int} (h1 : recMay p 0 5 x = true) (h2 : recMay q 1 6 y = true) : goodP (tab2 (putS p 0 5 x) (putS q 1 6 y)) ⟨0, p, 0, 5, x⟩ = decide (sumOne = x) := by
  have hs := size_putS h1
  have ht := size_putS h2
  show goodB (tab2 (putS p 0 5 x) (putS q 1 6 y)) p 0 5 x = _
  unfold goodB sumI sumOne
  rw [imgOk_parts.2 ⟨size_tab2 hs ht, h1⟩, tab_one hs ht, Bool.true_and]
theorem tab_good2 {p q x y : Int} (h1 : recMay p 0 5 x = true) (h2 : recMay q 1 6 y = true) : goodP (tab2 (putS p 0 5 x) (putS q 1 6 y)) ⟨96, q, 1, 6, y⟩ = decide (sumTwo = y) := by
  have hs := size_putS h1
  have ht := size_putS h2
  show goodB (tab2 (putS p 0 5 x) (putS q 1 6 y)) q 1 6 y = _
  unfold goodB sumI sumTwo
  rw [imgOk_parts.2 ⟨size_tab2 hs ht, h2⟩, tab_two hs ht, Bool.true_and]
theorem two_best {f : ByteArray} {a b : FPl} (hf : f.size = 768) (hl : scanL f = [a, b]) : actO f = if goodP f b = true ∧ (goodP f a = true → a.pq ≤ b.pq) then some b else if goodP f a = true then some a else none := by
  have h0 : 0 < (scanL f).length := by rw [hl]; exact Nat.zero_lt_two
  have h1 : 1 < (scanL f).length := by rw [hl]; exact Nat.one_lt_two
  have e0 : (scanL f)[0] = a := by simp only [hl]; rfl
  have e1 : (scanL f)[1] = b := by simp only [hl]; rfl
  have hi : ∀ i, i < (scanL f).length → i = 0 ∨ i = 1 := fun i h => by rw [hl] at h; have : ([a, b] : List FPl).length = 2 := rfl; omega
  by_cases c : goodP f b = true ∧ (goodP f a = true → a.pq ≤ b.pq)
  · rw [if_pos c]
    have := best_of (f := f) h1 (by rw [e1]; exact c.1) fun i h g => by
      rcases hi i h with rfl | rfl
      · rw [e0] at g ⊢
        rw [e1]
        have := c.2 g
        omega
      · exact .inr ⟨rfl, Nat.le_refl _⟩
    have := (act_some (mayF_t hf) h1 this).1
    rw [e1] at this
    exact this
  · rw [if_neg c]
    by_cases d : goodP f a = true
    · rw [if_pos d]
      have := best_of (f := f) h0 (by rw [e0]; exact d) fun i h g => by
        rcases hi i h with rfl | rfl
        · exact .inr ⟨rfl, Nat.le_refl _⟩
        · rw [e1] at g ⊢
          rw [e0]
          by_cases k : a.pq ≤ b.pq
          · exact absurd ⟨g, fun _ => k⟩ c
          · omega
      have := (act_some (mayF_t hf) h0 this).1
      rw [e0] at this
      exact this
    · rw [if_neg d]
      rcases three f with ⟨_, h, _⟩ | ⟨_, h, _⟩ | ⟨_, h, _⟩
      · exact h
      · exact h
      · obtain ⟨k, hk, e, _, g, _⟩ := act_best h
        rcases hi k hk with rfl | rfl
        · rw [e0] at e; rw [e] at d; exact absurd g d
        · rw [e1] at e
          rw [← e] at g
          exact absurd ⟨g, fun h => absurd h d⟩ c
/-- Which of the two is active. -/
theorem tab_act {p q x y : Int} (h1 : recMay p 0 5 x = true) (h2 : recMay q 1 6 y = true) : actO (tab2 (putS p 0 5 x) (putS q 1 6 y)) = if sumTwo = y ∧ (sumOne = x → p ≤ q) then some ⟨96, q, 1, 6, y⟩ else if sumOne = x then some ⟨0, p, 0, 5, x⟩ else none := by
  have h := two_best (size_tab2 (size_putS h1) (size_putS h2)) (tab_scan h1 h2)
  rw [tab_good1 h1 h2, tab_good2 h1 h2] at h
  simp only [decide_eq_true_iff] at h
  exact h
end Go.Proofs.Ytniehdbidfimaaa.Cho
