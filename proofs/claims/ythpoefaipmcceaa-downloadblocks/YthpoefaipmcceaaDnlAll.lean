/- An image carried block by block: the steps of all blocks are the steps of the whole; what they leave; the device behind them. No program is named here. -/
import Derived.Test.YthpoefaipmcceaaDnlDoes
import Derived.Test.YthpoefaipmcceaaDevSet
namespace Go.Proofs.Ythpoefaipmcceaa.DnlAll
open Go.Proofs.Ythpoefaipmcceaa Go.RowKit Go.Proofs.Ythpoefaipmcceaa.Bytes Go.Proofs.Ythpoefaipmcceaa.Nor Go.Proofs.Ythpoefaipmcceaa.Ops Go.Proofs.Ythpoefaipmcceaa.Jou Go.Proofs.Ythpoefaipmcceaa.Act Go.Proofs.Ythpoefaipmcceaa.Held Go.Proofs.Ythpoefaipmcceaa.Cho Go.Proofs.Ythpoefaipmcceaa.Sta Go.Proofs.Ythpoefaipmcceaa.Dev Go.Proofs.Ythpoefaipmcceaa.DevRow Go.Proofs.Ythpoefaipmcceaa.Dnl Go.Proofs.Ythpoefaipmcceaa.DnlMore Go.Proofs.Ythpoefaipmcceaa.DnlDoes

/-- A struct in a block that was not the row's that grew. -/
theorem resG {w w' : World} {row : Option Nat} {B : Nat} {x0 x1 x2 x3 x4 x5 : Value} (h : Res w B x0 x1 x2 x3 x4 x5) (hg : w.grownBy w' row) (hr : ¬ some B = row) : Res w' B x0 x1 x2 x3 x4 x5 := by
  obtain ⟨h, h0, h1, h2, h3, h4, h5, h6⟩ := h
  have e := hg.block B h hr
  have c : ∀ i, w'.cell? ⟨B, i, none⟩ = w.cell? ⟨B, i, none⟩ := fun i => World.cell?_of_block (a := ⟨B, i, none⟩) e
  exact ⟨Nat.lt_of_lt_of_le h hg.size, by rw [c]; exact h0, by rw [c]; exact h1, by rw [c]; exact h2, by rw [c]; exact h3, by rw [c]; exact h4, by rw [c]; exact h5, fun i => by rw [World.frozen?_of_block (a := ⟨B, i, none⟩) e]; exact h6 i⟩
def cnt (s : ByteArray) (j : Nat) : Nat := min (8 * j) (wordsN s)
/-- The steps of the first j blocks. -/
def allL (s : ByteArray) : Nat → List FOp
  | 0 => []
  | j + 1 => erTo ((192 : Nat) : Int) 3 ++ wordsTo ((192 : Nat) : Int) s (cnt s (j + 1))
theorem length_all (s : ByteArray) (j : Nat) (h : s.size ≤ 288) : (allL s j).length ≤ 75 := by
  cases j with
  | zero => exact Nat.zero_le _
  | succ j =>
    show (erTo ((192 : Nat) : Int) 3 ++ wordsTo ((192 : Nat) : Int) s (cnt s (j + 1))).length ≤ 75
    rw [List.length_append, length_erTo, length_wordsTo]
    unfold cnt wordsN
    omega
theorem piece_at {s : ByteArray} {x y m : Nat} (hx : x ≤ s.size) (hy : y = min s.size (x + 32)) (hm : m < 32) : (s.extract x y).data.toList.getD m 255 = s.data.toList.getD (x + m) 255 := by
  rw [list_extract, List.getD_eq_getElem?_getD, List.getD_eq_getElem?_getD, List.getElem?_take, List.getElem?_drop]
  by_cases h : m < y - x
  · rw [if_pos h]
  · rw [if_neg h, List.getElem?_eq_none (by rw [Nor.size_list]; omega)]
theorem word_at {s : ByteArray} {j x y n : Nat} (hx : x = 32 * j) (hxs : x ≤ s.size) (hy : y = min s.size (x + 32)) (hn : n < 8) : wordS (s.extract x y) n = wordS s (8 * j + n) := by
  unfold wordS wordL
  rw [piece_at hxs hy (by omega), piece_at hxs hy (by omega), piece_at hxs hy (by omega), piece_at hxs hy (by omega)]
  rw [show x + 4 * n = 4 * (8 * j + n) by omega, show x + (4 * n + 1) = 4 * (8 * j + n) + 1 by omega, show x + (4 * n + 2) = 4 * (8 * j + n) + 2 by omega, show x + (4 * n + 3) = 4 * (8 * j + n) + 3 by omega]
theorem words_join {s : ByteArray} {j x y : Nat} (hx : x = 32 * j) (hxs : x ≤ s.size) (hy : y = min s.size (x + 32)) : ∀ n, n ≤ 8 → wordsTo ((192 : Nat) : Int) s (8 * j) ++ wordsTo (192 + (x : Int)) (s.extract x y) n = wordsTo ((192 : Nat) : Int) s (8 * j + n)
  | 0, _ => by rw [show wordsTo (192 + (x : Int)) (s.extract x y) 0 = [] from rfl, List.append_nil, Nat.add_zero]
  | n + 1, h => by
    rw [wordsTo_succ, ← List.append_assoc, words_join hx hxs hy n (by omega), ← Nat.add_assoc, wordsTo_succ, word_at hx hxs hy (by omega)]
    congr 3
    omega
theorem size_piece {s : ByteArray} {x y : Nat} (hy : y = min s.size (x + 32)) (hxs : x < s.size) : (s.extract x y).size = y - x ∧ 1 ≤ y - x ∧ y - x ≤ 32 := by
  rw [ByteArray.size_extract]
  omega
theorem row_take {s : ByteArray} {c : Int} {j x y : Nat} (hs : s.size ≤ 288) (hx : x = 32 * j) (hxs : x < s.size) (hy : y = min s.size (x + 32)) (hc : (j = 0 ∧ c = 0) ∨ (1 ≤ j ∧ c = 3)) : ∃ (L : List FOp) (n : Nat), L.length = n ∧ 1 ≤ n ∧ n ≤ 11 ∧ okB blankS ⟨c, 0, (j : Int), (x : Int), 0, []⟩ (j : Int) (s.extract x y) = true ∧ takeD blankS ⟨c, 0, (j : Int), (x : Int), 0, []⟩ (j : Int) (s.extract x y) = ⟨1, 0, (j : Int) + 1, (y : Int), 0, L⟩ ∧ allL s j ++ L = allL s (j + 1) := by
  obtain ⟨z1, z2, z3⟩ := size_piece hy hxs
  have hN : wordsN (s.extract x y) = (y - x + 3) / 4 := by unfold wordsN; rw [z1]
  have hcn : cnt s (j + 1) = 8 * j + wordsN (s.extract x y) := by rw [hN]; unfold cnt wordsN; omega
  have hjoin := words_join hx (Nat.le_of_lt hxs) hy (wordsN (s.extract x y)) (by rw [hN]; omega)
  rw [← hcn] at hjoin
  rcases hc with ⟨rfl, rfl⟩ | ⟨h1, rfl⟩
  · obtain rfl : x = 0 := by omega
    obtain ⟨g1, g2⟩ := start_is (t := s.extract 0 y) may_blank (by omega) (by omega)
    rw [oth_blank] at g2
    refine ⟨_, _, length_start 0 (s.extract 0 y) (by omega) (by omega) (by omega), by omega, by omega, g1, ?_, ?_⟩
    · rw [show ((s.extract 0 y).size : Int) = (y : Int) by omega] at g2
      exact g2
    · rw [show allL s 0 = [] from rfl, List.nil_append, (start_as (s := 0) (t := s.extract 0 y) (by omega) (by omega) (by omega)).1]
      show _ = erTo ((192 : Nat) : Int) 3 ++ wordsTo ((192 : Nat) : Int) s (cnt s (0 + 1))
      rw [← hjoin]
      rfl
  · have hok : okB blankS (downD (j : Int) (x : Int)) (j : Int) (s.extract x y) = true := ok_down may_blank (by omega) (by omega) (by omega) (by omega) (by omega) (by omega) (by omega)
    have g := more_is hok (by omega) (by omega) (by omega) (by omega)
    rw [show (x : Int) + ((s.extract x y).size : Int) = (y : Int) by omega] at g
    have hw : wordsOk (192 + (x : Int)) (s.extract x y) = true := wordsOk_parts.2 ⟨by omega, by omega, by omega, by omega⟩
    refine ⟨_, _, rfl, ?_, ?_, hok, g, ?_⟩
    · rw [wordsL_ok hw, length_wordsTo, hN]; omega
    · rw [wordsL_ok hw, length_wordsTo, hN]; omega
    · rw [wordsL_ok hw]
      obtain ⟨j', rfl⟩ : ∃ j', j = j' + 1 := ⟨j - 1, by omega⟩
      show (erTo ((192 : Nat) : Int) 3 ++ wordsTo ((192 : Nat) : Int) s (cnt s (j' + 1))) ++ _ = erTo ((192 : Nat) : Int) 3 ++ wordsTo ((192 : Nat) : Int) s (cnt s (j' + 1 + 1))
      rw [List.append_assoc, ← hjoin, show cnt s (j' + 1) = 8 * (j' + 1) by unfold cnt wordsN; omega]
theorem row_again {t : ByteArray} {j y : Nat} (hj : j ≤ 9) (hy : y ≤ 288) (ht : t.size ≤ 32) : okB blankS (downD ((j : Int) + 1) (y : Int)) (j : Int) t = true ∧ takeD blankS (downD ((j : Int) + 1) (y : Int)) (j : Int) t = ⟨1, 0, (j : Int) + 1, (y : Int), 0, []⟩ := by
  have hok : okB blankS (downD ((j : Int) + 1) (y : Int)) (j : Int) t = true := ok_down may_blank (by omega) (by omega) (by omega) (by omega) (by omega) (by omega) ht
  exact ⟨hok, again_is hok (by omega)⟩
theorem all_end {s : ByteArray} {M : Nat} (h0 : 1 ≤ s.size) (hs : s.size ≤ 288) (hM : s.size ≤ 32 * M) (hM1 : 1 ≤ M) : mayAll (allL s M) = true ∧ (doL blankS (allL s M)).size = 768 ∧ (doL blankS (allL s M)).extract 192 (192 + s.size) = s := by
  have hw : wordsOk ((192 : Nat) : Int) s = true := wordsOk_parts.2 ⟨by omega, by omega, by omega, by omega⟩
  have hc : cnt s M = wordsN s := by unfold cnt wordsN; omega
  obtain ⟨M', rfl⟩ : ∃ M', M = M' + 1 := ⟨M - 1, by omega⟩
  obtain ⟨x0, x1, _, _⟩ := done size_blankS 192 (by omega) (by omega) hs hw
  have e : allL s (M' + 1) = erTo ((192 : Nat) : Int) 3 ++ wordsTo ((192 : Nat) : Int) s (wordsN s) := by rw [← hc]; rfl
  refine ⟨?_, by rw [e]; exact x0, by rw [e]; exact x1⟩
  have e2 : allL s (M' + 1) = erL 0 ++ wordsL ((192 : Nat) : Int) s := by
    rw [e, wordsL_ok hw, erL_ok (base_of (t := 0) (by omega) (by omega)).1, (base_of (t := 0) (by omega) (by omega)).2]
    rfl
  rw [e2]
  exact may_append (may_erases _) may_words
end Go.Proofs.Ythpoefaipmcceaa.DnlAll
