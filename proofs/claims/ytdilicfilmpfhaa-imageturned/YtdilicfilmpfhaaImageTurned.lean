/- Whatever the text and the three numbers: the law ImageTurned returns true (an image of which one byte is turned is no more good, one beyond it does not matter), and the arguments read as they did; no condition. -/
import Derived.Test.YtdilicfilmpfhaaRows
import Derived.Test.YtdilicfilmpfhaaImgAwake
import Derived.Test.YtdilicfilmpfhaaImgFull
import Derived.Test.YtdilicfilmpfhaaActRef
import Derived.Deep.Cut
import Derived.Deep.RegionHeld3
import Derived.BigQuiet
import Derived.ChangeOld
import Derived.Below
import Derived.WalkKit
import Derived.ProofKit
import Derived.OpenShut
import Derived.ShutString
namespace Go.Proofs.Ytdilicfilmpfhaa.imageTurned
open Go.ChangeShapes Go.WideShapes Go.ChangeAt Go.RowKit
open Go.ChangeMaps (open_string shut_string)
set_option linter.unusedVariables false

open Go.Proofs.Ytdilicfilmpfhaa.Bytes
open Go.Proofs.Ytdilicfilmpfhaa.NorWalk
open Go.Proofs.Ytdilicfilmpfhaa.NorRef
open Go.Proofs.Ytdilicfilmpfhaa.Ent
open Go.Proofs.Ytdilicfilmpfhaa.EntRow
open Go.Proofs.Ytdilicfilmpfhaa.EntWalk
open Go.Proofs.Ytdilicfilmpfhaa.Jou
open Go.Proofs.Ytdilicfilmpfhaa.JouRef
open Go.Proofs.Ytdilicfilmpfhaa.Act
open Go.Proofs.Ytdilicfilmpfhaa.Held
open Go.Proofs.Ytdilicfilmpfhaa.HeldCalls
open Go.Proofs.Ytdilicfilmpfhaa.ImgWalk
open Go.Proofs.Ytdilicfilmpfhaa.ImgAwake
open Go.Proofs.Ytdilicfilmpfhaa.Turn
theorem own : ownKnob Try.prog.godebug = none := by kernel_rfl

theorem boxSet {w : World} {B C k : Nat} {x y z u v : Value} (h : B < w.heap.size ∧ w.cell? ⟨B, 0, none⟩ = some x ∧ w.cell? ⟨B, 1, none⟩ = some y ∧ w.cell? ⟨B, 2, none⟩ = some z ∧ w.cell? ⟨B, 3, none⟩ = some u) (hne : B < C) :
    B < (w.setCell ⟨C, k, none⟩ v).heap.size ∧ (w.setCell ⟨C, k, none⟩ v).cell? ⟨B, 0, none⟩ = some x ∧ (w.setCell ⟨C, k, none⟩ v).cell? ⟨B, 1, none⟩ = some y ∧ (w.setCell ⟨C, k, none⟩ v).cell? ⟨B, 2, none⟩ = some z ∧ (w.setCell ⟨C, k, none⟩ v).cell? ⟨B, 3, none⟩ = some u := by
  obtain ⟨h0, h1, h2, h3, h4⟩ := h
  have ne : ∀ i, (⟨C, k, none⟩ : Addr) ≠ ⟨B, i, none⟩ := fun i hc => by injection hc; omega
  refine ⟨by simp [World.setCell]; omega, ?_, ?_, ?_, ?_⟩
  · rw [World.cell?_setCell_other w _ _ _ (ne 0)]; exact h1
  · rw [World.cell?_setCell_other w _ _ _ (ne 1)]; exact h2
  · rw [World.cell?_setCell_other w _ _ _ (ne 2)]; exact h3
  · rw [World.cell?_setCell_other w _ _ _ (ne 3)]; exact h4
theorem good_full (s : ByteArray) (t p : Nat) (ht : t ≤ 1) (hp : p = 192 + 288 * t) (h1 : 1 ≤ s.size) (hs : s.size ≤ 288) (w : World) : Calls Try.prog 11 #[.string (fullS s p), .agg #[.int .i64 1, .int .i64 (t : Int), .int .i64 (s.size : Int), .int .i64 (sumT s)]] w fun e w' => e = .returned (.tuple #[.bool true, .int .i64 0]) ∧ Below w.heap.size w w' := by
  subst hp
  have h := good_any (fullS s (192 + 288 * t)) 1 (t : Int) (s.size : Int) (sumT s) w
  rw [full_good s t ht h1 hs, full_ok s t ht h1 hs] at h
  exact h
theorem of_full (s : ByteArray) (t p : Nat) (ht : t ≤ 1) (hp : p = 192 + 288 * t) (h1 : 1 ≤ s.size) (hs : s.size ≤ 288) (w : World) : Calls Try.prog 9 #[.string (fullS s p), .agg #[.int .i64 1, .int .i64 (t : Int), .int .i64 (s.size : Int), .int .i64 (sumT s)]] w fun e w' => e = .returned (.tuple #[.string s, .int .i64 0]) ∧ Below w.heap.size w w' := by
  subst hp
  have h := of_any (fullS s (192 + 288 * t)) 1 (t : Int) (s.size : Int) (sumT s) w
  rw [imgS_ok (full_ok s t ht h1 hs), full_cut s t ht hs, full_ok s t ht h1 hs] at h
  exact h
theorem good_turned (s : ByteArray) (t p k : Nat) (c : UInt8) (hc : ¬ c = 0) (ht : t ≤ 1) (hp : p = 192 + 288 * t) (h1 : 1 ≤ s.size) (hs : s.size ≤ 288) (hk : k < 288) (w : World) : Calls Try.prog 11 #[.string (turnS (fullS s p) (p + k) c), .agg #[.int .i64 1, .int .i64 (t : Int), .int .i64 (s.size : Int), .int .i64 (sumT s)]] w fun e w' => e = .returned (.tuple #[.bool (decide (s.size ≤ k)), .int .i64 0]) ∧ Below w.heap.size w w' := by
  subst hp
  have h := good_any (turnS (fullS s (192 + 288 * t)) (192 + 288 * t + k) c) 1 (t : Int) (s.size : Int) (sumT s) w
  rw [full_turned s t k c hc ht h1 hs hk, imgOk_turn, full_ok s t ht h1 hs] at h
  exact h
theorem crc_ref (s : ByteArray) (w : World) (hs : s.size ≤ 288) : Calls Try.prog 16 #[.string s] w fun e w' => e = .returned (.int .i64 (sumT s)) ∧ w' = w := CrcAwake.ref_any s w (by omega)
set_option maxHeartbeats 8000000 in
theorem walk (a0 : ByteArray) (a1 : Int) (a2 : Int) (a3 : Int) (w0 : a0.size ≤ maxLen) (w1 : (Lit.int .i64 a1).wf = true) (w2 : (Lit.int .i64 a2).wf = true) (w3 : (Lit.int .i64 a3).wf = true) (w : World) :
    Calls Try.prog 5 #[.string a0, .int .i64 a1, .int .i64 a2, .int .i64 a3] w fun e w' => e = .returned (.bool true) ∧ Below w.heap.size w w' := by
  have hB : Below w.heap.size w w := Below.refl _ _
  by_cases h1 : a0.size < 1
  · go_enter Try.func5, Try.ntmps5
    go_wp2_with (go_at_call 14; refine (awake_any _).mono ?_; rintro e w' ⟨rfl, hb⟩; replace hB := hB.trans (hb.mono hB.size); clear hb)
    go_ret
    exact ⟨rfl, hB⟩
  by_cases h2 : 288 < a0.size
  · go_enter Try.func5, Try.ntmps5
    go_wp2_with (go_at_call 14; refine (awake_any _).mono ?_; rintro e w' ⟨rfl, hb⟩; replace hB := hB.trans (hb.mono hB.size); clear hb)
    go_ret
    exact ⟨rfl, hB⟩
  have s1 : 1 ≤ a0.size := by omega
  have s2 : a0.size ≤ 288 := by omega
  clear h1 h2
  obtain ⟨c, hc, mc⟩ : ∃ k : Nat, k ≤ 1 ∧ bits .and .i64 a1 1 = (k : Int) := mask_i64 a1 1 (by omega)
  obtain ⟨k, hk, mk⟩ : ∃ k : Nat, k < 288 ∧ wrap64 ((IntKind.u64.wrap a2).tmod 288) = (k : Int) := mod_u64 a2 288 (by omega) (by omega)
  obtain ⟨y, hy, my⟩ : ∃ k : Nat, k ≤ 127 ∧ bits .and .i64 a3 127 = (k : Int) := mask_i64 a3 127 (by omega)
  obtain ⟨p, hp⟩ : ∃ p : Nat, p = 192 + 288 * c := ⟨_, rfl⟩
  have C1 := hide (fun w => refBlank_any w)
  have C2 := hide (fun w => crc_ref a0 w s2)
  have C3 := hide (fun w => good_full a0 c p hc hp s1 s2 w)
  have C4 := hide (fun w => of_full a0 c p hc hp s1 s2 w)
  have C5 := hide (fun w => good_turned a0 c p k (oneMore y) (oneMore_ne y hy) hc hp s1 s2 hk w)
  have HY := hide (oneMore_nat y hy)
  have br := build_rec
  have HG : Hid (Nor.blankS.extract 0 p ++ a0 ++ Nor.blankS.extract (p + a0.size) Nor.blankS.size = fullS a0 p) := rfl
  have HZ : Hid ((fullS a0 p).size = 768) := size_fullS a0 p (by omega)
  have z1 : Nor.blankS.size ≤ 768 := by rw [Nor.size_blankS]; omega
  have z2 : 768 ≤ Nor.blankS.size := by rw [Nor.size_blankS]; omega
  generalize fullS a0 p = G at *
  generalize Nor.blankS = F at *
  generalize sumT a0 = M at *
  obtain ⟨q, hq⟩ : ∃ q : Nat, q = p + a0.size := ⟨_, rfl⟩
  obtain ⟨j, hj⟩ : ∃ j : Nat, j = p + k := ⟨_, rfl⟩
  have hq2 : q ≤ 768 := by omega
  have hj2 : j < 768 := by omega
  rw [← hq] at HG
  rw [← hj] at C5
  have HJ := hide hj
  obtain rfl | rfl : c = 0 ∨ c = 1 := by omega
  · obtain rfl : p = 192 := by omega
    have hq3 : (192 : Int) + (a0.size : Int) = (q : Int) := by omega
    have hj3 : (192 : Int) + (k : Int) = (j : Int) := by omega
    clear hp hc hq hj
    go_enter Try.func5, Try.ntmps5
    go_upto_region 7 with (first | (go_at_call 14; refine (awake_any _).mono ?_; rintro e w' ⟨rfl, hb⟩; replace hB := hB.trans (hb.mono hB.size); clear hb) | (go_at_call 15; refine (C1.out _).mono ?_; rintro e w1 ⟨rfl, hb⟩))
    replace hB := thenB (hB.alloc hB.size (.cells #[.int .i64 192, .int .i64 480] 3)) hb
    clear hb
    go_quiet (fail)
    rw [HG.out]
    replace hB := bel_drewN hB nq
    clear hq2 hq3 z1 z2 HG C1
    generalize w1.drewN nq = W1 at *
    have hcv := fun w => run_bytes_of_string (P := Try.prog) w 9 45 5 G Try.underlying9 Try.underlying45 Try.underlying5
    have y1 : G.size ≤ 768 := by have := HZ.out; omega
    have y2 : 768 ≤ G.size := by have := HZ.out; omega
    clear HZ
    go_upto_region 9 with (go_at_call 16; refine (C2.out _).mono ?_; rintro e w' ⟨rfl, rfl⟩)
    have hX := boxM w' (.int .i64 1) (.int .i64 0) (.int .i64 (a0.size : Int)) (.int .i64 M) 23
    replace hB := hB.alloc hB.size (.cells #[.int .i64 1, .int .i64 0, .int .i64 (a0.size : Int), .int .i64 M] 23)
    generalize w'.alloc (.cells #[.int .i64 1, .int .i64 0, .int .i64 (a0.size : Int), .int .i64 M] 23) = W2 at *
    generalize w'.heap.size = R at *
    go_upto_region 13 with (first | (go_at_call 11; refine (C3.out _).mono ?_; rintro e w' ⟨rfl, hb⟩; replace hB := hB.trans (hb.mono hB.size); replace hX := boxB hX hb; clear hb) | (go_at_call 9; refine (C4.out _).mono ?_; rintro e w' ⟨rfl, hb⟩; replace hB := hB.trans (hb.mono hB.size); replace hX := boxB hX hb; clear hb))
    clear hcv C2 C3 C4
    have hrow := (row_of_string w' 5 G _ (grownCap_ge w' G.size 0 5)).drew
    have hbel := ((Below.refl w'.heap.size w').alloc (Nat.le_refl _) (Obj.cells (bytesRow G (grownCap w' G.size 0 5)) 5 ((bytesRow G (grownCap w' G.size 0 5)).size, (bytesRow G (grownCap w' G.size 0 5)).size + 1))).drew
    have hlt := hX.1
    replace hX := boxB hX hbel
    have s0 := hB.size
    replace hB := thenB hB hbel
    clear hbel
    generalize (w'.alloc (Obj.cells (bytesRow G (grownCap w' G.size 0 5)) 5 ((bytesRow G (grownCap w' G.size 0 5)).size, (bytesRow G (grownCap w' G.size 0 5)).size + 1))).drew = W at *
    generalize grownCap w' G.size 0 5 = cap at *
    generalize w'.heap.size = B at *
    rw [mk]
    clear mk
    have hl : G.data.toList.length = G.size := Nor.size_list G
    have hc := hrow.cell j (by omega)
    have hfr := hrow.free j (by omega)
    have HC : Hid (G.data.toList[j]'(by omega) = G.data.toList.getD j 0) := by show _ = _; rw [List.getD_eq_getElem?_getD, List.getElem?_eq_getElem (by omega)]; rfl
    rw [HC.out] at hc
    have HL := hide hl
    clear hl HC
    generalize hcd : G.data.toList.getD j 0 = c at hc
    have HC := hide hcd
    clear hcd
    have next : ∀ v : Int, v = ((c ^^^ oneMore y).toNat : Int) → Row (W.setCell ⟨B, j, none⟩ (.int .u8 v)) B (turnL G.data.toList j (oneMore y)) := by
      rintro v rfl
      show Row _ _ (G.data.toList.set j (G.data.toList.getD j 0 ^^^ oneMore y))
      rw [HC.out]
      exact hrow.set j _ (by rw [HL.out]; omega)
    have HN := hide next
    clear next hrow
    go_upto_region 14 with fail
    have hrow := HN.out (bits .xor .u8 (c.toNat : Int) (1 + (y : Int))) (by rw [HY.out, xor_u8])
    replace hX := boxSet (k := j) (v := .int .u8 (bits .xor .u8 (c.toNat : Int) (1 + (y : Int)))) hX hlt
    replace hB := hB.setCell (p := ⟨B, j, none⟩) s0 (.int .u8 (bits .xor .u8 (c.toNat : Int) (1 + (y : Int))))
    generalize W.setCell ⟨B, j, none⟩ (.int .u8 (bits .xor .u8 (c.toNat : Int) (1 + (y : Int)))) = W3 at *
    have hcv := hrow.text (P := Try.prog) 45 9 5 cap G.size (by unfold turnL; rw [List.length_set, HL.out]) Try.underlying45 Try.underlying5 Try.underlying9
    replace hcv : (convert 45 9 (.slice (some ⟨B, 0, none⟩) G.size cap)).run Try.prog W3 = .ok (.string (turnS G j (oneMore y))) W3 := hcv
    clear hrow HN HC HL hc hfr HY my hlt s0 hj2 hj3 HJ
    generalize turnS G j (oneMore y) = X at *
    by_cases hge : a0.size ≤ k
    · rw [decide_eq_true hge] at C5
      have hd : decide (a0.size ≤ k) = true := decide_eq_true hge
      clear hk
      go_wp2_with (first | (go_at_call 11; refine (C5.out _).mono ?_; rintro e w' ⟨rfl, hb⟩; replace hB := hB.trans (hb.mono hB.size); replace hX := boxB hX hb; clear hb) | (go_at_call 13; refine (numJ_any _ _).mono ?_; rintro e w' ⟨rfl, rfl⟩))
      go_ret
      exact ⟨rfl, hB⟩
    · rw [decide_eq_false hge] at C5
      have hd : decide (a0.size ≤ k) = false := decide_eq_false hge
      clear hk
      go_wp2_with (first | (go_at_call 11; refine (C5.out _).mono ?_; rintro e w' ⟨rfl, hb⟩; replace hB := hB.trans (hb.mono hB.size); replace hX := boxB hX hb; clear hb) | (go_at_call 13; refine (numJ_any _ _).mono ?_; rintro e w' ⟨rfl, rfl⟩))
      go_ret
      exact ⟨rfl, hB⟩
  · obtain rfl : p = 480 := by omega
    have hq3 : (480 : Int) + (a0.size : Int) = (q : Int) := by omega
    have hj3 : (480 : Int) + (k : Int) = (j : Int) := by omega
    clear hp hc hq hj
    go_enter Try.func5, Try.ntmps5
    go_upto_region 7 with (first | (go_at_call 14; refine (awake_any _).mono ?_; rintro e w' ⟨rfl, hb⟩; replace hB := hB.trans (hb.mono hB.size); clear hb) | (go_at_call 15; refine (C1.out _).mono ?_; rintro e w1 ⟨rfl, hb⟩))
    replace hB := thenB (hB.alloc hB.size (.cells #[.int .i64 192, .int .i64 480] 3)) hb
    clear hb
    go_quiet (fail)
    rw [HG.out]
    replace hB := bel_drewN hB nq
    clear hq2 hq3 z1 z2 HG C1
    generalize w1.drewN nq = W1 at *
    have hcv := fun w => run_bytes_of_string (P := Try.prog) w 9 45 5 G Try.underlying9 Try.underlying45 Try.underlying5
    have y1 : G.size ≤ 768 := by have := HZ.out; omega
    have y2 : 768 ≤ G.size := by have := HZ.out; omega
    clear HZ
    go_upto_region 9 with (go_at_call 16; refine (C2.out _).mono ?_; rintro e w' ⟨rfl, rfl⟩)
    have hX := boxM w' (.int .i64 1) (.int .i64 1) (.int .i64 (a0.size : Int)) (.int .i64 M) 23
    replace hB := hB.alloc hB.size (.cells #[.int .i64 1, .int .i64 1, .int .i64 (a0.size : Int), .int .i64 M] 23)
    generalize w'.alloc (.cells #[.int .i64 1, .int .i64 1, .int .i64 (a0.size : Int), .int .i64 M] 23) = W2 at *
    generalize w'.heap.size = R at *
    go_upto_region 13 with (first | (go_at_call 11; refine (C3.out _).mono ?_; rintro e w' ⟨rfl, hb⟩; replace hB := hB.trans (hb.mono hB.size); replace hX := boxB hX hb; clear hb) | (go_at_call 9; refine (C4.out _).mono ?_; rintro e w' ⟨rfl, hb⟩; replace hB := hB.trans (hb.mono hB.size); replace hX := boxB hX hb; clear hb))
    clear hcv C2 C3 C4
    have hrow := (row_of_string w' 5 G _ (grownCap_ge w' G.size 0 5)).drew
    have hbel := ((Below.refl w'.heap.size w').alloc (Nat.le_refl _) (Obj.cells (bytesRow G (grownCap w' G.size 0 5)) 5 ((bytesRow G (grownCap w' G.size 0 5)).size, (bytesRow G (grownCap w' G.size 0 5)).size + 1))).drew
    have hlt := hX.1
    replace hX := boxB hX hbel
    have s0 := hB.size
    replace hB := thenB hB hbel
    clear hbel
    generalize (w'.alloc (Obj.cells (bytesRow G (grownCap w' G.size 0 5)) 5 ((bytesRow G (grownCap w' G.size 0 5)).size, (bytesRow G (grownCap w' G.size 0 5)).size + 1))).drew = W at *
    generalize grownCap w' G.size 0 5 = cap at *
    generalize w'.heap.size = B at *
    rw [mk]
    clear mk
    have hl : G.data.toList.length = G.size := Nor.size_list G
    have hc := hrow.cell j (by omega)
    have hfr := hrow.free j (by omega)
    have HC : Hid (G.data.toList[j]'(by omega) = G.data.toList.getD j 0) := by show _ = _; rw [List.getD_eq_getElem?_getD, List.getElem?_eq_getElem (by omega)]; rfl
    rw [HC.out] at hc
    have HL := hide hl
    clear hl HC
    generalize hcd : G.data.toList.getD j 0 = c at hc
    have HC := hide hcd
    clear hcd
    have next : ∀ v : Int, v = ((c ^^^ oneMore y).toNat : Int) → Row (W.setCell ⟨B, j, none⟩ (.int .u8 v)) B (turnL G.data.toList j (oneMore y)) := by
      rintro v rfl
      show Row _ _ (G.data.toList.set j (G.data.toList.getD j 0 ^^^ oneMore y))
      rw [HC.out]
      exact hrow.set j _ (by rw [HL.out]; omega)
    have HN := hide next
    clear next hrow
    go_upto_region 14 with fail
    have hrow := HN.out (bits .xor .u8 (c.toNat : Int) (1 + (y : Int))) (by rw [HY.out, xor_u8])
    replace hX := boxSet (k := j) (v := .int .u8 (bits .xor .u8 (c.toNat : Int) (1 + (y : Int)))) hX hlt
    replace hB := hB.setCell (p := ⟨B, j, none⟩) s0 (.int .u8 (bits .xor .u8 (c.toNat : Int) (1 + (y : Int))))
    generalize W.setCell ⟨B, j, none⟩ (.int .u8 (bits .xor .u8 (c.toNat : Int) (1 + (y : Int)))) = W3 at *
    have hcv := hrow.text (P := Try.prog) 45 9 5 cap G.size (by unfold turnL; rw [List.length_set, HL.out]) Try.underlying45 Try.underlying5 Try.underlying9
    replace hcv : (convert 45 9 (.slice (some ⟨B, 0, none⟩) G.size cap)).run Try.prog W3 = .ok (.string (turnS G j (oneMore y))) W3 := hcv
    clear hrow HN HC HL hc hfr HY my hlt s0 hj2 hj3 HJ
    generalize turnS G j (oneMore y) = X at *
    by_cases hge : a0.size ≤ k
    · rw [decide_eq_true hge] at C5
      have hd : decide (a0.size ≤ k) = true := decide_eq_true hge
      clear hk
      go_wp2_with (first | (go_at_call 11; refine (C5.out _).mono ?_; rintro e w' ⟨rfl, hb⟩; replace hB := hB.trans (hb.mono hB.size); replace hX := boxB hX hb; clear hb) | (go_at_call 13; refine (numJ_any _ _).mono ?_; rintro e w' ⟨rfl, rfl⟩))
      go_ret
      exact ⟨rfl, hB⟩
    · rw [decide_eq_false hge] at C5
      have hd : decide (a0.size ≤ k) = false := decide_eq_false hge
      clear hk
      go_wp2_with (first | (go_at_call 11; refine (C5.out _).mono ?_; rintro e w' ⟨rfl, hb⟩; replace hB := hB.trans (hb.mono hB.size); replace hX := boxB hX hb; clear hb) | (go_at_call 13; refine (numJ_any _ _).mono ?_; rintro e w' ⟨rfl, rfl⟩))
      go_ret
      exact ⟨rfl, hB⟩

set_option maxRecDepth 100000 in
theorem lifted (os : Os) (started : os.Started) (H : Type) (enc : TypeId × Value → H) :
    ReturnsInHanded {} Try.checked os 5 .any (Rows.imageTurnedSpec.pre6 enc Try.prog Try.f5 Rows.imageTurnedRow.domain false) (Rows.imageTurnedSpec.post enc Try.prog Try.f5 false true false false) := by
  refine returnsInHanded_of_change (C := Try.checked) own started (by kernel_rfl) Try.func5
    (ChangeSpec.witness6 (enc := enc) (C := Try.checked) false ⟨#[], #[.string ByteArray.empty, .int .i64 0, .int .i64 0, .int .i64 0], []⟩ 8 (by kernel_rfl) (by kernel_rfl) (by kernel_rfl) (by kernel_rfl)) ?_
  intro W base args ds gs before hval0 hW hcnd _
  have hval : ∀ (j : Nat) t v, Try.f5.params[j]? = some t → args[j]? = some v → Value.okWide Try.prog W .any base t v := hval0
  have hW' := hW
  obtain ⟨p, q, hA0, hV, rfl, hfz, hnd⟩ := hW
  have hA : DataW.TrodAll enc Try.prog W 0 (fun _ => true) true Try.f5.params.toList args.toList ds p := hA0
  rw [Try.params5] at hA hval
  obtain ⟨v0, vs0, d0, ds0, p0, q0, hargs, rfl, rfl, h0, r0⟩ := trodAll_cons hA
  obtain ⟨v1, vs1, d1, ds1, p1, q1, rfl, rfl, rfl, h1, r1⟩ := trodAll_cons r0
  obtain ⟨v2, vs2, d2, ds2, p2, q2, rfl, rfl, rfl, h2, r2⟩ := trodAll_cons r1
  obtain ⟨v3, vs3, d3, ds3, p3, q3, rfl, rfl, rfl, h3, r3⟩ := trodAll_cons r2
  obtain ⟨rfl, rfl, rfl⟩ := trodAll_nil r3
  obtain rfl : args = #[v0, v1, v2, v3] := by cases args; simp_all
  obtain ⟨rfl, rfl⟩ := trodVars_none hV
  obtain ⟨a0, rfl, rfl, rfl, w0⟩ := open_string Try.underlying9 (hval 0 9 v0 rfl rfl) h0
  obtain ⟨a1, rfl, rfl, rfl, w1⟩ := open_int Try.underlying3 (hval 1 3 v1 rfl rfl) h1
  obtain ⟨a2, rfl, rfl, rfl, w2⟩ := open_int Try.underlying3 (hval 2 3 v2 rfl rfl) h2
  obtain ⟨a3, rfl, rfl, rfl, w3⟩ := open_int Try.underlying3 (hval 3 3 v3 rfl rfl) h3
  clear hA0 hval0
  refine (walk a0 a1 a2 a3 w0 w1 w2 w3 W).mono fun e W' ⟨he, bel⟩ => ?_
  subst he
  exact ⟨_, rfl, _, _, _, [], _, [], hW', (trodAll_cons_mk (shut_bool Try.underlying4 _) trodAll_mk0), (trodAll_cons_mk (shut_string Try.underlying9 w0) (trodAll_cons_mk (shut_int Try.underlying3 w1) (trodAll_cons_mk (shut_int Try.underlying3 w2) (trodAll_cons_mk (shut_int Try.underlying3 w3) trodAll_mk0)))), rfl, bel.frame _, fun h => by cases h⟩

theorem over : Rows.imageTurnedRow.holds Try.pinned (OpenSpec.ofChange Rows.imageTurnedSpec) :=
  OpenClaim.holds_of_wide 5 Try.f5 rfl rfl rfl rfl rfl rfl rfl ⟨rfl, rfl, rfl, rfl, rfl⟩ rfl rfl rfl rfl rfl (by kernel_rfl) Try.func5 (by kernel_rfl)
    (of_decide_eq_true (by kernel_rfl)) (by unfold Func.isWrapper; first | (rw [if_pos (by decide +kernel)]; kernel_rfl) | (rw [if_neg (by decide +kernel)]; exact ⟨rfl, rfl⟩))
    (fun os started H enc _ => lifted os started H enc)

theorem proved : Rows.ImageTurnedSaid :=
  over
#print axioms proved
end Go.Proofs.Ytdilicfilmpfhaa.imageTurned
