/- Whatever the flash, the record and the two numbers: the law ImageApart returns true (slots do not meet, nor do they meet the records; a turned byte turns an image just if it lies in it), and the arguments read as they did; no condition. -/
import Derived.Test.YtdilicfilmpfhaaRows
import Derived.Test.YtdilicfilmpfhaaImgAwake
import Derived.Test.YtdilicfilmpfhaaImgTurn
import Derived.Deep.Cut
import Derived.WalkKit
import Derived.ProofKit
import Derived.OpenShut
import Derived.ShutString
import Derived.ChangeOld
import Derived.Below
namespace Go.Proofs.Ytdilicfilmpfhaa.imageApart
open Go.ChangeShapes Go.WideShapes Go.ChangeAt Go.RowKit
open Go.ChangeMaps (open_string shut_string)
set_option linter.unusedVariables false

open Go.Proofs.Ytdilicfilmpfhaa.Bytes
open Go.Proofs.Ytdilicfilmpfhaa.NorWalk
open Go.Proofs.Ytdilicfilmpfhaa.NorRef
open Go.Proofs.Ytdilicfilmpfhaa.Ent
open Go.Proofs.Ytdilicfilmpfhaa.EntRow
open Go.Proofs.Ytdilicfilmpfhaa.EntWalk
open Go.Proofs.Ytdilicfilmpfhaa.Jou
open Go.Proofs.Ytdilicfilmpfhaa.JouRef
open Go.Proofs.Ytdilicfilmpfhaa.Act
open Go.Proofs.Ytdilicfilmpfhaa.Held
open Go.Proofs.Ytdilicfilmpfhaa.HeldCalls
open Go.Proofs.Ytdilicfilmpfhaa.ImgWalk
open Go.Proofs.Ytdilicfilmpfhaa.ImgAwake
open Go.Proofs.Ytdilicfilmpfhaa.Turn
theorem own : ownKnob Try.prog.godebug = none := by kernel_rfl
theorem laidOut : laidOutB Try.prog = true := by kernel_rfl
theorem field_of {H : Type} {enc : TypeId × Value → H} {P : Program} {w : World} {base : Nat} {spare : Nat → Bool} {held : Bool} {t : TypeId} {fs : Array Field} {fuel : Nat} {cs : List Value} {x : DataW H × List MemPlace} (ht : P.underlying t = some (.struct fs)) (h : DataW.trod enc P w base spare held fuel t cs = some x) (i : Nat) (f : Field) (hf : fs[i]? = some f) :
    ∃ n y, DataW.trod enc P w base spare held n f.type ((cs.drop f.offset).take (P.cellsOf f.type)) = some y := by
  obtain ⟨xs, n, _, _, _, hlen, hq⟩ := DataW.trod_struct ht h
  have hi : i < xs.length := by
    rw [hlen]
    rcases Nat.lt_or_ge i fs.size with h1 | h1
    · exact h1
    · rw [Array.getElem?_eq_none h1] at hf; cases hf
  exact ⟨n, xs[i], by rw [hq i f hf, List.getElem?_eq_getElem hi]⟩
theorem list23 {l : List Value} (h : l.length = 4) : ∃ c0 c1 c2 c3, l = [c0, c1, c2, c3] := by
  match l, h with
  | [c0, c1, c2, c3], _ => exact ⟨c0, c1, c2, c3, rfl⟩
set_option maxRecDepth 100000 in
theorem open23 {H : Type} {enc : TypeId × Value → H} {w : World} {base : Nat} {spare : Nat → Bool} {held : Bool} {r : Reach} {b0 : Nat} {v : Value} {d : DataW H} {p : List MemPlace} (hv : Value.okWide Try.prog w r b0 23 v) (h : DataW.Trod enc Try.prog w base spare held 23 v d p) :
    ∃ (x0 : Int) (x1 : Int) (x2 : Int) (x3 : Int), v = .agg #[.int .i64 x0, .int .i64 x1, .int .i64 x2, .int .i64 x3] ∧ (Lit.int .i64 x0).wf = true ∧ (Lit.int .i64 x1).wf = true ∧ (Lit.int .i64 x2).wf = true ∧ (Lit.int .i64 x3).wf = true := by
  obtain ⟨cs, rfl, hsz⟩ := okWide_struct Try.underlying23 hv
  have hc : Try.prog.cellsOf 23 = 4 := by kernel_rfl
  rw [hc] at hsz
  obtain ⟨l⟩ := cs
  obtain ⟨c0, c1, c2, c3, rfl⟩ := list23 (l := l) (by simpa using hsz)
  obtain ⟨fuel, hf⟩ := h
  have k0 : Try.prog.cellsOf 3 = 1 := by kernel_rfl
  obtain ⟨n0, y0, h0⟩ := field_of Try.underlying23 hf 0 _ rfl
  have g0 : DataW.trod enc Try.prog w base spare held n0 3 [c0] = some y0 := by simpa [Value.cells, k0] using h0
  obtain ⟨x0, e0, _, w0⟩ := DataW.trod_int Try.underlying3 g0
  obtain rfl := (List.cons.inj e0).1
  have k1 : Try.prog.cellsOf 3 = 1 := by kernel_rfl
  obtain ⟨n1, y1, h1⟩ := field_of Try.underlying23 hf 1 _ rfl
  have g1 : DataW.trod enc Try.prog w base spare held n1 3 [c1] = some y1 := by simpa [Value.cells, k1] using h1
  obtain ⟨x1, e1, _, w1⟩ := DataW.trod_int Try.underlying3 g1
  obtain rfl := (List.cons.inj e1).1
  have k2 : Try.prog.cellsOf 3 = 1 := by kernel_rfl
  obtain ⟨n2, y2, h2⟩ := field_of Try.underlying23 hf 2 _ rfl
  have g2 : DataW.trod enc Try.prog w base spare held n2 3 [c2] = some y2 := by simpa [Value.cells, k2] using h2
  obtain ⟨x2, e2, _, w2⟩ := DataW.trod_int Try.underlying3 g2
  obtain rfl := (List.cons.inj e2).1
  have k3 : Try.prog.cellsOf 3 = 1 := by kernel_rfl
  obtain ⟨n3, y3, h3⟩ := field_of Try.underlying23 hf 3 _ rfl
  have g3 : DataW.trod enc Try.prog w base spare held n3 3 [c3] = some y3 := by simpa [Value.cells, k3] using h3
  obtain ⟨x3, e3, _, w3⟩ := DataW.trod_int Try.underlying3 g3
  obtain rfl := (List.cons.inj e3).1
  exact ⟨x0, x1, x2, x3, rfl, w0, w1, w2, w3⟩

/-- A record's two slots; the byte k ahead of its image, behind it, in it. -/
theorem three0 (k z : Nat) : ((k : Int) < 192 ∧ (k < 192 + 288 * (0 : Int).toNat ∨ 192 + 288 * (0 : Int).toNat + z ≤ k)) ∨ ((192 : Int) ≤ (k : Int) ∧ 192 + (z : Int) ≤ (k : Int) ∧ (k < 192 + 288 * (0 : Int).toNat ∨ 192 + 288 * (0 : Int).toNat + z ≤ k)) ∨ ((192 : Int) ≤ (k : Int) ∧ (k : Int) < 192 + (z : Int) ∧ 192 + 288 * (0 : Int).toNat ≤ k ∧ k < 192 + 288 * (0 : Int).toNat + z) := by omega
theorem three1 (k z : Nat) : ((k : Int) < 480 ∧ (k < 192 + 288 * (1 : Int).toNat ∨ 192 + 288 * (1 : Int).toNat + z ≤ k)) ∨ ((480 : Int) ≤ (k : Int) ∧ 480 + (z : Int) ≤ (k : Int) ∧ (k < 192 + 288 * (1 : Int).toNat ∨ 192 + 288 * (1 : Int).toNat + z ≤ k)) ∨ ((480 : Int) ≤ (k : Int) ∧ (k : Int) < 480 + (z : Int) ∧ 192 + 288 * (1 : Int).toNat ≤ k ∧ k < 192 + 288 * (1 : Int).toNat + z) := by omega
theorem boxSet {w : World} {B C k : Nat} {x y z u v : Value} (h : B < w.heap.size ∧ w.cell? ⟨B, 0, none⟩ = some x ∧ w.cell? ⟨B, 1, none⟩ = some y ∧ w.cell? ⟨B, 2, none⟩ = some z ∧ w.cell? ⟨B, 3, none⟩ = some u) (hne : B < C) :
    B < (w.setCell ⟨C, k, none⟩ v).heap.size ∧ (w.setCell ⟨C, k, none⟩ v).cell? ⟨B, 0, none⟩ = some x ∧ (w.setCell ⟨C, k, none⟩ v).cell? ⟨B, 1, none⟩ = some y ∧ (w.setCell ⟨C, k, none⟩ v).cell? ⟨B, 2, none⟩ = some z ∧ (w.setCell ⟨C, k, none⟩ v).cell? ⟨B, 3, none⟩ = some u := by
  obtain ⟨h0, h1, h2, h3, h4⟩ := h
  have ne : ∀ i, (⟨C, k, none⟩ : Addr) ≠ ⟨B, i, none⟩ := fun i hc => by injection hc; omega
  refine ⟨by simp [World.setCell]; omega, ?_, ?_, ?_, ?_⟩
  · rw [World.cell?_setCell_other w _ _ _ (ne 0)]; exact h1
  · rw [World.cell?_setCell_other w _ _ _ (ne 1)]; exact h2
  · rw [World.cell?_setCell_other w _ _ _ (ne 2)]; exact h3
  · rw [World.cell?_setCell_other w _ _ _ (ne 3)]; exact h4
set_option maxHeartbeats 8000000 in
theorem walk (a0 : ByteArray) (a1_0 : Int) (a1_1 : Int) (a1_2 : Int) (a1_3 : Int) (a2 : Int) (a3 : Int) (w0 : a0.size ≤ maxLen) (w1_0 : (Lit.int .i64 a1_0).wf = true) (w1_1 : (Lit.int .i64 a1_1).wf = true) (w1_2 : (Lit.int .i64 a1_2).wf = true) (w1_3 : (Lit.int .i64 a1_3).wf = true) (w2 : (Lit.int .i64 a2).wf = true) (w3 : (Lit.int .i64 a3).wf = true) (w : World) :
    Calls Try.prog 6 #[.string a0, .agg #[.int .i64 a1_0, .int .i64 a1_1, .int .i64 a1_2, .int .i64 a1_3], .int .i64 a2, .int .i64 a3] w fun e w' => e = .returned (.bool true) ∧ Below w.heap.size w w' := by
  have hB := (Below.refl w.heap.size w).alloc (Nat.le_refl _) (.cells #[.int .i64 a1_0, .int .i64 a1_1, .int .i64 a1_2, .int .i64 a1_3] 23)
  have hX := boxM w (.int .i64 a1_0) (.int .i64 a1_1) (.int .i64 a1_2) (.int .i64 a1_3) 23
  have b0 : baseI 0 = 192 := rfl
  have b1 : baseI 1 = 480 := rfl
  have o0 : errI (baseOk 0) = 0 := rfl
  have o1 : errI (baseOk 1) = 0 := rfl
  have C3 := hide (fun w => of_any a0 a1_0 a1_1 a1_2 a1_3 w)
  cases ho : imgOk a0 a1_0 a1_1 a1_2 a1_3 with
  | false =>
    rw [imgS_no ho, ho] at C3
    have e0 : errI false = 600 := rfl
    go_enter Try.func6, Try.ntmps6
    go_wp2_with (first | (go_at_call 7; refine (base_any _ _).mono ?_; rintro e w' ⟨rfl, rfl⟩) | (go_at_call 9; refine (C3.out _).mono ?_; rintro e w' ⟨rfl, hb⟩; replace hB := hB.trans (hb.mono hB.size); replace hX := boxB hX hb; clear hb) | (go_at_call 13; refine (numJ_any _ _).mono ?_; rintro e w' ⟨rfl, rfl⟩) | (go_at_call 14; refine (awake_any _).mono ?_; rintro e w' ⟨rfl, hb⟩; replace hB := hB.trans (hb.mono hB.size); replace hX := boxB hX hb; clear hb))
    go_ret
    exact ⟨rfl, hB⟩
  | true =>
    obtain ⟨hf, hr⟩ := imgOk_parts.1 ho
    obtain ⟨q1, q2, t1, t2, s1, s2, m1, m2⟩ := recMay_parts.1 hr
    obtain ⟨k, hk, mk⟩ : ∃ k : Nat, k < 768 ∧ wrap64 ((IntKind.u64.wrap a2).tmod 768) = (k : Int) := mod_u64 a2 768 (by omega) (by omega)
    obtain ⟨y, hy, my⟩ : ∃ k : Nat, k ≤ 127 ∧ bits .and .i64 a3 127 = (k : Int) := mask_i64 a3 127 (by omega)
    have C4 := hide (fun w => of_any (turnS a0 k (oneMore y)) a1_0 a1_1 a1_2 a1_3 w)
    rw [imgOk_turn, imgS_ok ((imgOk_turn a0 k (oneMore y) _ _ _ _).trans ho), ho] at C4
    rw [imgS_ok ho, ho] at C3
    have C5 := hide (fun w => held6_any w)
    have C6 := hide (fun w => flashMay_any a0 w)
    rw [show mayB a0 = true from mayF_t hf] at C6
    have HH := hide size_heldS
    have e0 : errI true = 0 := rfl
    obtain ⟨z, rfl⟩ := Int.eq_ofNat_of_zero_le (show 0 ≤ a1_2 by omega)
    have z1 : a0.size ≤ 768 := by omega
    have z2 : 768 ≤ a0.size := by omega
    have HA := hide (fun h => cut_out a0 k (oneMore y) a1_1 (z : Int) h)
    have HI := hide (fun h1 h2 => cut_ne a0 k (oneMore y) (oneMore_ne y hy) a1_1 (z : Int) h1 h2 (by omega))
    have HY := hide (oneMore_nat y hy)
    have hcv := fun w => run_bytes_of_string (P := Try.prog) w 9 45 5 a0 Try.underlying9 Try.underlying45 Try.underlying5
    clear hf hr q1 q2 m1 m2 ho s1
    have HS := hide s2
    have HT := hide (And.intro t1 t2)
    clear s2 t1 t2
    generalize heldS = F at *
    generalize cutI a0 a1_1 (z : Int) = S at *
    generalize cutI (turnS a0 k (oneMore y)) a1_1 (z : Int) = T at *
    go_enter Try.func6, Try.ntmps6
    go_upto_region 12 with (first | (go_at_call 7; refine (base_any _ _).mono ?_; rintro e w' ⟨rfl, rfl⟩) | (go_at_call 9; refine (C3.out _).mono ?_; rintro e w' ⟨rfl, hb⟩; replace hB := hB.trans (hb.mono hB.size); replace hX := boxB hX hb; clear hb) | (go_at_call 13; refine (numJ_any _ _).mono ?_; rintro e w' ⟨rfl, rfl⟩) | (go_at_call 14; refine (awake_any _).mono ?_; rintro e w' ⟨rfl, hb⟩; replace hB := hB.trans (hb.mono hB.size); replace hX := boxB hX hb; clear hb))
    clear hcv
    have hrow := (row_of_string w' 5 a0 _ (grownCap_ge w' a0.size 0 5)).drew
    have hsz : w'.heap.size < ((w'.alloc (Obj.cells (bytesRow a0 (grownCap w' a0.size 0 5)) 5 ((bytesRow a0 (grownCap w' a0.size 0 5)).size, (bytesRow a0 (grownCap w' a0.size 0 5)).size + 1))).drew).heap.size := by simp
    have hbel := ((Below.refl w'.heap.size w').alloc (Nat.le_refl _) (Obj.cells (bytesRow a0 (grownCap w' a0.size 0 5)) 5 ((bytesRow a0 (grownCap w' a0.size 0 5)).size, (bytesRow a0 (grownCap w' a0.size 0 5)).size + 1))).drew
    have hlt := hX.1
    replace hX := boxB hX hbel
    have s0 := hB.size
    replace hB := thenB hB hbel
    clear hbel
    generalize (w'.alloc (Obj.cells (bytesRow a0 (grownCap w' a0.size 0 5)) 5 ((bytesRow a0 (grownCap w' a0.size 0 5)).size, (bytesRow a0 (grownCap w' a0.size 0 5)).size + 1))).drew = W at *
    generalize grownCap w' a0.size 0 5 = cap at *
    generalize w'.heap.size = B at *
    rw [mk]
    clear mk
    have hl : a0.data.toList.length = a0.size := Nor.size_list a0
    have hc := hrow.cell k (by omega)
    have hfr := hrow.free k (by omega)
    have HC : Hid (a0.data.toList[k]'(by omega) = a0.data.toList.getD k 0) := by show _ = _; rw [List.getD_eq_getElem?_getD, List.getElem?_eq_getElem (by omega)]; rfl
    rw [HC.out] at hc
    have HL := hide hl
    clear hl HC
    generalize hcd : a0.data.toList.getD k 0 = c at hc
    have HC := hide hcd
    clear hcd
    have next : ∀ v : Int, v = ((c ^^^ oneMore y).toNat : Int) → Row (W.setCell ⟨B, k, none⟩ (.int .u8 v)) B (turnL a0.data.toList k (oneMore y)) := by
      rintro v rfl
      show Row _ _ (a0.data.toList.set k (a0.data.toList.getD k 0 ^^^ oneMore y))
      rw [HC.out]
      exact hrow.set k _ (by rw [HL.out]; omega)
    have HN := hide next
    clear next hrow
    go_upto_region 13 with fail
    have hrow := HN.out (bits .xor .u8 (c.toNat : Int) (1 + (y : Int))) (by rw [HY.out, xor_u8])
    replace hX := boxSet (k := k) (v := .int .u8 (bits .xor .u8 (c.toNat : Int) (1 + (y : Int)))) hX hlt
    replace hB := hB.setCell (p := ⟨B, k, none⟩) s0 (.int .u8 (bits .xor .u8 (c.toNat : Int) (1 + (y : Int))))
    generalize W.setCell ⟨B, k, none⟩ (.int .u8 (bits .xor .u8 (c.toNat : Int) (1 + (y : Int)))) = W2 at *
    have hcv := hrow.text (P := Try.prog) 45 9 5 cap a0.size (by unfold turnL; rw [List.length_set, HL.out]) Try.underlying45 Try.underlying5 Try.underlying9
    replace hcv : (convert 45 9 (.slice (some ⟨B, 0, none⟩) a0.size cap)).run Try.prog W2 = .ok (.string (turnS a0 k (oneMore y))) W2 := hcv
    clear hrow HN HC HL hc hfr HY my hsz hlt s0
    generalize turnS a0 k (oneMore y) = X at *
    obtain rfl | rfl : a1_1 = 0 ∨ a1_1 = 1 := by have := HT.out; omega
    · have a01 : bits .and .i64 0 1 = 0 := by decide
      have hh1 : F.size ≤ 768 := by have := HH.out; omega
      have hh2 : 768 ≤ F.size := by have := HH.out; omega
      have hs2 := HS.out
      clear HS HH HT
      rcases three0 k z with ⟨g1, g2⟩ | ⟨g1, g2, g3⟩ | ⟨g1, g2, g3, g4⟩
      · obtain rfl := HA.out g2
        have hd1 : decide ((192 : Int) ≤ (k : Int)) = false := decide_eq_false (by omega)
        clear HA HI g2
        go_upto_region 16 with (first | (go_at_call 9; refine (C4.out _).mono ?_; rintro e w' ⟨rfl, hb⟩; replace hB := hB.trans (hb.mono hB.size); replace hX := boxB hX hb; clear hb) | (go_at_call 13; refine (numJ_any _ _).mono ?_; rintro e w' ⟨rfl, rfl⟩))
        clear g1 hd1 hk hs2
        go_wp2_with (first | (go_at_call 9; refine (C4.out _).mono ?_; rintro e w' ⟨rfl, hb⟩; replace hB := hB.trans (hb.mono hB.size); replace hX := boxB hX hb; clear hb) | (go_at_call 13; refine (numJ_any _ _).mono ?_; rintro e w' ⟨rfl, rfl⟩))
        replace hB := hB.alloc hB.size (.cells #[.int .i64 192, .int .i64 480] 3)
        refine (C5.out _).mono ?_; rintro e w' ⟨rfl, hb⟩; replace hB := hB.trans (hb.mono hB.size); clear hb
        go_wp2_with (first | (go_at_call 13; refine (numJ_any _ _).mono ?_; rintro e w' ⟨rfl, rfl⟩) | (go_at_call 18; refine (C6.out _).mono ?_; rintro e w' ⟨rfl, rfl⟩))
        go_ret
        exact ⟨rfl, hB⟩
      · obtain rfl := HA.out g3
        have hd1 : decide ((192 : Int) ≤ (k : Int)) = true := decide_eq_true g1
        have hd2 : decide ((k : Int) < 192 + (z : Int)) = false := decide_eq_false (by omega)
        clear HA HI g3
        go_wp2_with (first | (go_at_call 9; refine (C4.out _).mono ?_; rintro e w' ⟨rfl, hb⟩; replace hB := hB.trans (hb.mono hB.size); replace hX := boxB hX hb; clear hb) | (go_at_call 13; refine (numJ_any _ _).mono ?_; rintro e w' ⟨rfl, rfl⟩))
        replace hB := hB.alloc hB.size (.cells #[.int .i64 192, .int .i64 480] 3)
        refine (C5.out _).mono ?_; rintro e w' ⟨rfl, hb⟩; replace hB := hB.trans (hb.mono hB.size); clear hb
        go_wp2_with (first | (go_at_call 13; refine (numJ_any _ _).mono ?_; rintro e w' ⟨rfl, rfl⟩) | (go_at_call 18; refine (C6.out _).mono ?_; rintro e w' ⟨rfl, rfl⟩))
        go_ret
        exact ⟨rfl, hB⟩
      · have hne := text_ne (HI.out g3 g4)
        have hd1 : decide ((192 : Int) ≤ (k : Int)) = true := decide_eq_true g1
        have hd2 : decide ((k : Int) < 192 + (z : Int)) = true := decide_eq_true g2
        clear HA HI g3 g4
        go_wp2_with (first | (go_at_call 9; refine (C4.out _).mono ?_; rintro e w' ⟨rfl, hb⟩; replace hB := hB.trans (hb.mono hB.size); replace hX := boxB hX hb; clear hb) | (go_at_call 13; refine (numJ_any _ _).mono ?_; rintro e w' ⟨rfl, rfl⟩))
        replace hB := hB.alloc hB.size (.cells #[.int .i64 192, .int .i64 480] 3)
        refine (C5.out _).mono ?_; rintro e w' ⟨rfl, hb⟩; replace hB := hB.trans (hb.mono hB.size); clear hb
        go_wp2_with (first | (go_at_call 13; refine (numJ_any _ _).mono ?_; rintro e w' ⟨rfl, rfl⟩) | (go_at_call 18; refine (C6.out _).mono ?_; rintro e w' ⟨rfl, rfl⟩))
        go_ret
        exact ⟨rfl, hB⟩
    · have a01 : bits .and .i64 1 1 = 1 := by decide
      have hh1 : F.size ≤ 768 := by have := HH.out; omega
      have hh2 : 768 ≤ F.size := by have := HH.out; omega
      have hs2 := HS.out
      clear HS HH HT
      rcases three1 k z with ⟨g1, g2⟩ | ⟨g1, g2, g3⟩ | ⟨g1, g2, g3, g4⟩
      · obtain rfl := HA.out g2
        have hd1 : decide ((480 : Int) ≤ (k : Int)) = false := decide_eq_false (by omega)
        clear HA HI g2
        go_upto_region 16 with (first | (go_at_call 9; refine (C4.out _).mono ?_; rintro e w' ⟨rfl, hb⟩; replace hB := hB.trans (hb.mono hB.size); replace hX := boxB hX hb; clear hb) | (go_at_call 13; refine (numJ_any _ _).mono ?_; rintro e w' ⟨rfl, rfl⟩))
        clear g1 hd1 hk hs2
        go_wp2_with (first | (go_at_call 9; refine (C4.out _).mono ?_; rintro e w' ⟨rfl, hb⟩; replace hB := hB.trans (hb.mono hB.size); replace hX := boxB hX hb; clear hb) | (go_at_call 13; refine (numJ_any _ _).mono ?_; rintro e w' ⟨rfl, rfl⟩))
        replace hB := hB.alloc hB.size (.cells #[.int .i64 192, .int .i64 480] 3)
        refine (C5.out _).mono ?_; rintro e w' ⟨rfl, hb⟩; replace hB := hB.trans (hb.mono hB.size); clear hb
        go_wp2_with (first | (go_at_call 13; refine (numJ_any _ _).mono ?_; rintro e w' ⟨rfl, rfl⟩) | (go_at_call 18; refine (C6.out _).mono ?_; rintro e w' ⟨rfl, rfl⟩))
        go_ret
        exact ⟨rfl, hB⟩
      · obtain rfl := HA.out g3
        have hd1 : decide ((480 : Int) ≤ (k : Int)) = true := decide_eq_true g1
        have hd2 : decide ((k : Int) < 480 + (z : Int)) = false := decide_eq_false (by omega)
        clear HA HI g3
        go_wp2_with (first | (go_at_call 9; refine (C4.out _).mono ?_; rintro e w' ⟨rfl, hb⟩; replace hB := hB.trans (hb.mono hB.size); replace hX := boxB hX hb; clear hb) | (go_at_call 13; refine (numJ_any _ _).mono ?_; rintro e w' ⟨rfl, rfl⟩))
        replace hB := hB.alloc hB.size (.cells #[.int .i64 192, .int .i64 480] 3)
        refine (C5.out _).mono ?_; rintro e w' ⟨rfl, hb⟩; replace hB := hB.trans (hb.mono hB.size); clear hb
        go_wp2_with (first | (go_at_call 13; refine (numJ_any _ _).mono ?_; rintro e w' ⟨rfl, rfl⟩) | (go_at_call 18; refine (C6.out _).mono ?_; rintro e w' ⟨rfl, rfl⟩))
        go_ret
        exact ⟨rfl, hB⟩
      · have hne := text_ne (HI.out g3 g4)
        have hd1 : decide ((480 : Int) ≤ (k : Int)) = true := decide_eq_true g1
        have hd2 : decide ((k : Int) < 480 + (z : Int)) = true := decide_eq_true g2
        clear HA HI g3 g4
        go_wp2_with (first | (go_at_call 9; refine (C4.out _).mono ?_; rintro e w' ⟨rfl, hb⟩; replace hB := hB.trans (hb.mono hB.size); replace hX := boxB hX hb; clear hb) | (go_at_call 13; refine (numJ_any _ _).mono ?_; rintro e w' ⟨rfl, rfl⟩))
        replace hB := hB.alloc hB.size (.cells #[.int .i64 192, .int .i64 480] 3)
        refine (C5.out _).mono ?_; rintro e w' ⟨rfl, hb⟩; replace hB := hB.trans (hb.mono hB.size); clear hb
        go_wp2_with (first | (go_at_call 13; refine (numJ_any _ _).mono ?_; rintro e w' ⟨rfl, rfl⟩) | (go_at_call 18; refine (C6.out _).mono ?_; rintro e w' ⟨rfl, rfl⟩))
        go_ret
        exact ⟨rfl, hB⟩

set_option maxRecDepth 100000 in
theorem lifted (os : Os) (started : os.Started) (H : Type) (enc : TypeId × Value → H) :
    ReturnsInHanded {} Try.checked os 6 .any (Rows.imageApartSpec.pre6 enc Try.prog Try.f6 Rows.imageApartRow.domain false) (Rows.imageApartSpec.post enc Try.prog Try.f6 false true false false) := by
  refine returnsInHanded_of_change (C := Try.checked) own started (by kernel_rfl) Try.func6
    (ChangeSpec.witness6 (enc := enc) (C := Try.checked) false ⟨#[], #[.string ByteArray.empty, .agg #[.int .i64 0, .int .i64 0, .int .i64 0, .int .i64 0], .int .i64 0, .int .i64 0], []⟩ 8 (by kernel_rfl) (by kernel_rfl) (by kernel_rfl) (by kernel_rfl)) ?_
  intro W base args ds gs before hval0 hW hcnd _
  have hval : ∀ (j : Nat) t v, Try.f6.params[j]? = some t → args[j]? = some v → Value.okWide Try.prog W .any base t v := hval0
  have hW' := hW
  obtain ⟨p, q, hA0, hV, rfl, hfz, hnd⟩ := hW
  have hA : DataW.TrodAll enc Try.prog W 0 (fun _ => true) true Try.f6.params.toList args.toList ds p := hA0
  rw [Try.params6] at hA hval
  obtain ⟨v0, vs0, d0, ds0, p0, q0, hargs, rfl, rfl, h0, r0⟩ := trodAll_cons hA
  obtain ⟨v1, vs1, d1, ds1, p1, q1, rfl, rfl, rfl, h1, r1⟩ := trodAll_cons r0
  obtain ⟨v2, vs2, d2, ds2, p2, q2, rfl, rfl, rfl, h2, r2⟩ := trodAll_cons r1
  obtain ⟨v3, vs3, d3, ds3, p3, q3, rfl, rfl, rfl, h3, r3⟩ := trodAll_cons r2
  obtain ⟨rfl, rfl, rfl⟩ := trodAll_nil r3
  obtain rfl : args = #[v0, v1, v2, v3] := by cases args; simp_all
  obtain ⟨rfl, rfl⟩ := trodVars_none hV
  obtain ⟨a0, rfl, rfl, rfl, w0⟩ := open_string Try.underlying9 (hval 0 9 v0 rfl rfl) h0
  have k1 := h1
  have lt1 : ∀ x ∈ p1, x.block < W.heap.size := by obtain ⟨m, hm⟩ := k1; exact DataW.trod_lt m _ _ _ hm
  obtain ⟨a1_0, a1_1, a1_2, a1_3, rfl, w1_0, w1_1, w1_2, w1_3⟩ := open23 (hval 1 23 v1 rfl rfl) h1
  obtain ⟨a2, rfl, rfl, rfl, w2⟩ := open_int Try.underlying3 (hval 2 3 v2 rfl rfl) h2
  obtain ⟨a3, rfl, rfl, rfl, w3⟩ := open_int Try.underlying3 (hval 3 3 v3 rfl rfl) h3
  clear hA0 hval0
  refine (walk a0 a1_0 a1_1 a1_2 a1_3 a2 a3 w0 w1_0 w1_1 w1_2 w1_3 w2 w3 W).mono fun e W' ⟨he, bel⟩ => ?_
  subst he
  exact ⟨_, rfl, _, _, _, [], _, [], hW', (trodAll_cons_mk (shut_bool Try.underlying4 _) trodAll_mk0), (trodAll_cons_mk (shut_string Try.underlying9 w0) (trodAll_cons_mk (Below.trod laidOut (by kernel_rfl) (of_decide_eq_true (by kernel_rfl)) k1 bel lt1) (trodAll_cons_mk (shut_int Try.underlying3 w2) (trodAll_cons_mk (shut_int Try.underlying3 w3) trodAll_mk0)))), rfl, bel.frame _, fun h => by cases h⟩

theorem over : Rows.imageApartRow.holds Try.pinned (OpenSpec.ofChange Rows.imageApartSpec) :=
  OpenClaim.holds_of_wide 6 Try.f6 rfl rfl rfl rfl rfl rfl rfl ⟨rfl, rfl, rfl, rfl, rfl⟩ rfl rfl rfl rfl rfl (by kernel_rfl) Try.func6 (by kernel_rfl)
    (of_decide_eq_true (by kernel_rfl)) (by unfold Func.isWrapper; first | (rw [if_pos (by decide +kernel)]; kernel_rfl) | (rw [if_neg (by decide +kernel)]; exact ⟨rfl, rfl⟩))
    (fun os started H enc _ => lifted os started H enc)

theorem proved : Rows.ImageApartSaid :=
  over
#print axioms proved
end Go.Proofs.Ytdilicfilmpfhaa.imageApart
