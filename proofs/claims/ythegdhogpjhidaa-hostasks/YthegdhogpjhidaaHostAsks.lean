/- Whatever the two numbers and the bool: the law HostAsks returns true (each phase asks its own request), and the arguments read as they did; no condition. -/
import Derived.Test.YthegdhogpjhidaaRows
import Derived.Test.YthegdhogpjhidaaBagNor
import Derived.Test.YthegdhogpjhidaaBagOps
import Derived.Test.YthegdhogpjhidaaBagSuf
import Derived.Test.YthegdhogpjhidaaBagSet
import Derived.Test.YthegdhogpjhidaaHstMath
import Derived.Test.YthegdhogpjhidaaHstWalk
import Derived.Test.YthegdhogpjhidaaHstAsk
import Derived.Test.YthegdhogpjhidaaHstHost
import Derived.Test.YthegdhogpjhidaaHstRef
import Derived.Test.YthegdhogpjhidaaHstRefs
import Derived.Test.YthegdhogpjhidaaHstCarry
import Derived.Test.YthegdhogpjhidaaHstSet
import Derived.Test.YthegdhogpjhidaaHstAwake
import Derived.Test.YthegdhogpjhidaaHstMore
import Derived.Laws.StructEq
import Derived.Deep.Cut
import Derived.ChangeOld
import Derived.Below
import Derived.WalkKit
import Derived.ProofKit
import Derived.OpenShut
import Derived.ShutString
namespace Go.Proofs.Ythegdhogpjhidaa.hostAsks
open Go.ChangeShapes Go.WideShapes Go.ChangeAt Go.RowKit
open Go.ChangeMaps (open_string shut_string)
set_option linter.unusedVariables false

open Go.Proofs.Ythegdhogpjhidaa.Bytes
open Go.Proofs.Ythegdhogpjhidaa.Hst
open Go.Proofs.Ythegdhogpjhidaa.HstWalk
open Go.Proofs.Ythegdhogpjhidaa.HstAsk
open Go.Proofs.Ythegdhogpjhidaa.HstHost
open Go.Proofs.Ythegdhogpjhidaa.HstCarry
open Go.Proofs.Ythegdhogpjhidaa.HstMore
theorem own : ownKnob Try.prog.godebug = none := by kernel_rfl

open Go.Proofs.Ythegdhogpjhidaa.IdtWalk (num_any)
open Go.Proofs.Ythegdhogpjhidaa.BloWalk (run_min2)
open Go.Proofs.Ythegdhogpjhidaa.Blo (pieceS)
set_option maxRecDepth 100000 in
set_option maxHeartbeats 8000000 in
theorem walk (a0 : Int) (a1 : Int) (a2 : Bool) (w0 : (Lit.int .i64 a0).wf = true) (w1 : (Lit.int .i64 a1).wf = true) (w : World) :
    Calls Try.prog 5 #[.int .i64 a0, .int .i64 a1, .bool a2] w fun e w' => e = .returned (.bool true) ∧ Below w.heap.size w w' := by
  have hB := Below.refl w.heap.size w
  obtain ⟨m, hm6, hm⟩ : ∃ k : Nat, k < 6 ∧ wrap64 ((IntKind.u64.wrap a0).tmod 6) = (k : Int) := mod_u64 a0 6 (by omega) (by omega)
  obtain ⟨j, hj, mj⟩ : ∃ k : Nat, k ≤ 3 ∧ bits .and .i64 a1 3 = (k : Int) := mask_i64 a1 3 (by omega)
  have b1 := build_cn
  have b2 := SetWalk.build_c
  have b3 := build_cv
  have b4 := SetWalk.build_set
  obtain ⟨a, ha⟩ : ∃ a : Nat, a = min 70 (32 * j) := ⟨_, rfl⟩
  obtain ⟨b, hb⟩ : ∃ b : Nat, b = min 70 (32 * j + 32) := ⟨_, rfl⟩
  have hm1 := fun ts t w => run_min2 (P := Try.prog) 70 (32 * (j : Int)) (a : Int) (by omega) ts t w
  have hm2 := fun ts t w => run_min2 (P := Try.prog) 70 (32 * (j : Int) + 32) (b : Int) (by omega) ts t w
  have hab : a ≤ b := by omega
  have hbs : b ≤ (iotaS 70).size := by rw [size_iotaS]; omega
  have hT := piece_cut (iotaS 70) j a b (by rw [size_iotaS]; exact ha) (by rw [size_iotaS]; exact hb)
  have hTz := size_piece_le (iotaS 70) j
  obtain ⟨p, hp⟩ : ∃ p : Int, p = 1 + (m : Int) := ⟨_, rfl⟩
  obtain ⟨c, v, n, D, U, CA, CG, hw⟩ := told_ways p 70 j a2 (by omega) (by omega) (by decide) (by decide) (by omega)
  have CC := hide (fun w => carrying22_any 70 w (by decide) (by decide))
  have CW := hide (fun w => HstAwake.awake_any w)
  have hj8 : (j : Int) ≤ 3 := by omega
  have hj0 : (0 : Int) ≤ (j : Int) := by omega
  replace CA := hide CA
  replace CG := hide CG
  unfold Asked at CA
  unfold Got at CG
  clear ha hb
  generalize pieceS (iotaS 70) j = T at *
  generalize iotaS 70 = A at *
  rcases hw with ⟨rfl, rfl, rfl, rfl, rfl, rfl⟩ | ⟨rfl, rfl, rfl, rfl, rfl, rfl, rfl⟩ | ⟨rfl, rfl, hne, rfl, rfl, rfl, rfl⟩ | ⟨rfl, rfl, rfl, rfl, rfl⟩ | ⟨rfl | rfl, rfl, rfl, rfl, rfl⟩ | ⟨rfl, rfl, rfl, rfl, rfl⟩ | ⟨rfl, rfl, rfl, rfl, rfl⟩
  · obtain rfl : m = 0 := by omega
    replace hm : wrap64 ((IntKind.u64.wrap a0).tmod 6) = 0 := hm
    clear hp hm6 hj
    go_enter Try.func5, Try.ntmps5
    go_upto_region 4 with (first | (go_at_call 15; refine (CW.out _).mono ?_; rintro e w1 ⟨rfl, hb⟩; replace hB := thenB hB hb; clear hb) | (go_at_call 16; refine (CC.out _).mono ?_; rintro e w2 ⟨rfl, hb⟩; replace hB := thenB hB hb; clear hb))
    have hX := sevRM w2 (.int .i64 1) (.string A) (.int .i64 0) (.bool false) (.int .i64 0) (.string ⟨#[]⟩) (.int .i64 0) 23
    have hn := hal w2 (.cells #[.int .i64 1, .string A, .int .i64 0, .bool false, .int .i64 0, .string ⟨#[]⟩, .int .i64 0] 23)
    have hl := hB.size
    replace hB := thenB hB hn
    clear hn CC CW
    generalize w2.alloc _ = W3 at *
    generalize w2.heap.size = G at *
    go_upto_region 7 with fail
    replace hX := HstSet.set3 (HstSet.set2 (HstSet.set0 hX (.int .i64 1)) (.int .i64 (j : Int))) (.bool false)
    replace hB := ((hB.setCell (p := ⟨G, 0, none⟩) hl (.int .i64 1)).setCell (p := ⟨G, 2, none⟩) hl (.int .i64 (j : Int))).setCell (p := ⟨G, 3, none⟩) hl (.bool false)
    generalize ((W3.setCell _ _).setCell _ _).setCell _ _ = W4 at *
    clear hm mj
    go_upto_region 9 with (first | (go_at_call 10; refine (CA.out _).mono ?_; rintro e w4 ⟨rfl, hb⟩; replace hB := thenB hB hb; replace hX := sevRB hX hb; clear hb) | (go_at_call 19; refine (CG.out _).mono ?_; rintro e w5 ⟨rfl, hb⟩; replace hB := thenB hB hb; replace hX := sevRB hX hb; clear hb))
    have hY := SetWalk.resM w5 (.int .i64 3) (.int .i64 0) (.int .i64 6) 48
    have hn := hal w5 (.cells #[.int .i64 3, .int .i64 0, .int .i64 6] 48)
    replace hB := thenB hB hn
    replace hX := sevRB hX hn
    clear hn
    generalize w5.alloc _ = W5 at *
    generalize w5.heap.size = G5 at *
    go_upto_region 13 with (go_at_call 12; refine (num_any _ _).mono ?_; rintro e w6 ⟨rfl, rfl⟩)
    have hR := SetWalk.resM w6 (.int .i64 3) (.int .i64 0) (.int .i64 6) 48
    have hn := hal w6 (.cells #[.int .i64 3, .int .i64 0, .int .i64 6] 48)
    have hl5 := hX.1
    have hl6 := hY.1
    replace hB := thenB hB hn
    replace hX := sevRB hX hn
    replace hY := SetWalk.resB hY hn
    clear hn
    generalize w6.alloc _ = W6 at *
    generalize w6.heap.size = G6 at *
    have n1 : ¬ G6 = G := by omega
    have n2 : ¬ G = G6 := by omega
    have n3 : ¬ G6 = G5 := by omega
    have n4 : ¬ G5 = G6 := by omega
    have hG : w.heap.size ≤ G6 := by omega
    clear hl hl5 hl6 CA CG
    go_wp2_with fail
    go_ret
    exact ⟨rfl, hB⟩
  · obtain rfl : m = 0 := by omega
    replace hm : wrap64 ((IntKind.u64.wrap a0).tmod 6) = 0 := hm
    clear hp hm6 hj
    replace mj : bits .and .i64 a1 3 = 0 := mj
    go_enter Try.func5, Try.ntmps5
    go_upto_region 4 with (first | (go_at_call 15; refine (CW.out _).mono ?_; rintro e w1 ⟨rfl, hb⟩; replace hB := thenB hB hb; clear hb) | (go_at_call 16; refine (CC.out _).mono ?_; rintro e w2 ⟨rfl, hb⟩; replace hB := thenB hB hb; clear hb))
    have hX := sevRM w2 (.int .i64 1) (.string A) (.int .i64 0) (.bool false) (.int .i64 0) (.string ⟨#[]⟩) (.int .i64 0) 23
    have hn := hal w2 (.cells #[.int .i64 1, .string A, .int .i64 0, .bool false, .int .i64 0, .string ⟨#[]⟩, .int .i64 0] 23)
    have hl := hB.size
    replace hB := thenB hB hn
    clear hn CC CW
    generalize w2.alloc _ = W3 at *
    generalize w2.heap.size = G at *
    go_upto_region 7 with fail
    replace hX := HstSet.set3 (HstSet.set2 (HstSet.set0 hX (.int .i64 1)) (.int .i64 0)) (.bool true)
    replace hB := ((hB.setCell (p := ⟨G, 0, none⟩) hl (.int .i64 1)).setCell (p := ⟨G, 2, none⟩) hl (.int .i64 0)).setCell (p := ⟨G, 3, none⟩) hl (.bool true)
    generalize ((W3.setCell _ _).setCell _ _).setCell _ _ = W4 at *
    clear hm mj
    go_upto_region 9 with (first | (go_at_call 10; refine (CA.out _).mono ?_; rintro e w4 ⟨rfl, hb⟩; replace hB := thenB hB hb; replace hX := sevRB hX hb; clear hb) | (go_at_call 19; refine (CG.out _).mono ?_; rintro e w5 ⟨rfl, hb⟩; replace hB := thenB hB hb; replace hX := sevRB hX hb; clear hb))
    have hY := SetWalk.resM w5 (.int .i64 4) (.int .i64 0) (.int .i64 0) 48
    have hn := hal w5 (.cells #[.int .i64 4, .int .i64 0, .int .i64 0] 48)
    replace hB := thenB hB hn
    replace hX := sevRB hX hn
    clear hn
    generalize w5.alloc _ = W5 at *
    generalize w5.heap.size = G5 at *
    go_upto_region 13 with (go_at_call 12; refine (num_any _ _).mono ?_; rintro e w6 ⟨rfl, rfl⟩)
    have hR := SetWalk.resM w6 (.int .i64 3) (.int .i64 0) (.int .i64 6) 48
    have hn := hal w6 (.cells #[.int .i64 3, .int .i64 0, .int .i64 6] 48)
    have hl5 := hX.1
    have hl6 := hY.1
    replace hB := thenB hB hn
    replace hX := sevRB hX hn
    replace hY := SetWalk.resB hY hn
    clear hn
    generalize w6.alloc _ = W6 at *
    generalize w6.heap.size = G6 at *
    have n1 : ¬ G6 = G := by omega
    have n2 : ¬ G = G6 := by omega
    have n3 : ¬ G6 = G5 := by omega
    have n4 : ¬ G5 = G6 := by omega
    have hG : w.heap.size ≤ G6 := by omega
    clear hl hl5 hl6 CA CG
    go_upto_region 17 with fail
    replace hX := HstSet.setO3 hX n1 (.int .i64 6) (.int .i64 0) (.int .i64 0)
    replace hY := HstSet.tri_other hY n3 (.int .i64 6) (.int .i64 0) (.int .i64 0)
    replace hR := HstSet.tri_set hR (.int .i64 6) (.int .i64 0) (.int .i64 0)
    replace hB := SetWalk.set3 (x := .int .i64 6) (y := .int .i64 0) (z := .int .i64 0) hB hG
    generalize ((W6.setCell _ _).setCell _ _).setCell _ _ = W6' at *
    go_upto_region 26 with fail
    replace hX := HstSet.setO3 hX n1 (.int .i64 4) (.int .i64 0) (.int .i64 0)
    replace hY := HstSet.tri_other hY n3 (.int .i64 4) (.int .i64 0) (.int .i64 0)
    replace hR := HstSet.tri_set hR (.int .i64 4) (.int .i64 0) (.int .i64 0)
    replace hB := SetWalk.set3 (x := .int .i64 4) (y := .int .i64 0) (z := .int .i64 0) hB hG
    generalize ((W6'.setCell _ _).setCell _ _).setCell _ _ = W6'' at *
    go_wp2_with fail
    go_ret
    exact ⟨rfl, hB⟩
  · obtain rfl : m = 0 := by omega
    replace hm : wrap64 ((IntKind.u64.wrap a0).tmod 6) = 0 := hm
    clear hp hm6 hj
    go_enter Try.func5, Try.ntmps5
    go_upto_region 4 with (first | (go_at_call 15; refine (CW.out _).mono ?_; rintro e w1 ⟨rfl, hb⟩; replace hB := thenB hB hb; clear hb) | (go_at_call 16; refine (CC.out _).mono ?_; rintro e w2 ⟨rfl, hb⟩; replace hB := thenB hB hb; clear hb))
    have hX := sevRM w2 (.int .i64 1) (.string A) (.int .i64 0) (.bool false) (.int .i64 0) (.string ⟨#[]⟩) (.int .i64 0) 23
    have hn := hal w2 (.cells #[.int .i64 1, .string A, .int .i64 0, .bool false, .int .i64 0, .string ⟨#[]⟩, .int .i64 0] 23)
    have hl := hB.size
    replace hB := thenB hB hn
    clear hn CC CW
    generalize w2.alloc _ = W3 at *
    generalize w2.heap.size = G at *
    go_upto_region 7 with fail
    replace hX := HstSet.set3 (HstSet.set2 (HstSet.set0 hX (.int .i64 1)) (.int .i64 (j : Int))) (.bool true)
    replace hB := ((hB.setCell (p := ⟨G, 0, none⟩) hl (.int .i64 1)).setCell (p := ⟨G, 2, none⟩) hl (.int .i64 (j : Int))).setCell (p := ⟨G, 3, none⟩) hl (.bool true)
    generalize ((W3.setCell _ _).setCell _ _).setCell _ _ = W4 at *
    clear hm mj
    go_upto_region 9 with (first | (go_at_call 10; refine (CA.out _).mono ?_; rintro e w4 ⟨rfl, hb⟩; replace hB := thenB hB hb; replace hX := sevRB hX hb; clear hb) | (go_at_call 19; refine (CG.out _).mono ?_; rintro e w5 ⟨rfl, hb⟩; replace hB := thenB hB hb; replace hX := sevRB hX hb; clear hb))
    have hY := SetWalk.resM w5 (.int .i64 6) (.int .i64 0) (.int .i64 0) 48
    have hn := hal w5 (.cells #[.int .i64 6, .int .i64 0, .int .i64 0] 48)
    replace hB := thenB hB hn
    replace hX := sevRB hX hn
    clear hn
    generalize w5.alloc _ = W5 at *
    generalize w5.heap.size = G5 at *
    go_upto_region 13 with (go_at_call 12; refine (num_any _ _).mono ?_; rintro e w6 ⟨rfl, rfl⟩)
    have hR := SetWalk.resM w6 (.int .i64 3) (.int .i64 0) (.int .i64 6) 48
    have hn := hal w6 (.cells #[.int .i64 3, .int .i64 0, .int .i64 6] 48)
    have hl5 := hX.1
    have hl6 := hY.1
    replace hB := thenB hB hn
    replace hX := sevRB hX hn
    replace hY := SetWalk.resB hY hn
    clear hn
    generalize w6.alloc _ = W6 at *
    generalize w6.heap.size = G6 at *
    have n1 : ¬ G6 = G := by omega
    have n2 : ¬ G = G6 := by omega
    have n3 : ¬ G6 = G5 := by omega
    have n4 : ¬ G5 = G6 := by omega
    have hG : w.heap.size ≤ G6 := by omega
    clear hl hl5 hl6 CA CG
    go_upto_region 17 with fail
    replace hX := HstSet.setO3 hX n1 (.int .i64 6) (.int .i64 0) (.int .i64 0)
    replace hY := HstSet.tri_other hY n3 (.int .i64 6) (.int .i64 0) (.int .i64 0)
    replace hR := HstSet.tri_set hR (.int .i64 6) (.int .i64 0) (.int .i64 0)
    replace hB := SetWalk.set3 (x := .int .i64 6) (y := .int .i64 0) (z := .int .i64 0) hB hG
    generalize ((W6.setCell _ _).setCell _ _).setCell _ _ = W6' at *
    go_wp2_with fail
    go_ret
    exact ⟨rfl, hB⟩
  · obtain rfl : m = 1 := by omega
    replace hm : wrap64 ((IntKind.u64.wrap a0).tmod 6) = 1 := hm
    clear hp hm6 hj
    go_enter Try.func5, Try.ntmps5
    go_upto_region 4 with (first | (go_at_call 15; refine (CW.out _).mono ?_; rintro e w1 ⟨rfl, hb⟩; replace hB := thenB hB hb; clear hb) | (go_at_call 16; refine (CC.out _).mono ?_; rintro e w2 ⟨rfl, hb⟩; replace hB := thenB hB hb; clear hb))
    have hX := sevRM w2 (.int .i64 1) (.string A) (.int .i64 0) (.bool false) (.int .i64 0) (.string ⟨#[]⟩) (.int .i64 0) 23
    have hn := hal w2 (.cells #[.int .i64 1, .string A, .int .i64 0, .bool false, .int .i64 0, .string ⟨#[]⟩, .int .i64 0] 23)
    have hl := hB.size
    replace hB := thenB hB hn
    clear hn CC CW
    generalize w2.alloc _ = W3 at *
    generalize w2.heap.size = G at *
    go_upto_region 7 with fail
    replace hX := HstSet.set3 (HstSet.set2 (HstSet.set0 hX (.int .i64 2)) (.int .i64 (j : Int))) (.bool a2)
    replace hB := ((hB.setCell (p := ⟨G, 0, none⟩) hl (.int .i64 2)).setCell (p := ⟨G, 2, none⟩) hl (.int .i64 (j : Int))).setCell (p := ⟨G, 3, none⟩) hl (.bool a2)
    generalize ((W3.setCell _ _).setCell _ _).setCell _ _ = W4 at *
    clear hm mj
    go_upto_region 9 with (first | (go_at_call 10; refine (CA.out _).mono ?_; rintro e w4 ⟨rfl, hb⟩; replace hB := thenB hB hb; replace hX := sevRB hX hb; clear hb) | (go_at_call 19; refine (CG.out _).mono ?_; rintro e w5 ⟨rfl, hb⟩; replace hB := thenB hB hb; replace hX := sevRB hX hb; clear hb))
    have hY := SetWalk.resM w5 (.int .i64 1) (.int .i64 (j : Int)) (.int .i64 (D.size : Int)) 48
    have hn := hal w5 (.cells #[.int .i64 1, .int .i64 (j : Int), .int .i64 (D.size : Int)] 48)
    replace hB := thenB hB hn
    replace hX := sevRB hX hn
    clear hn
    generalize w5.alloc _ = W5 at *
    generalize w5.heap.size = G5 at *
    go_upto_region 13 with (go_at_call 12; refine (num_any _ _).mono ?_; rintro e w6 ⟨rfl, rfl⟩)
    have hR := SetWalk.resM w6 (.int .i64 3) (.int .i64 0) (.int .i64 6) 48
    have hn := hal w6 (.cells #[.int .i64 3, .int .i64 0, .int .i64 6] 48)
    have hl5 := hX.1
    have hl6 := hY.1
    replace hB := thenB hB hn
    replace hX := sevRB hX hn
    replace hY := SetWalk.resB hY hn
    clear hn
    generalize w6.alloc _ = W6 at *
    generalize w6.heap.size = G6 at *
    have n1 : ¬ G6 = G := by omega
    have n2 : ¬ G = G6 := by omega
    have n3 : ¬ G6 = G5 := by omega
    have n4 : ¬ G5 = G6 := by omega
    have hG : w.heap.size ≤ G6 := by omega
    clear hl hl5 hl6 CA CG
    go_upto_region 26 with fail
    replace hX := HstSet.setO3 hX n1 (.int .i64 1) (.int .i64 (j : Int)) (.int .i64 (D.size : Int))
    replace hY := HstSet.tri_other hY n3 (.int .i64 1) (.int .i64 (j : Int)) (.int .i64 (D.size : Int))
    replace hR := HstSet.tri_set hR (.int .i64 1) (.int .i64 (j : Int)) (.int .i64 (D.size : Int))
    replace hB := SetWalk.set3 (x := .int .i64 1) (y := .int .i64 (j : Int)) (z := .int .i64 (D.size : Int)) hB hG
    generalize ((W6.setCell _ _).setCell _ _).setCell _ _ = W6' at *
    go_wp2_with fail
    go_ret
    exact ⟨rfl, hB⟩
  · obtain rfl : m = 2 := by omega
    replace hm : wrap64 ((IntKind.u64.wrap a0).tmod 6) = 2 := hm
    clear hp hm6 hj
    go_enter Try.func5, Try.ntmps5
    go_upto_region 4 with (first | (go_at_call 15; refine (CW.out _).mono ?_; rintro e w1 ⟨rfl, hb⟩; replace hB := thenB hB hb; clear hb) | (go_at_call 16; refine (CC.out _).mono ?_; rintro e w2 ⟨rfl, hb⟩; replace hB := thenB hB hb; clear hb))
    have hX := sevRM w2 (.int .i64 1) (.string A) (.int .i64 0) (.bool false) (.int .i64 0) (.string ⟨#[]⟩) (.int .i64 0) 23
    have hn := hal w2 (.cells #[.int .i64 1, .string A, .int .i64 0, .bool false, .int .i64 0, .string ⟨#[]⟩, .int .i64 0] 23)
    have hl := hB.size
    replace hB := thenB hB hn
    clear hn CC CW
    generalize w2.alloc _ = W3 at *
    generalize w2.heap.size = G at *
    go_upto_region 7 with fail
    replace hX := HstSet.set3 (HstSet.set2 (HstSet.set0 hX (.int .i64 3)) (.int .i64 (j : Int))) (.bool a2)
    replace hB := ((hB.setCell (p := ⟨G, 0, none⟩) hl (.int .i64 3)).setCell (p := ⟨G, 2, none⟩) hl (.int .i64 (j : Int))).setCell (p := ⟨G, 3, none⟩) hl (.bool a2)
    generalize ((W3.setCell _ _).setCell _ _).setCell _ _ = W4 at *
    clear hm mj
    go_upto_region 9 with (first | (go_at_call 10; refine (CA.out _).mono ?_; rintro e w4 ⟨rfl, hb⟩; replace hB := thenB hB hb; replace hX := sevRB hX hb; clear hb) | (go_at_call 19; refine (CG.out _).mono ?_; rintro e w5 ⟨rfl, hb⟩; replace hB := thenB hB hb; replace hX := sevRB hX hb; clear hb))
    have hY := SetWalk.resM w5 (.int .i64 3) (.int .i64 0) (.int .i64 6) 48
    have hn := hal w5 (.cells #[.int .i64 3, .int .i64 0, .int .i64 6] 48)
    replace hB := thenB hB hn
    replace hX := sevRB hX hn
    clear hn
    generalize w5.alloc _ = W5 at *
    generalize w5.heap.size = G5 at *
    go_upto_region 13 with (go_at_call 12; refine (num_any _ _).mono ?_; rintro e w6 ⟨rfl, rfl⟩)
    have hR := SetWalk.resM w6 (.int .i64 3) (.int .i64 0) (.int .i64 6) 48
    have hn := hal w6 (.cells #[.int .i64 3, .int .i64 0, .int .i64 6] 48)
    have hl5 := hX.1
    have hl6 := hY.1
    replace hB := thenB hB hn
    replace hX := sevRB hX hn
    replace hY := SetWalk.resB hY hn
    clear hn
    generalize w6.alloc _ = W6 at *
    generalize w6.heap.size = G6 at *
    have n1 : ¬ G6 = G := by omega
    have n2 : ¬ G = G6 := by omega
    have n3 : ¬ G6 = G5 := by omega
    have n4 : ¬ G5 = G6 := by omega
    have hG : w.heap.size ≤ G6 := by omega
    clear hl hl5 hl6 CA CG
    go_wp2_with fail
    go_ret
    exact ⟨rfl, hB⟩
  · obtain rfl : m = 4 := by omega
    replace hm : wrap64 ((IntKind.u64.wrap a0).tmod 6) = 4 := hm
    clear hp hm6 hj
    go_enter Try.func5, Try.ntmps5
    go_upto_region 4 with (first | (go_at_call 15; refine (CW.out _).mono ?_; rintro e w1 ⟨rfl, hb⟩; replace hB := thenB hB hb; clear hb) | (go_at_call 16; refine (CC.out _).mono ?_; rintro e w2 ⟨rfl, hb⟩; replace hB := thenB hB hb; clear hb))
    have hX := sevRM w2 (.int .i64 1) (.string A) (.int .i64 0) (.bool false) (.int .i64 0) (.string ⟨#[]⟩) (.int .i64 0) 23
    have hn := hal w2 (.cells #[.int .i64 1, .string A, .int .i64 0, .bool false, .int .i64 0, .string ⟨#[]⟩, .int .i64 0] 23)
    have hl := hB.size
    replace hB := thenB hB hn
    clear hn CC CW
    generalize w2.alloc _ = W3 at *
    generalize w2.heap.size = G at *
    go_upto_region 7 with fail
    replace hX := HstSet.set3 (HstSet.set2 (HstSet.set0 hX (.int .i64 5)) (.int .i64 (j : Int))) (.bool a2)
    replace hB := ((hB.setCell (p := ⟨G, 0, none⟩) hl (.int .i64 5)).setCell (p := ⟨G, 2, none⟩) hl (.int .i64 (j : Int))).setCell (p := ⟨G, 3, none⟩) hl (.bool a2)
    generalize ((W3.setCell _ _).setCell _ _).setCell _ _ = W4 at *
    clear hm mj
    go_upto_region 9 with (first | (go_at_call 10; refine (CA.out _).mono ?_; rintro e w4 ⟨rfl, hb⟩; replace hB := thenB hB hb; replace hX := sevRB hX hb; clear hb) | (go_at_call 19; refine (CG.out _).mono ?_; rintro e w5 ⟨rfl, hb⟩; replace hB := thenB hB hb; replace hX := sevRB hX hb; clear hb))
    have hY := SetWalk.resM w5 (.int .i64 3) (.int .i64 0) (.int .i64 6) 48
    have hn := hal w5 (.cells #[.int .i64 3, .int .i64 0, .int .i64 6] 48)
    replace hB := thenB hB hn
    replace hX := sevRB hX hn
    clear hn
    generalize w5.alloc _ = W5 at *
    generalize w5.heap.size = G5 at *
    go_upto_region 13 with (go_at_call 12; refine (num_any _ _).mono ?_; rintro e w6 ⟨rfl, rfl⟩)
    have hR := SetWalk.resM w6 (.int .i64 3) (.int .i64 0) (.int .i64 6) 48
    have hn := hal w6 (.cells #[.int .i64 3, .int .i64 0, .int .i64 6] 48)
    have hl5 := hX.1
    have hl6 := hY.1
    replace hB := thenB hB hn
    replace hX := sevRB hX hn
    replace hY := SetWalk.resB hY hn
    clear hn
    generalize w6.alloc _ = W6 at *
    generalize w6.heap.size = G6 at *
    have n1 : ¬ G6 = G := by omega
    have n2 : ¬ G = G6 := by omega
    have n3 : ¬ G6 = G5 := by omega
    have n4 : ¬ G5 = G6 := by omega
    have hG : w.heap.size ≤ G6 := by omega
    clear hl hl5 hl6 CA CG
    go_wp2_with fail
    go_ret
    exact ⟨rfl, hB⟩
  · obtain rfl : m = 3 := by omega
    replace hm : wrap64 ((IntKind.u64.wrap a0).tmod 6) = 3 := hm
    clear hp hm6 hj
    go_enter Try.func5, Try.ntmps5
    go_upto_region 4 with (first | (go_at_call 15; refine (CW.out _).mono ?_; rintro e w1 ⟨rfl, hb⟩; replace hB := thenB hB hb; clear hb) | (go_at_call 16; refine (CC.out _).mono ?_; rintro e w2 ⟨rfl, hb⟩; replace hB := thenB hB hb; clear hb))
    have hX := sevRM w2 (.int .i64 1) (.string A) (.int .i64 0) (.bool false) (.int .i64 0) (.string ⟨#[]⟩) (.int .i64 0) 23
    have hn := hal w2 (.cells #[.int .i64 1, .string A, .int .i64 0, .bool false, .int .i64 0, .string ⟨#[]⟩, .int .i64 0] 23)
    have hl := hB.size
    replace hB := thenB hB hn
    clear hn CC CW
    generalize w2.alloc _ = W3 at *
    generalize w2.heap.size = G at *
    go_upto_region 7 with fail
    replace hX := HstSet.set3 (HstSet.set2 (HstSet.set0 hX (.int .i64 4)) (.int .i64 (j : Int))) (.bool a2)
    replace hB := ((hB.setCell (p := ⟨G, 0, none⟩) hl (.int .i64 4)).setCell (p := ⟨G, 2, none⟩) hl (.int .i64 (j : Int))).setCell (p := ⟨G, 3, none⟩) hl (.bool a2)
    generalize ((W3.setCell _ _).setCell _ _).setCell _ _ = W4 at *
    clear hm mj
    go_upto_region 9 with (first | (go_at_call 10; refine (CA.out _).mono ?_; rintro e w4 ⟨rfl, hb⟩; replace hB := thenB hB hb; replace hX := sevRB hX hb; clear hb) | (go_at_call 19; refine (CG.out _).mono ?_; rintro e w5 ⟨rfl, hb⟩; replace hB := thenB hB hb; replace hX := sevRB hX hb; clear hb))
    have hY := SetWalk.resM w5 (.int .i64 1) (.int .i64 (j : Int)) (.int .i64 0) 48
    have hn := hal w5 (.cells #[.int .i64 1, .int .i64 (j : Int), .int .i64 0] 48)
    replace hB := thenB hB hn
    replace hX := sevRB hX hn
    clear hn
    generalize w5.alloc _ = W5 at *
    generalize w5.heap.size = G5 at *
    go_upto_region 13 with (go_at_call 12; refine (num_any _ _).mono ?_; rintro e w6 ⟨rfl, rfl⟩)
    have hR := SetWalk.resM w6 (.int .i64 3) (.int .i64 0) (.int .i64 6) 48
    have hn := hal w6 (.cells #[.int .i64 3, .int .i64 0, .int .i64 6] 48)
    have hl5 := hX.1
    have hl6 := hY.1
    replace hB := thenB hB hn
    replace hX := sevRB hX hn
    replace hY := SetWalk.resB hY hn
    clear hn
    generalize w6.alloc _ = W6 at *
    generalize w6.heap.size = G6 at *
    have n1 : ¬ G6 = G := by omega
    have n2 : ¬ G = G6 := by omega
    have n3 : ¬ G6 = G5 := by omega
    have n4 : ¬ G5 = G6 := by omega
    have hG : w.heap.size ≤ G6 := by omega
    clear hl hl5 hl6 CA CG
    go_upto_region 26 with fail
    replace hX := HstSet.setO3 hX n1 (.int .i64 1) (.int .i64 (j : Int)) (.int .i64 0)
    replace hY := HstSet.tri_other hY n3 (.int .i64 1) (.int .i64 (j : Int)) (.int .i64 0)
    replace hR := HstSet.tri_set hR (.int .i64 1) (.int .i64 (j : Int)) (.int .i64 0)
    replace hB := SetWalk.set3 (x := .int .i64 1) (y := .int .i64 (j : Int)) (z := .int .i64 0) hB hG
    generalize ((W6.setCell _ _).setCell _ _).setCell _ _ = W6' at *
    go_wp2_with fail
    go_ret
    exact ⟨rfl, hB⟩
  · obtain rfl : m = 5 := by omega
    replace hm : wrap64 ((IntKind.u64.wrap a0).tmod 6) = 5 := hm
    clear hp hm6 hj
    go_enter Try.func5, Try.ntmps5
    go_upto_region 4 with (first | (go_at_call 15; refine (CW.out _).mono ?_; rintro e w1 ⟨rfl, hb⟩; replace hB := thenB hB hb; clear hb) | (go_at_call 16; refine (CC.out _).mono ?_; rintro e w2 ⟨rfl, hb⟩; replace hB := thenB hB hb; clear hb))
    have hX := sevRM w2 (.int .i64 1) (.string A) (.int .i64 0) (.bool false) (.int .i64 0) (.string ⟨#[]⟩) (.int .i64 0) 23
    have hn := hal w2 (.cells #[.int .i64 1, .string A, .int .i64 0, .bool false, .int .i64 0, .string ⟨#[]⟩, .int .i64 0] 23)
    have hl := hB.size
    replace hB := thenB hB hn
    clear hn CC CW
    generalize w2.alloc _ = W3 at *
    generalize w2.heap.size = G at *
    go_upto_region 7 with fail
    replace hX := HstSet.set3 (HstSet.set2 (HstSet.set0 hX (.int .i64 6)) (.int .i64 (j : Int))) (.bool a2)
    replace hB := ((hB.setCell (p := ⟨G, 0, none⟩) hl (.int .i64 6)).setCell (p := ⟨G, 2, none⟩) hl (.int .i64 (j : Int))).setCell (p := ⟨G, 3, none⟩) hl (.bool a2)
    generalize ((W3.setCell _ _).setCell _ _).setCell _ _ = W4 at *
    clear hm mj
    go_upto_region 9 with (first | (go_at_call 10; refine (CA.out _).mono ?_; rintro e w4 ⟨rfl, hb⟩; replace hB := thenB hB hb; replace hX := sevRB hX hb; clear hb) | (go_at_call 19; refine (CG.out _).mono ?_; rintro e w5 ⟨rfl, hb⟩; replace hB := thenB hB hb; replace hX := sevRB hX hb; clear hb))
    have hY := SetWalk.resM w5 (.int .i64 2) (.int .i64 (j : Int)) (.int .i64 32) 48
    have hn := hal w5 (.cells #[.int .i64 2, .int .i64 (j : Int), .int .i64 32] 48)
    replace hB := thenB hB hn
    replace hX := sevRB hX hn
    clear hn
    generalize w5.alloc _ = W5 at *
    generalize w5.heap.size = G5 at *
    go_upto_region 13 with (go_at_call 12; refine (num_any _ _).mono ?_; rintro e w6 ⟨rfl, rfl⟩)
    have hR := SetWalk.resM w6 (.int .i64 3) (.int .i64 0) (.int .i64 6) 48
    have hn := hal w6 (.cells #[.int .i64 3, .int .i64 0, .int .i64 6] 48)
    have hl5 := hX.1
    have hl6 := hY.1
    replace hB := thenB hB hn
    replace hX := sevRB hX hn
    replace hY := SetWalk.resB hY hn
    clear hn
    generalize w6.alloc _ = W6 at *
    generalize w6.heap.size = G6 at *
    have n1 : ¬ G6 = G := by omega
    have n2 : ¬ G = G6 := by omega
    have n3 : ¬ G6 = G5 := by omega
    have n4 : ¬ G5 = G6 := by omega
    have hG : w.heap.size ≤ G6 := by omega
    clear hl hl5 hl6 CA CG
    go_upto_region 26 with fail
    replace hX := HstSet.setO3 hX n1 (.int .i64 2) (.int .i64 (j : Int)) (.int .i64 32)
    replace hY := HstSet.tri_other hY n3 (.int .i64 2) (.int .i64 (j : Int)) (.int .i64 32)
    replace hR := HstSet.tri_set hR (.int .i64 2) (.int .i64 (j : Int)) (.int .i64 32)
    replace hB := SetWalk.set3 (x := .int .i64 2) (y := .int .i64 (j : Int)) (z := .int .i64 32) hB hG
    generalize ((W6.setCell _ _).setCell _ _).setCell _ _ = W6' at *
    go_wp2_with fail
    go_ret
    exact ⟨rfl, hB⟩

set_option maxRecDepth 100000 in
theorem lifted (os : Os) (started : os.Started) (H : Type) (enc : TypeId × Value → H) :
    ReturnsInHanded {} Try.checked os 5 .any (Rows.hostAsksSpec.pre6 enc Try.prog Try.f5 Rows.hostAsksRow.domain false) (Rows.hostAsksSpec.post enc Try.prog Try.f5 false true false false) := by
  refine returnsInHanded_of_change (C := Try.checked) own started (by kernel_rfl) Try.func5
    (ChangeSpec.witness6 (enc := enc) (C := Try.checked) false ⟨#[], #[.int .i64 0, .int .i64 0, .bool false], []⟩ 8 (by kernel_rfl) (by kernel_rfl) (by kernel_rfl) (by kernel_rfl)) ?_
  intro W base args ds gs before hval0 hW hcnd _
  have hval : ∀ (j : Nat) t v, Try.f5.params[j]? = some t → args[j]? = some v → Value.okWide Try.prog W .any base t v := hval0
  have hW' := hW
  obtain ⟨p, q, hA0, hV, rfl, hfz, hnd⟩ := hW
  have hA : DataW.TrodAll enc Try.prog W 0 (fun _ => true) true Try.f5.params.toList args.toList ds p := hA0
  rw [Try.params5] at hA hval
  obtain ⟨v0, vs0, d0, ds0, p0, q0, hargs, rfl, rfl, h0, r0⟩ := trodAll_cons hA
  obtain ⟨v1, vs1, d1, ds1, p1, q1, rfl, rfl, rfl, h1, r1⟩ := trodAll_cons r0
  obtain ⟨v2, vs2, d2, ds2, p2, q2, rfl, rfl, rfl, h2, r2⟩ := trodAll_cons r1
  obtain ⟨rfl, rfl, rfl⟩ := trodAll_nil r2
  obtain rfl : args = #[v0, v1, v2] := by cases args; simp_all
  obtain ⟨rfl, rfl⟩ := trodVars_none hV
  obtain ⟨a0, rfl, rfl, rfl, w0⟩ := open_int Try.underlying3 (hval 0 3 v0 rfl rfl) h0
  obtain ⟨a1, rfl, rfl, rfl, w1⟩ := open_int Try.underlying3 (hval 1 3 v1 rfl rfl) h1
  obtain ⟨a2, rfl, rfl, rfl⟩ := open_bool Try.underlying4 (hval 2 4 v2 rfl rfl) h2
  clear hA0 hval0
  refine (walk a0 a1 a2 w0 w1 W).mono fun e W' ⟨he, bel⟩ => ?_
  subst he
  exact ⟨_, rfl, _, _, _, [], _, [], hW', (trodAll_cons_mk (shut_bool Try.underlying4 _) trodAll_mk0), (trodAll_cons_mk (shut_int Try.underlying3 w0) (trodAll_cons_mk (shut_int Try.underlying3 w1) (trodAll_cons_mk (shut_bool Try.underlying4 _) trodAll_mk0))), rfl, bel.frame _, fun h => by cases h⟩

theorem over : Rows.hostAsksRow.holds Try.pinned (OpenSpec.ofChange Rows.hostAsksSpec) :=
  OpenClaim.holds_of_wide 5 Try.f5 rfl rfl rfl rfl rfl rfl rfl ⟨rfl, rfl, rfl, rfl, rfl⟩ rfl rfl rfl rfl rfl (by kernel_rfl) Try.func5 (by kernel_rfl)
    (of_decide_eq_true (by kernel_rfl)) (by unfold Func.isWrapper; first | (rw [if_pos (by decide +kernel)]; kernel_rfl) | (rw [if_neg (by decide +kernel)]; exact ⟨rfl, rfl⟩))
    (fun os started H enc _ => lifted os started H enc)

theorem proved : Rows.HostAsksSaid :=
  over
#print axioms proved
end Go.Proofs.Ythegdhogpjhidaa.hostAsks
