/- Whatever the two numbers and the bool: the law ReplyLost returns true (where a host goes when nothing comes), and the arguments read as they did; no condition. -/
import Derived.Test.YtgkmallikomnaabRows
import Derived.Test.YtgkmallikomnaabBagNor
import Derived.Test.YtgkmallikomnaabBagOps
import Derived.Test.YtgkmallikomnaabBagSuf
import Derived.Test.YtgkmallikomnaabBagSet
import Derived.Test.YtgkmallikomnaabBagHst
import Derived.Test.YtgkmallikomnaabBagHsr
import Derived.Test.YtgkmallikomnaabRepMath
import Derived.Test.YtgkmallikomnaabRepRef
import Derived.Test.YtgkmallikomnaabRepTake
import Derived.Test.YtgkmallikomnaabRepWalk
import Derived.Test.YtgkmallikomnaabRepAwake
import Derived.Laws.StructEq
import Derived.Deep.Cut
import Derived.ChangeOld
import Derived.Below
import Derived.WalkKit
import Derived.ProofKit
import Derived.OpenShut
import Derived.ShutString
namespace Go.Proofs.Ytgkmallikomnaab.replyLost
open Go.ChangeShapes Go.WideShapes Go.ChangeAt Go.RowKit
open Go.ChangeMaps (open_string shut_string)
set_option linter.unusedVariables false

open Go.Proofs.Ytgkmallikomnaab.Bytes
open Go.Proofs.Ytgkmallikomnaab.Hst
open Go.Proofs.Ytgkmallikomnaab.HstWalk
open Go.Proofs.Ytgkmallikomnaab.HstAsk
open Go.Proofs.Ytgkmallikomnaab.HstCarry
open Go.Proofs.Ytgkmallikomnaab.Rep
open Go.Proofs.Ytgkmallikomnaab.RepTake
open Go.Proofs.Ytgkmallikomnaab.RepWalk
open Go.Proofs.Ytgkmallikomnaab.RepAwake
theorem own : ownKnob Try.prog.godebug = none := by kernel_rfl

open Go.Proofs.Ytgkmallikomnaab.IdtWalk (num_any)
theorem build_rlst (a b : Bool) (s : ByteArray) (w : World) : (Instr.build 31 #[(0, .bool a), (1, .bool b), (2, .string s)]).run Try.prog w = .ok (.agg #[.bool a, .bool b, .string s]) w := run_build w 31 _ _ (by kernel_rfl)
theorem lost_is {h : FHost} (st : Bool) (t : ByteArray) (g : okH h = true) (ho : overB h = false) : takeH h true st t = goneH h := by
  rw [take_ok _ _ _ g]
  show lostH h = _
  unfold lostH
  rw [ho]
  rfl
set_option maxRecDepth 100000 in
set_option maxHeartbeats 8000000 in
theorem walk (a0 : Int) (a1 : Bool) (a2 : Int) (w0 : (Lit.int .i64 a0).wf = true) (w2 : (Lit.int .i64 a2).wf = true) (w : World) :
    Calls Try.prog 3 #[.int .i64 a0, .bool a1, .int .i64 a2] w fun e w' => e = .returned (.bool true) ∧ Below w.heap.size w w' := by
  have hB := Below.refl w.heap.size w
  obtain ⟨m, hm6, hm⟩ : ∃ k : Nat, k < 6 ∧ wrap64 ((IntKind.u64.wrap a0).tmod 6) = (k : Int) := mod_u64 a0 6 (by omega) (by omega)
  obtain ⟨j, hj, mj⟩ : ∃ k : Nat, k ≤ 7 ∧ bits .and .i64 a2 7 = (k : Int) := mask_i64 a2 7 (by omega)
  have b1 := build_rlst
  have CW := hide (fun w => awake_any w)
  have CC := hide (fun w => carrying23_any 40 w (by decide) (by decide))
  have gk : ∀ p : Int, 1 ≤ p ∧ p ≤ 6 → okH ⟨p, iotaS 40, 1, a1, j, ⟨#[]⟩, 0⟩ = true := fun p hp => ok_carry hp (by decide) ⟨by decide, by decide⟩ ⟨by omega, by omega⟩ (by decide)
  have go : ∀ p : Int, overB ⟨p, iotaS 40, 1, a1, j, ⟨#[]⟩, 0⟩ = false := fun p => over_not.2 (by show ¬ 8 ≤ (j : Int); omega)
  have CT := hide (fun (p : Int) (hp : 1 ≤ p ∧ p ≤ 6) w => took (t := ⟨#[120, 121, 122]⟩) (gk p hp) (lost_is a1 _ (gk p hp) (go p)) (by decide) w)
  have hj0 : (0 : Int) ≤ (j : Int) := by omega
  have hj7 : (j : Int) ≤ 7 := by omega
  clear gk go
  obtain rfl | rfl | rfl | rfl | rfl | rfl : m = 0 ∨ m = 1 ∨ m = 2 ∨ m = 3 ∨ m = 4 ∨ m = 5 := by omega
  · replace hm : wrap64 ((IntKind.u64.wrap a0).tmod 6) = 0 := hm
    have CU := hide (CT.out 1 (by decide))
    rw [show goneH ⟨1, iotaS 40, 1, a1, j, ⟨#[]⟩, 0⟩ = ⟨1, iotaS 40, 0, false, (j : Int) + 1, ⟨#[]⟩, 0⟩ from rfl] at CU
    unfold Taken at CU
    dsimp only at CU
    clear CT
    generalize iotaS 40 = A at *
    go_enter Try.func3, Try.ntmps3
    go_upto_region 4 with (first | (go_at_call 4; refine (CW.out _).mono ?_; rintro e1 w1 ⟨rfl, hb⟩; replace hB := thenB hB hb; clear hb) | (go_at_call 5; refine (CC.out _).mono ?_; rintro e1 w2 ⟨rfl, hb⟩; replace hB := thenB hB hb; clear hb))
    have hX := sevRM w2 (.int .i64 1) (.string A) (.int .i64 0) (.bool false) (.int .i64 0) (.string ⟨#[]⟩) (.int .i64 0) 24
    have hn := hal w2 (.cells #[.int .i64 1, .string A, .int .i64 0, .bool false, .int .i64 0, .string ⟨#[]⟩, .int .i64 0] 24)
    have hl := hB.size
    replace hB := thenB hB hn
    clear hn CW CC
    generalize w2.alloc _ = W3 at *
    generalize w2.heap.size = G1 at *
    go_upto_region 8 with fail
    replace hX := HstSet.set4 (HstSet.set2 (HstSet.set3 (HstSet.set0 hX (.int .i64 1)) (.bool a1)) (.int .i64 1)) (.int .i64 j)
    replace hB := (((hB.setCell (p := ⟨G1, 0, none⟩) hl (.int .i64 1)).setCell (p := ⟨G1, 3, none⟩) hl (.bool a1)).setCell (p := ⟨G1, 2, none⟩) hl (.int .i64 1)).setCell (p := ⟨G1, 4, none⟩) hl (.int .i64 j)
    generalize (((W3.setCell _ _).setCell _ _).setCell _ _).setCell _ _ = W4 at *
    clear hl hm mj
    go_upto_region 9 with (go_at_call 6; refine (CU.out _).mono ?_; rintro e1 w5 ⟨rfl, hb⟩; replace hB := thenB hB hb; replace hX := sevRB hX hb; clear hb)
    have hY := sevRM w5 (.int .i64 1) (.string A) (.int .i64 0) (.bool false) (.int .i64 ((j : Int) + 1)) (.string ⟨#[]⟩) (.int .i64 0) 24
    have hn := hal w5 (.cells #[.int .i64 1, .string A, .int .i64 0, .bool false, .int .i64 ((j : Int) + 1), .string ⟨#[]⟩, .int .i64 0] 24)
    replace hB := thenB hB hn
    replace hX := sevRB hX hn
    clear hn CU
    generalize w5.alloc _ = W5 at *
    generalize w5.heap.size = G5 at *
    go_wp2_with (go_at_call 7; refine (num_any _ _).mono ?_; rintro e1 w' ⟨rfl, rfl⟩)
    go_ret
    exact ⟨rfl, hB⟩
  · replace hm : wrap64 ((IntKind.u64.wrap a0).tmod 6) = 1 := hm
    have CU := hide (CT.out 2 (by decide))
    rw [show goneH ⟨2, iotaS 40, 1, a1, j, ⟨#[]⟩, 0⟩ = ⟨3, iotaS 40, 1, true, (j : Int) + 1, ⟨#[]⟩, 0⟩ from rfl] at CU
    unfold Taken at CU
    dsimp only at CU
    clear CT
    generalize iotaS 40 = A at *
    go_enter Try.func3, Try.ntmps3
    go_upto_region 4 with (first | (go_at_call 4; refine (CW.out _).mono ?_; rintro e1 w1 ⟨rfl, hb⟩; replace hB := thenB hB hb; clear hb) | (go_at_call 5; refine (CC.out _).mono ?_; rintro e1 w2 ⟨rfl, hb⟩; replace hB := thenB hB hb; clear hb))
    have hX := sevRM w2 (.int .i64 1) (.string A) (.int .i64 0) (.bool false) (.int .i64 0) (.string ⟨#[]⟩) (.int .i64 0) 24
    have hn := hal w2 (.cells #[.int .i64 1, .string A, .int .i64 0, .bool false, .int .i64 0, .string ⟨#[]⟩, .int .i64 0] 24)
    have hl := hB.size
    replace hB := thenB hB hn
    clear hn CW CC
    generalize w2.alloc _ = W3 at *
    generalize w2.heap.size = G1 at *
    go_upto_region 8 with fail
    replace hX := HstSet.set4 (HstSet.set2 (HstSet.set3 (HstSet.set0 hX (.int .i64 2)) (.bool a1)) (.int .i64 1)) (.int .i64 j)
    replace hB := (((hB.setCell (p := ⟨G1, 0, none⟩) hl (.int .i64 2)).setCell (p := ⟨G1, 3, none⟩) hl (.bool a1)).setCell (p := ⟨G1, 2, none⟩) hl (.int .i64 1)).setCell (p := ⟨G1, 4, none⟩) hl (.int .i64 j)
    generalize (((W3.setCell _ _).setCell _ _).setCell _ _).setCell _ _ = W4 at *
    clear hl hm mj
    go_upto_region 9 with (go_at_call 6; refine (CU.out _).mono ?_; rintro e1 w5 ⟨rfl, hb⟩; replace hB := thenB hB hb; replace hX := sevRB hX hb; clear hb)
    have hY := sevRM w5 (.int .i64 3) (.string A) (.int .i64 1) (.bool true) (.int .i64 ((j : Int) + 1)) (.string ⟨#[]⟩) (.int .i64 0) 24
    have hn := hal w5 (.cells #[.int .i64 3, .string A, .int .i64 1, .bool true, .int .i64 ((j : Int) + 1), .string ⟨#[]⟩, .int .i64 0] 24)
    replace hB := thenB hB hn
    replace hX := sevRB hX hn
    clear hn CU
    generalize w5.alloc _ = W5 at *
    generalize w5.heap.size = G5 at *
    go_wp2_with (go_at_call 7; refine (num_any _ _).mono ?_; rintro e1 w' ⟨rfl, rfl⟩)
    go_ret
    exact ⟨rfl, hB⟩
  · replace hm : wrap64 ((IntKind.u64.wrap a0).tmod 6) = 2 := hm
    have CU := hide (CT.out 3 (by decide))
    rw [show goneH ⟨3, iotaS 40, 1, a1, j, ⟨#[]⟩, 0⟩ = ⟨3, iotaS 40, 1, a1, (j : Int) + 1, ⟨#[]⟩, 0⟩ from rfl] at CU
    unfold Taken at CU
    dsimp only at CU
    clear CT
    generalize iotaS 40 = A at *
    go_enter Try.func3, Try.ntmps3
    go_upto_region 4 with (first | (go_at_call 4; refine (CW.out _).mono ?_; rintro e1 w1 ⟨rfl, hb⟩; replace hB := thenB hB hb; clear hb) | (go_at_call 5; refine (CC.out _).mono ?_; rintro e1 w2 ⟨rfl, hb⟩; replace hB := thenB hB hb; clear hb))
    have hX := sevRM w2 (.int .i64 1) (.string A) (.int .i64 0) (.bool false) (.int .i64 0) (.string ⟨#[]⟩) (.int .i64 0) 24
    have hn := hal w2 (.cells #[.int .i64 1, .string A, .int .i64 0, .bool false, .int .i64 0, .string ⟨#[]⟩, .int .i64 0] 24)
    have hl := hB.size
    replace hB := thenB hB hn
    clear hn CW CC
    generalize w2.alloc _ = W3 at *
    generalize w2.heap.size = G1 at *
    go_upto_region 8 with fail
    replace hX := HstSet.set4 (HstSet.set2 (HstSet.set3 (HstSet.set0 hX (.int .i64 3)) (.bool a1)) (.int .i64 1)) (.int .i64 j)
    replace hB := (((hB.setCell (p := ⟨G1, 0, none⟩) hl (.int .i64 3)).setCell (p := ⟨G1, 3, none⟩) hl (.bool a1)).setCell (p := ⟨G1, 2, none⟩) hl (.int .i64 1)).setCell (p := ⟨G1, 4, none⟩) hl (.int .i64 j)
    generalize (((W3.setCell _ _).setCell _ _).setCell _ _).setCell _ _ = W4 at *
    clear hl hm mj
    go_upto_region 9 with (go_at_call 6; refine (CU.out _).mono ?_; rintro e1 w5 ⟨rfl, hb⟩; replace hB := thenB hB hb; replace hX := sevRB hX hb; clear hb)
    have hY := sevRM w5 (.int .i64 3) (.string A) (.int .i64 1) (.bool a1) (.int .i64 ((j : Int) + 1)) (.string ⟨#[]⟩) (.int .i64 0) 24
    have hn := hal w5 (.cells #[.int .i64 3, .string A, .int .i64 1, .bool a1, .int .i64 ((j : Int) + 1), .string ⟨#[]⟩, .int .i64 0] 24)
    replace hB := thenB hB hn
    replace hX := sevRB hX hn
    clear hn CU
    generalize w5.alloc _ = W5 at *
    generalize w5.heap.size = G5 at *
    go_wp2_with (go_at_call 7; refine (num_any _ _).mono ?_; rintro e1 w' ⟨rfl, rfl⟩)
    go_ret
    exact ⟨rfl, hB⟩
  · replace hm : wrap64 ((IntKind.u64.wrap a0).tmod 6) = 3 := hm
    have CU := hide (CT.out 4 (by decide))
    rw [show goneH ⟨4, iotaS 40, 1, a1, j, ⟨#[]⟩, 0⟩ = ⟨5, iotaS 40, 1, true, (j : Int) + 1, ⟨#[]⟩, 0⟩ from rfl] at CU
    unfold Taken at CU
    dsimp only at CU
    clear CT
    generalize iotaS 40 = A at *
    go_enter Try.func3, Try.ntmps3
    go_upto_region 4 with (first | (go_at_call 4; refine (CW.out _).mono ?_; rintro e1 w1 ⟨rfl, hb⟩; replace hB := thenB hB hb; clear hb) | (go_at_call 5; refine (CC.out _).mono ?_; rintro e1 w2 ⟨rfl, hb⟩; replace hB := thenB hB hb; clear hb))
    have hX := sevRM w2 (.int .i64 1) (.string A) (.int .i64 0) (.bool false) (.int .i64 0) (.string ⟨#[]⟩) (.int .i64 0) 24
    have hn := hal w2 (.cells #[.int .i64 1, .string A, .int .i64 0, .bool false, .int .i64 0, .string ⟨#[]⟩, .int .i64 0] 24)
    have hl := hB.size
    replace hB := thenB hB hn
    clear hn CW CC
    generalize w2.alloc _ = W3 at *
    generalize w2.heap.size = G1 at *
    go_upto_region 8 with fail
    replace hX := HstSet.set4 (HstSet.set2 (HstSet.set3 (HstSet.set0 hX (.int .i64 4)) (.bool a1)) (.int .i64 1)) (.int .i64 j)
    replace hB := (((hB.setCell (p := ⟨G1, 0, none⟩) hl (.int .i64 4)).setCell (p := ⟨G1, 3, none⟩) hl (.bool a1)).setCell (p := ⟨G1, 2, none⟩) hl (.int .i64 1)).setCell (p := ⟨G1, 4, none⟩) hl (.int .i64 j)
    generalize (((W3.setCell _ _).setCell _ _).setCell _ _).setCell _ _ = W4 at *
    clear hl hm mj
    go_upto_region 9 with (go_at_call 6; refine (CU.out _).mono ?_; rintro e1 w5 ⟨rfl, hb⟩; replace hB := thenB hB hb; replace hX := sevRB hX hb; clear hb)
    have hY := sevRM w5 (.int .i64 5) (.string A) (.int .i64 1) (.bool true) (.int .i64 ((j : Int) + 1)) (.string ⟨#[]⟩) (.int .i64 0) 24
    have hn := hal w5 (.cells #[.int .i64 5, .string A, .int .i64 1, .bool true, .int .i64 ((j : Int) + 1), .string ⟨#[]⟩, .int .i64 0] 24)
    replace hB := thenB hB hn
    replace hX := sevRB hX hn
    clear hn CU
    generalize w5.alloc _ = W5 at *
    generalize w5.heap.size = G5 at *
    go_wp2_with (go_at_call 7; refine (num_any _ _).mono ?_; rintro e1 w' ⟨rfl, rfl⟩)
    go_ret
    exact ⟨rfl, hB⟩
  · replace hm : wrap64 ((IntKind.u64.wrap a0).tmod 6) = 4 := hm
    have CU := hide (CT.out 5 (by decide))
    rw [show goneH ⟨5, iotaS 40, 1, a1, j, ⟨#[]⟩, 0⟩ = ⟨5, iotaS 40, 1, a1, (j : Int) + 1, ⟨#[]⟩, 0⟩ from rfl] at CU
    unfold Taken at CU
    dsimp only at CU
    clear CT
    generalize iotaS 40 = A at *
    go_enter Try.func3, Try.ntmps3
    go_upto_region 4 with (first | (go_at_call 4; refine (CW.out _).mono ?_; rintro e1 w1 ⟨rfl, hb⟩; replace hB := thenB hB hb; clear hb) | (go_at_call 5; refine (CC.out _).mono ?_; rintro e1 w2 ⟨rfl, hb⟩; replace hB := thenB hB hb; clear hb))
    have hX := sevRM w2 (.int .i64 1) (.string A) (.int .i64 0) (.bool false) (.int .i64 0) (.string ⟨#[]⟩) (.int .i64 0) 24
    have hn := hal w2 (.cells #[.int .i64 1, .string A, .int .i64 0, .bool false, .int .i64 0, .string ⟨#[]⟩, .int .i64 0] 24)
    have hl := hB.size
    replace hB := thenB hB hn
    clear hn CW CC
    generalize w2.alloc _ = W3 at *
    generalize w2.heap.size = G1 at *
    go_upto_region 8 with fail
    replace hX := HstSet.set4 (HstSet.set2 (HstSet.set3 (HstSet.set0 hX (.int .i64 5)) (.bool a1)) (.int .i64 1)) (.int .i64 j)
    replace hB := (((hB.setCell (p := ⟨G1, 0, none⟩) hl (.int .i64 5)).setCell (p := ⟨G1, 3, none⟩) hl (.bool a1)).setCell (p := ⟨G1, 2, none⟩) hl (.int .i64 1)).setCell (p := ⟨G1, 4, none⟩) hl (.int .i64 j)
    generalize (((W3.setCell _ _).setCell _ _).setCell _ _).setCell _ _ = W4 at *
    clear hl hm mj
    go_upto_region 9 with (go_at_call 6; refine (CU.out _).mono ?_; rintro e1 w5 ⟨rfl, hb⟩; replace hB := thenB hB hb; replace hX := sevRB hX hb; clear hb)
    have hY := sevRM w5 (.int .i64 5) (.string A) (.int .i64 1) (.bool a1) (.int .i64 ((j : Int) + 1)) (.string ⟨#[]⟩) (.int .i64 0) 24
    have hn := hal w5 (.cells #[.int .i64 5, .string A, .int .i64 1, .bool a1, .int .i64 ((j : Int) + 1), .string ⟨#[]⟩, .int .i64 0] 24)
    replace hB := thenB hB hn
    replace hX := sevRB hX hn
    clear hn CU
    generalize w5.alloc _ = W5 at *
    generalize w5.heap.size = G5 at *
    go_wp2_with (go_at_call 7; refine (num_any _ _).mono ?_; rintro e1 w' ⟨rfl, rfl⟩)
    go_ret
    exact ⟨rfl, hB⟩
  · replace hm : wrap64 ((IntKind.u64.wrap a0).tmod 6) = 5 := hm
    have CU := hide (CT.out 6 (by decide))
    rw [show goneH ⟨6, iotaS 40, 1, a1, j, ⟨#[]⟩, 0⟩ = ⟨1, iotaS 40, 1, true, (j : Int) + 1, ⟨#[33]⟩, 0⟩ from rfl] at CU
    unfold Taken at CU
    dsimp only at CU
    clear CT
    generalize iotaS 40 = A at *
    go_enter Try.func3, Try.ntmps3
    go_upto_region 4 with (first | (go_at_call 4; refine (CW.out _).mono ?_; rintro e1 w1 ⟨rfl, hb⟩; replace hB := thenB hB hb; clear hb) | (go_at_call 5; refine (CC.out _).mono ?_; rintro e1 w2 ⟨rfl, hb⟩; replace hB := thenB hB hb; clear hb))
    have hX := sevRM w2 (.int .i64 1) (.string A) (.int .i64 0) (.bool false) (.int .i64 0) (.string ⟨#[]⟩) (.int .i64 0) 24
    have hn := hal w2 (.cells #[.int .i64 1, .string A, .int .i64 0, .bool false, .int .i64 0, .string ⟨#[]⟩, .int .i64 0] 24)
    have hl := hB.size
    replace hB := thenB hB hn
    clear hn CW CC
    generalize w2.alloc _ = W3 at *
    generalize w2.heap.size = G1 at *
    go_upto_region 8 with fail
    replace hX := HstSet.set4 (HstSet.set2 (HstSet.set3 (HstSet.set0 hX (.int .i64 6)) (.bool a1)) (.int .i64 1)) (.int .i64 j)
    replace hB := (((hB.setCell (p := ⟨G1, 0, none⟩) hl (.int .i64 6)).setCell (p := ⟨G1, 3, none⟩) hl (.bool a1)).setCell (p := ⟨G1, 2, none⟩) hl (.int .i64 1)).setCell (p := ⟨G1, 4, none⟩) hl (.int .i64 j)
    generalize (((W3.setCell _ _).setCell _ _).setCell _ _).setCell _ _ = W4 at *
    clear hl hm mj
    go_upto_region 9 with (go_at_call 6; refine (CU.out _).mono ?_; rintro e1 w5 ⟨rfl, hb⟩; replace hB := thenB hB hb; replace hX := sevRB hX hb; clear hb)
    have hY := sevRM w5 (.int .i64 1) (.string A) (.int .i64 1) (.bool true) (.int .i64 ((j : Int) + 1)) (.string ⟨#[33]⟩) (.int .i64 0) 24
    have hn := hal w5 (.cells #[.int .i64 1, .string A, .int .i64 1, .bool true, .int .i64 ((j : Int) + 1), .string ⟨#[33]⟩, .int .i64 0] 24)
    replace hB := thenB hB hn
    replace hX := sevRB hX hn
    clear hn CU
    generalize w5.alloc _ = W5 at *
    generalize w5.heap.size = G5 at *
    go_wp2_with (go_at_call 7; refine (num_any _ _).mono ?_; rintro e1 w' ⟨rfl, rfl⟩)
    go_ret
    exact ⟨rfl, hB⟩

set_option maxRecDepth 100000 in
theorem lifted (os : Os) (started : os.Started) (H : Type) (enc : TypeId × Value → H) :
    ReturnsInHanded {} Try.checked os 3 .any (Rows.replyLostSpec.pre6 enc Try.prog Try.f3 Rows.replyLostRow.domain false) (Rows.replyLostSpec.post enc Try.prog Try.f3 false true false false) := by
  refine returnsInHanded_of_change (C := Try.checked) own started (by kernel_rfl) Try.func3
    (ChangeSpec.witness6 (enc := enc) (C := Try.checked) false ⟨#[], #[.int .i64 0, .bool false, .int .i64 0], []⟩ 8 (by kernel_rfl) (by kernel_rfl) (by kernel_rfl) (by kernel_rfl)) ?_
  intro W base args ds gs before hval0 hW hcnd _
  have hval : ∀ (j : Nat) t v, Try.f3.params[j]? = some t → args[j]? = some v → Value.okWide Try.prog W .any base t v := hval0
  have hW' := hW
  obtain ⟨p, q, hA0, hV, rfl, hfz, hnd⟩ := hW
  have hA : DataW.TrodAll enc Try.prog W 0 (fun _ => true) true Try.f3.params.toList args.toList ds p := hA0
  rw [Try.params3] at hA hval
  obtain ⟨v0, vs0, d0, ds0, p0, q0, hargs, rfl, rfl, h0, r0⟩ := trodAll_cons hA
  obtain ⟨v1, vs1, d1, ds1, p1, q1, rfl, rfl, rfl, h1, r1⟩ := trodAll_cons r0
  obtain ⟨v2, vs2, d2, ds2, p2, q2, rfl, rfl, rfl, h2, r2⟩ := trodAll_cons r1
  obtain ⟨rfl, rfl, rfl⟩ := trodAll_nil r2
  obtain rfl : args = #[v0, v1, v2] := by cases args; simp_all
  obtain ⟨rfl, rfl⟩ := trodVars_none hV
  obtain ⟨a0, rfl, rfl, rfl, w0⟩ := open_int Try.underlying3 (hval 0 3 v0 rfl rfl) h0
  obtain ⟨a1, rfl, rfl, rfl⟩ := open_bool Try.underlying4 (hval 1 4 v1 rfl rfl) h1
  obtain ⟨a2, rfl, rfl, rfl, w2⟩ := open_int Try.underlying3 (hval 2 3 v2 rfl rfl) h2
  clear hA0 hval0
  refine (walk a0 a1 a2 w0 w2 W).mono fun e W' ⟨he, bel⟩ => ?_
  subst he
  exact ⟨_, rfl, _, _, _, [], _, [], hW', (trodAll_cons_mk (shut_bool Try.underlying4 _) trodAll_mk0), (trodAll_cons_mk (shut_int Try.underlying3 w0) (trodAll_cons_mk (shut_bool Try.underlying4 _) (trodAll_cons_mk (shut_int Try.underlying3 w2) trodAll_mk0))), rfl, bel.frame _, fun h => by cases h⟩

theorem over : Rows.replyLostRow.holds Try.pinned (OpenSpec.ofChange Rows.replyLostSpec) :=
  OpenClaim.holds_of_wide 3 Try.f3 rfl rfl rfl rfl rfl rfl rfl ⟨rfl, rfl, rfl, rfl, rfl⟩ rfl rfl rfl rfl rfl (by kernel_rfl) Try.func3 (by kernel_rfl)
    (of_decide_eq_true (by kernel_rfl)) (by unfold Func.isWrapper; first | (rw [if_pos (by decide +kernel)]; kernel_rfl) | (rw [if_neg (by decide +kernel)]; exact ⟨rfl, rfl⟩))
    (fun os started H enc _ => lifted os started H enc)

theorem proved : Rows.ReplyLostSaid :=
  over
#print axioms proved
end Go.Proofs.Ytgkmallikomnaab.replyLost
