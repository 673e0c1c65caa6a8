/- Whatever the two numbers: the law SuffixForms returns true (images, numbers and files that may not be are refused, each by its own error), and the arguments read as they did; no condition. -/
import Derived.Test.YtkjlmkhanicenaaRows
import Derived.Test.YtkjlmkhanicenaaNorMath
import Derived.Test.YtkjlmkhanicenaaBytes
import Derived.Test.YtkjlmkhanicenaaNorWalk
import Derived.Test.YtkjlmkhanicenaaNorRef
import Derived.Test.YtkjlmkhanicenaaOpsMath
import Derived.Test.YtkjlmkhanicenaaOpsRow
import Derived.Test.YtkjlmkhanicenaaCrcMath
import Derived.Test.YtkjlmkhanicenaaCrcSum
import Derived.Test.YtkjlmkhanicenaaCrcAwake
import Derived.Test.YtkjlmkhanicenaaEntMath
import Derived.Test.YtkjlmkhanicenaaEntRow
import Derived.Test.YtkjlmkhanicenaaEntLow
import Derived.Test.YtkjlmkhanicenaaEntWalk
import Derived.Test.YtkjlmkhanicenaaEntRef
import Derived.Test.YtkjlmkhanicenaaImgClone
import Derived.Test.YtkjlmkhanicenaaSufMath
import Derived.Test.YtkjlmkhanicenaaSufWalk
import Derived.Test.YtkjlmkhanicenaaSufAwake
import Derived.BigQuiet
import Derived.Deep.Cut
import Derived.Deep.RegionHeld3
import Derived.ChangeOld
import Derived.Below
import Derived.WalkKit
import Derived.ProofKit
import Derived.OpenShut
import Derived.ShutString
namespace Go.Proofs.Ytkjlmkhanicenaa.suffixForms
open Go.ChangeShapes Go.WideShapes Go.ChangeAt Go.RowKit
open Go.ChangeMaps (open_string shut_string)
set_option linter.unusedVariables false

open Go.Proofs.Ytkjlmkhanicenaa.Bytes
open Go.Proofs.Ytkjlmkhanicenaa.NorWalk
open Go.Proofs.Ytkjlmkhanicenaa.EntLow
open Go.Proofs.Ytkjlmkhanicenaa.Suf
open Go.Proofs.Ytkjlmkhanicenaa.SufWalk
open Go.Proofs.Ytkjlmkhanicenaa.SufAwake
theorem own : ownKnob Try.prog.godebug = none := by kernel_rfl

open Go.Proofs.Ytkjlmkhanicenaa.OpsRow (boxM boxB boxD thenD)
def zeros (n : Nat) : ByteArray := ⟨(List.replicate n 0).toArray⟩
theorem size_zeros (n : Nat) : (zeros n).size = n := by unfold zeros; rw [size_mk, List.length_replicate]
theorem hal (w : World) (o : Obj) : Below w.heap.size w (w.alloc o) := (Below.refl _ w).alloc (Nat.le_refl _) o
theorem text_at {w : World} {B n m : Nat} (h : Row w B (List.replicate n 0)) (hm : m = B) : (convert 38 9 (.slice (some ⟨m, 0, none⟩) n n)).run Try.prog w = .ok (.string (zeros n)) w := by
  subst hm
  exact h.text (P := Try.prog) _ _ 5 n n (by rw [List.length_replicate]) Try.underlying38 Try.underlying5 Try.underlying9
theorem text_z1 (w : World) (n : Nat) : (convert 38 9 (.slice (some ⟨w.heap.size, 0, none⟩) n n)).run Try.prog (w.alloc (.cells (madeBytes n) 5)).drew = .ok (.string (zeros n)) (w.alloc (.cells (madeBytes n) 5)).drew := text_at (row_made w 5 n).drew rfl
theorem text_z2 (w : World) (n : Nat) (o : Obj) : (convert 38 9 (.slice (some ⟨w.heap.size, 0, none⟩) n n)).run Try.prog ((w.alloc (.cells (madeBytes n) 5)).alloc o).drew = .ok (.string (zeros n)) ((w.alloc (.cells (madeBytes n) 5)).alloc o).drew := text_at ((row_made w 5 n).below (hal _ o) (by simp)).drew rfl
theorem text_z3 (w : World) (n : Nat) (o : Obj) : (convert 38 9 (.slice (some ⟨w.heap.size + 1, 0, none⟩) n n)).run Try.prog ((w.alloc o).alloc (.cells (madeBytes n) 5)).drew = .ok (.string (zeros n)) ((w.alloc o).alloc (.cells (madeBytes n) 5)).drew := text_at (row_made (w.alloc o) 5 n).drew (by simp)
/-- The byte '1 + y' is none that leaves. -/
def oneMore (y : Nat) : UInt8 := UInt8.ofNat (1 + y)
theorem oneMore_nat (y : Nat) (h : y ≤ 127) : (1 + (y : Int)) = ((oneMore y).toNat : Int) := by
  unfold oneMore
  rw [UInt8.toNat_ofNat']
  omega
theorem oneMore_ne (y : Nat) (h : y ≤ 127) : ¬ oneMore y = 0 := fun e => by
  have := oneMore_nat y h
  rw [e, show (((0 : UInt8).toNat : Nat) : Int) = 0 from rfl] at this
  omega
/-- A text, its byte k turned by c. -/
def turnL (l : List UInt8) (k : Nat) (c : UInt8) : List UInt8 := l.set k (l.getD k 0 ^^^ c)
def turnS (f : ByteArray) (k : Nat) (c : UInt8) : ByteArray := ⟨(turnL f.data.toList k c).toArray⟩
theorem turned_is (f : ByteArray) (k : Nat) (c : UInt8) (hk : k < f.size) (hc : ¬ c = 0) : Turned f (turnS f k c) k (f.data.toList.getD k 0 ^^^ c) := by
  have hl : k < f.data.toList.length := by rw [Nor.size_list]; exact hk
  refine ⟨by unfold turnS turnL; simp, hl, fun e => hc ?_⟩
  rw [List.getD_eq_getElem?_getD, List.getElem?_eq_getElem hl, Option.getD_some] at e
  exact Crc.xor_self_zero _ c e.symm
theorem boxSet {w : World} {B C k : Nat} {x y z v : Value} (h : B < w.heap.size ∧ w.cell? ⟨B, 0, none⟩ = some x ∧ w.cell? ⟨B, 1, none⟩ = some y ∧ w.cell? ⟨B, 2, none⟩ = some z) (hne : B < C) :
    B < (w.setCell ⟨C, k, none⟩ v).heap.size ∧ (w.setCell ⟨C, k, none⟩ v).cell? ⟨B, 0, none⟩ = some x ∧ (w.setCell ⟨C, k, none⟩ v).cell? ⟨B, 1, none⟩ = some y ∧ (w.setCell ⟨C, k, none⟩ v).cell? ⟨B, 2, none⟩ = some z := by
  obtain ⟨h0, h1, h2, h3⟩ := h
  have ne : ∀ i, (⟨C, k, none⟩ : Addr) ≠ ⟨B, i, none⟩ := fun i hc => by injection hc; omega
  refine ⟨by simp [World.setCell]; omega, ?_, ?_, ?_⟩
  · rw [World.cell?_setCell_other w _ _ _ (ne 0)]; exact h1
  · rw [World.cell?_setCell_other w _ _ _ (ne 1)]; exact h2
  · rw [World.cell?_setCell_other w _ _ _ (ne 2)]; exact h3
theorem ok2 : bldOk imageS 1 2 3 = true := by decide
theorem bad1 (v : Int) (w : World) : (Instr.build 23 #[(0, .int .i64 v)]).run Try.prog w = .ok (.agg #[.int .i64 v, .int .i64 0, .int .i64 0]) w := run_build w 23 _ _ (by kernel_rfl)
theorem bad2 (v : Int) (w : World) : (Instr.build 23 #[(1, .int .i64 v)]).run Try.prog w = .ok (.agg #[.int .i64 0, .int .i64 v, .int .i64 0]) w := run_build w 23 _ _ (by kernel_rfl)
theorem bad3 (v : Int) (w : World) : (Instr.build 23 #[(2, .int .i64 v)]).run Try.prog w = .ok (.agg #[.int .i64 0, .int .i64 0, .int .i64 v]) w := run_build w 23 _ _ (by kernel_rfl)
theorem good3 (w : World) : (Instr.build 23 #[(0, .int .i64 1), (1, .int .i64 2), (2, .int .i64 3)]).run Try.prog w = .ok (.agg #[.int .i64 1, .int .i64 2, .int .i64 3]) w := run_build w 23 _ _ (by kernel_rfl)
/-- The numbers that may not be: whichever is taken, the image's file is refused. -/
theorem bads (w : World) (e : TypeId) (M E : Int) (hM : M < 0) (hE : 65535 < E) (n : Nat) (hn : n < 3) : ∃ v p r, (w.alloc (.cells #[.int .i64 M, .int .i64 0, .int .i64 0, .int .i64 0, .int .i64 E, .int .i64 0, .int .i64 0, .int .i64 0, .int .i64 M] e)).cell? ⟨w.heap.size, n * 3, none⟩ = some (.int .i64 v) ∧ (w.alloc (.cells #[.int .i64 M, .int .i64 0, .int .i64 0, .int .i64 0, .int .i64 E, .int .i64 0, .int .i64 0, .int .i64 0, .int .i64 M] e)).cell? ⟨w.heap.size, n * 3 + 1, none⟩ = some (.int .i64 p) ∧ (w.alloc (.cells #[.int .i64 M, .int .i64 0, .int .i64 0, .int .i64 0, .int .i64 E, .int .i64 0, .int .i64 0, .int .i64 0, .int .i64 M] e)).cell? ⟨w.heap.size, n * 3 + 2, none⟩ = some (.int .i64 r) ∧ bldOk imageS v p r = false := by
  rcases (by omega : n = 0 ∨ n = 1 ∨ n = 2) with rfl | rfl | rfl
  · refine ⟨M, 0, 0, by rw [World.cell?_alloc_at _ e _ _ rfl]; rfl, by rw [World.cell?_alloc_at _ e _ _ rfl]; rfl, by rw [World.cell?_alloc_at _ e _ _ rfl]; rfl, ?_⟩
    cases h : bldOk imageS M 0 0 with
    | false => rfl
    | true => have := bldOk_parts.1 h; omega
  · refine ⟨0, E, 0, by rw [World.cell?_alloc_at _ e _ _ rfl]; rfl, by rw [World.cell?_alloc_at _ e _ _ rfl]; rfl, by rw [World.cell?_alloc_at _ e _ _ rfl]; rfl, ?_⟩
    cases h : bldOk imageS 0 E 0 with
    | false => rfl
    | true => have := bldOk_parts.1 h; omega
  · refine ⟨0, 0, M, by rw [World.cell?_alloc_at _ e _ _ rfl]; rfl, by rw [World.cell?_alloc_at _ e _ _ rfl]; rfl, by rw [World.cell?_alloc_at _ e _ _ rfl]; rfl, ?_⟩
    cases h : bldOk imageS 0 0 M with
    | false => rfl
    | true => have := bldOk_parts.1 h; omega
set_option maxRecDepth 100000 in
set_option maxHeartbeats 4000000 in
theorem walk (a0 : Int) (a1 : Int) (w0 : (Lit.int .i64 a0).wf = true) (w1 : (Lit.int .i64 a1).wf = true) (w : World) :
    Calls Try.prog 5 #[.int .i64 a0, .int .i64 a1] w fun e w' => e = .returned (.bool true) ∧ Below w.heap.size w w' := by
  have HA := hide awake_any
  obtain ⟨k, hk, mk⟩ : ∃ k : Nat, k ≤ 1023 ∧ bits .and .i64 a1 1023 = (k : Int) := mask_i64 a1 1023 (by omega)
  obtain ⟨n, hn, mn⟩ : ∃ k : Nat, k < 3 ∧ wrap64 ((IntKind.u64.wrap a0).tmod 3) = (k : Int) := mod_u64 a0 3 (by omega) (by omega)
  obtain ⟨D, hD⟩ : ∃ D : Nat, D = 1 + k := ⟨_, rfl⟩
  have hD1 : (1 : Int) + (k : Int) = (D : Int) := by omega
  obtain ⟨E, hE⟩ : ∃ E : Nat, E = 65535 + D := ⟨_, rfl⟩
  have hE1 : (65535 : Int) + (D : Int) = (E : Int) := by omega
  obtain ⟨F, hF⟩ : ∃ F : Nat, F = 288 + D := ⟨_, rfl⟩
  have hF1 : (288 : Int) + (D : Int) = (F : Int) := by omega
  have hF2 : IntKind.i64.wrap (F : Int) = (F : Int) := by rw [IntKind.wrap_i64]; omega
  have hmd : ∀ w : World, (Instr.makeSlice 38 (.int .i64 (F : Int)) (.int .i64 (F : Int))).run Try.prog w = .ok (.slice (some ⟨w.heap.size, 0, none⟩) F F) (w.alloc (.cells (madeBytes F) 5)) := fun w => run_make_bytes (P := Try.prog) w 38 5 Try.underlying38 info_u8 F (by omega)
  have htd := fun w => text_z1 w F
  have htd2 := fun w o => text_z2 w F o
  have htd3 := fun w o => text_z3 w F o
  have CZ := hide fun w => build_no (zeros F) 1 2 3 w (by
    cases h : bldOk (zeros F) 1 2 3 with
    | false => rfl
    | true => have := bldOk_parts.1 h; rw [size_zeros] at this; omega)
  have HZ := hide (size_zeros F)
  have hF3 : 288 < F := by omega
  have hF4 : F ≤ 1312 := by omega
  generalize zeros F = Z at *
  have CB := hide fun w => build_yes imageS 1 2 3 w ok2
  have hS : parB (fileS imageS 1 2 3) = true := (parse_build ok2).1
  have zS : (fileS imageS 1 2 3).size = 21 := size_fileS ok2
  generalize fileS imageS 1 2 3 = S at *
  obtain ⟨q, hq, mq⟩ : ∃ k : Nat, k < 6 ∧ wrap64 ((IntKind.u64.wrap a0).tmod 6) = (k : Int) := mod_u64 a0 6 (by omega) (by omega)
  obtain ⟨j, hj⟩ : ∃ j : Nat, j = 11 + q := ⟨_, rfl⟩
  have hj1 : (11 : Int) + (q : Int) = (j : Int) := by omega
  have hj2 : j < 17 := by omega
  obtain ⟨i, hi, mi⟩ : ∃ k : Nat, k < 11 ∧ wrap64 ((IntKind.u64.wrap a1).tmod 11) = (k : Int) := mod_u64 a1 11 (by omega) (by omega)
  obtain ⟨y, hy, my⟩ : ∃ k : Nat, k ≤ 127 ∧ bits .and .i64 a1 127 = (k : Int) := mask_i64 a1 127 (by omega)
  obtain ⟨z, hz, mz⟩ : ∃ k : Nat, k ≤ 127 ∧ bits .and .i64 a0 127 = (k : Int) := mask_i64 a0 127 (by omega)
  have t1 := turned_is S j (oneMore y) (by omega) (oneMore_ne y hy)
  have t2 := turned_is S i (oneMore z) (by omega) (oneMore_ne z hz)
  have C1 := hide fun w => parse_err (turned_mark hS t1 (by omega) (by omega)) (by decide) (by rw [t1.size]; omega) w
  have C4 := hide fun w => parse_err (turned_sum hS t2 (.inl (by omega))) (by decide) (by rw [t2.size]; omega) w
  have e5 : (S.extract 5 S.size).size = 16 := by rw [ByteArray.size_extract]; omega
  have C2 := hide fun w => parse_err (errQ_far (s := S.extract 5 S.size) (.inl (by omega))) (by decide) (by omega) w
  have C3 := hide fun w => parse_err (errQ_far (s := Z ++ S.extract 5 S.size) (.inr (by rw [ByteArray.size_append, e5, HZ.out]; omega))) (by decide) (by rw [ByteArray.size_append, e5, HZ.out]; omega) w
  have C5 := hide fun w => CrcAwake.ref_any (S.extract 0 17) w (by rw [ByteArray.size_extract]; omega)
  have cO := fun w => EntRef.num_of (S.extract 17 S.size) w (by rw [ByteArray.size_extract]; omega)
  have hsum : EntWalk.numS (S.extract 17 S.size) = ((Crc.sum (S.extract 0 17).data.toList : Nat) : Int) := by
    have h := sum_parts.1 (par_parts.1 hS).2
    rw [zS] at h
    unfold EntWalk.numS
    rw [zS]
    exact congrArg Int.ofNat h
  rw [hsum] at cO
  have C6 := hide cO
  clear cO hsum
  generalize ((Crc.sum (S.extract 0 17).data.toList : Nat) : Int) = N at *
  have n1 : ¬ 9223372036854775807 < Z.size + (S.size - 5) := by rw [HZ.out]; omega
  have y5 : (5 : Int) ≤ (S.size : Int) := by omega
  have HY := hide (oneMore_nat y hy)
  have HY2 := hide (oneMore_nat z hz)
  have z1 : S.size ≤ 21 := by omega
  have z2 : 21 ≤ S.size := by omega
  have z3 : ((S.size : Int) != 21) = false := by rw [zS]; rfl
  clear t1 t2 zS hS e5 hj hq
  have g1 := bad1
  have g2 := bad2
  have g3 := bad3
  have g4 := good3
  have hD2 : 1 ≤ D := by omega
  have hD3 : D ≤ 1024 := by omega
  have hE2 : 65535 < (E : Int) := by omega
  have hM2 : -(D : Int) < 0 := by omega
  have HE2 := hide hE2
  have HM2 := hide hM2
  have hM1 : wrap64 (-(D : Int)) = -(D : Int) := by unfold wrap64; omega
  clear hD hE hE2 hM2 hk hF
  go_enter Try.func5, Try.ntmps5
  go_upto_region 5 with (go_at_call 13; refine (HA.out _).mono ?_; rintro e w1 ⟨rfl, hb1⟩)
  have hX := boxM w1 (.int .i64 1) (.int .i64 2) (.int .i64 3) 23
  have hB := thenB hb1 (hal w1 (.cells #[.int .i64 1, .int .i64 2, .int .i64 3] 23))
  generalize w1.alloc (.cells #[.int .i64 1, .int .i64 2, .int .i64 3] 23) = W1 at *
  generalize w1.heap.size = X at *
  obtain ⟨v, p, r, hc0, hc1, hc2, hno⟩ := bads W1 23 (-(D : Int)) (E : Int) HM2.out HE2.out n hn
  have CN := hide fun w => build_no imageS v p r w hno
  clear hno hb1 HA HE2 HM2
  go_upto_region 6 with fail
  have hY := boxM (W1.alloc (.cells #[.int .i64 (-(D : Int)), .int .i64 0, .int .i64 0, .int .i64 0, .int .i64 (E : Int), .int .i64 0, .int .i64 0, .int .i64 0, .int .i64 (-(D : Int))] 23)) (.int .i64 v) (.int .i64 p) (.int .i64 r) 23
  rw [show (W1.alloc (.cells #[.int .i64 (-(D : Int)), .int .i64 0, .int .i64 0, .int .i64 0, .int .i64 (E : Int), .int .i64 0, .int .i64 0, .int .i64 0, .int .i64 (-(D : Int))] 23)).heap.size = W1.heap.size + 1 from by simp] at hY
  replace hX := boxB (boxB hX (hal W1 (.cells #[.int .i64 (-(D : Int)), .int .i64 0, .int .i64 0, .int .i64 0, .int .i64 (E : Int), .int .i64 0, .int .i64 0, .int .i64 0, .int .i64 (-(D : Int))] 23))) (hal _ (.cells #[.int .i64 v, .int .i64 p, .int .i64 r] 23))
  replace hB := thenB (thenB hB (hal W1 (.cells #[.int .i64 (-(D : Int)), .int .i64 0, .int .i64 0, .int .i64 0, .int .i64 (E : Int), .int .i64 0, .int .i64 0, .int .i64 0, .int .i64 (-(D : Int))] 23))) (hal _ (.cells #[.int .i64 v, .int .i64 p, .int .i64 r] 23))
  generalize (W1.alloc (.cells #[.int .i64 (-(D : Int)), .int .i64 0, .int .i64 0, .int .i64 0, .int .i64 (E : Int), .int .i64 0, .int .i64 0, .int .i64 0, .int .i64 (-(D : Int))] 23)).alloc (.cells #[.int .i64 v, .int .i64 p, .int .i64 r] 23) = W2 at *
  generalize W1.heap.size + 1 = Y at *
  clear hc0 hc1 hc2 g1 g2 g3 g4 hM1 mn mk hE1 hD1
  go_upto_region 7 with (go_at_call 8; refine (CN.out _).mono ?_; rintro e w2 ⟨rfl, hb2⟩)
  replace hX := boxB hX hb2
  replace hB := thenB hB hb2
  clear hb2 hY CN
  go_region_held (fun W => W.cell? ⟨X, 0, none⟩ = some (.int .i64 1) ∧ W.cell? ⟨X, 1, none⟩ = some (.int .i64 2) ∧ W.cell? ⟨X, 2, none⟩ = some (.int .i64 3)) (go_keep) (first | (go_at_call 8; refine (CZ.out _).mono ?_; rintro e w3 ⟨rfl, hb3⟩; replace hB := thenB (thenB hB (hal _ _)).drew hb3; replace hX := boxB (boxB (boxB hX (hal _ _)) (Below.refl _ _).drew) hb3; clear hb3))
  have HMD := hide hmd
  have HT1 := hide htd
  have HT2 := hide htd2
  have HT3 := hide htd3
  clear hmd htd htd2 htd3 CZ
  have hcv := fun w => run_bytes_of_string (P := Try.prog) w 9 38 5 S Try.underlying9 Try.underlying38 Try.underlying5
  go_upto_region 13 with (go_at_call 8; refine (CB.out _).mono ?_; rintro e w4 ⟨rfl, hb4⟩)
  replace hB := thenB hB hb4
  clear hb4 hX CB hcv mq
  have hrow := (row_of_string w4 5 S _ (grownCap_ge w4 S.size 0 5)).drew
  have hbel := ((Below.refl w4.heap.size w4).alloc (Nat.le_refl _) (Obj.cells (bytesRow S (grownCap w4 S.size 0 5)) 5 ((bytesRow S (grownCap w4 S.size 0 5)).size, (bytesRow S (grownCap w4 S.size 0 5)).size + 1))).drew
  have s0 := hB.size
  replace hB := thenB hB hbel
  clear hbel
  generalize (w4.alloc (Obj.cells (bytesRow S (grownCap w4 S.size 0 5)) 5 ((bytesRow S (grownCap w4 S.size 0 5)).size, (bytesRow S (grownCap w4 S.size 0 5)).size + 1))).drew = V4 at *
  generalize grownCap w4 S.size 0 5 = cap4 at *
  generalize w4.heap.size = B4 at *
  have hl : S.data.toList.length = S.size := Nor.size_list S
  have hc := hrow.cell j (by omega)
  have hfr := hrow.free j (by omega)
  have HC : Hid (S.data.toList[j]'(by omega) = S.data.toList.getD j 0) := by show _ = _; rw [List.getD_eq_getElem?_getD, List.getElem?_eq_getElem (by omega)]; rfl
  rw [HC.out] at hc
  have HL := hide hl
  clear hl HC
  generalize hcd : S.data.toList.getD j 0 = c4 at hc
  have HC := hide hcd
  clear hcd
  have next : ∀ v : Int, v = ((c4 ^^^ oneMore y).toNat : Int) → Row (V4.setCell ⟨B4, j, none⟩ (.int .u8 v)) B4 (turnL S.data.toList j (oneMore y)) := by
    rintro v rfl
    show Row _ _ (S.data.toList.set j (S.data.toList.getD j 0 ^^^ oneMore y))
    rw [HC.out]
    exact hrow.set j _ (by rw [HL.out]; omega)
  have HN := hide next
  clear next hrow
  go_upto_region 14 with fail
  have hrow := HN.out (bits .xor .u8 (c4.toNat : Int) (1 + (y : Int))) (by rw [HY.out, xor_u8])
  replace hB := hB.setCell (p := ⟨B4, j, none⟩) s0 (.int .u8 (bits .xor .u8 (c4.toNat : Int) (1 + (y : Int))))
  generalize V4.setCell ⟨B4, j, none⟩ (.int .u8 (bits .xor .u8 (c4.toNat : Int) (1 + (y : Int)))) = U4 at *
  have hcv := hrow.text (P := Try.prog) 38 9 5 cap4 S.size (by unfold turnL; rw [List.length_set, HL.out]) Try.underlying38 Try.underlying5 Try.underlying9
  replace hcv : (convert 38 9 (.slice (some ⟨B4, 0, none⟩) S.size cap4)).run Try.prog U4 = .ok (.string (turnS S j (oneMore y))) U4 := hcv
  clear hrow HN HC HL hc hfr HY s0
  go_upto_region 15 with (go_at_call 10; refine (C1.out _).mono ?_; rintro e w5 ⟨rfl, hb5⟩)
  replace hB := thenB (thenB hB hb5) (hal w5 (.cells #[.int .i64 0, .int .i64 0, .int .i64 0] 23))
  clear hb5 hcv C1 my hj1 hj2
  generalize w5.alloc (.cells #[.int .i64 0, .int .i64 0, .int .i64 0] 23) = W5 at *
  generalize w5.heap.size = G5 at *
  go_upto_region 16 with (go_at_call 10; refine (C2.out _).mono ?_; rintro e w6 ⟨rfl, hb6⟩)
  replace hB := thenB (thenB hB hb6) (hal w6 (.cells #[.int .i64 0, .int .i64 0, .int .i64 0] 23))
  clear hb6 C2
  generalize w6.alloc (.cells #[.int .i64 0, .int .i64 0, .int .i64 0] 23) = W6 at *
  generalize w6.heap.size = G6 at *
  have hmd := HMD.out
  have htd := HT1.out
  have htd2 := HT2.out
  have htd3 := HT3.out
  clear HMD HT1 HT2 HT3
  have s6 := hB.size
  go_cut [24] from 29 (fun s24 wx => Below w.heap.size w wx ∧ s24 = .int .i64 1100)
  case first =>
    clear C4 C5 C6 HY2 mi mz
    go_region_held (fun _ => True) (trivial) (first | (go_at_call 10; refine (C3.out _).mono ?_; rintro e w7 ⟨rfl, hb7⟩; first | (replace hB := thenB (thenB (thenB hB (hal _ (.cells #[.int .i64 0, .int .i64 0, .int .i64 0] 23))) (hal _ (.cells (madeBytes F) 5))).drew hb7; have hR := resB (resB (resB (resM W6 (.int .i64 0) (.int .i64 0) (.int .i64 0) 23) (hal _ (.cells (madeBytes F) 5))) (Below.refl _ _).drew) hb7; clear hb7) | (replace hB := thenB (thenB (thenB hB (hal _ (.cells (madeBytes F) 5))) (hal _ (.cells #[.int .i64 0, .int .i64 0, .int .i64 0] 23))).drew hb7; have hR := resB (resB (resM (W6.alloc (.cells (madeBytes F) 5)) (.int .i64 0) (.int .i64 0) (.int .i64 0) 23) (Below.refl _ _).drew) hb7; rw [show (W6.alloc (.cells (madeBytes F) 5)).heap.size = W6.heap.size + 1 from by simp] at hR; clear hb7) | (replace hB := thenB (thenB hB (hal _ (.cells (madeBytes F) 5))).drew hb7; clear hb7)))
    all_goals go_wp2_with fail
    all_goals go_meet
    all_goals refine ⟨?_, rfl⟩
    all_goals first
      | exact set3 hB s6
      | exact set3 hB (Nat.le_succ_of_le s6)
      | exact hB.alloc hB.size _
  case rest =>
    obtain ⟨hB2, rfl⟩ := hcut
    clear hB hmd htd htd2 htd3 C3 s6 n1 HZ y5 hF1 hF2 hF3 hF4
    have hB := hB2
    clear hB2
    have hcv := fun w => run_bytes_of_string (P := Try.prog) w 9 38 5 S Try.underlying9 Try.underlying38 Try.underlying5
    go_upto_region 19 with fail
    rw [mi]
    clear hcv mi
    have hrow := (row_of_string wc 5 S _ (grownCap_ge wc S.size 0 5)).drew
    have hbel := ((Below.refl wc.heap.size wc).alloc (Nat.le_refl _) (Obj.cells (bytesRow S (grownCap wc S.size 0 5)) 5 ((bytesRow S (grownCap wc S.size 0 5)).size, (bytesRow S (grownCap wc S.size 0 5)).size + 1))).drew
    have s0 := hB.size
    replace hB := thenB hB hbel
    clear hbel
    generalize (wc.alloc (Obj.cells (bytesRow S (grownCap wc S.size 0 5)) 5 ((bytesRow S (grownCap wc S.size 0 5)).size, (bytesRow S (grownCap wc S.size 0 5)).size + 1))).drew = V8 at *
    generalize grownCap wc S.size 0 5 = cap8 at *
    generalize wc.heap.size = B8 at *
    have hl : S.data.toList.length = S.size := Nor.size_list S
    have hc := hrow.cell i (by omega)
    have hfr := hrow.free i (by omega)
    have HC : Hid (S.data.toList[i]'(by omega) = S.data.toList.getD i 0) := by show _ = _; rw [List.getD_eq_getElem?_getD, List.getElem?_eq_getElem (by omega)]; rfl
    rw [HC.out] at hc
    have HL := hide hl
    clear hl HC
    generalize hcd : S.data.toList.getD i 0 = c8 at hc
    have HC := hide hcd
    clear hcd
    have next : ∀ v : Int, v = ((c8 ^^^ oneMore z).toNat : Int) → Row (V8.setCell ⟨B8, i, none⟩ (.int .u8 v)) B8 (turnL S.data.toList i (oneMore z)) := by
      rintro v rfl
      show Row _ _ (S.data.toList.set i (S.data.toList.getD i 0 ^^^ oneMore z))
      rw [HC.out]
      exact hrow.set i _ (by rw [HL.out]; omega)
    have HN := hide next
    clear next hrow
    go_upto_region 20 with fail
    have hrow := HN.out (bits .xor .u8 (c8.toNat : Int) (1 + (z : Int))) (by rw [HY2.out, xor_u8])
    replace hB := hB.setCell (p := ⟨B8, i, none⟩) s0 (.int .u8 (bits .xor .u8 (c8.toNat : Int) (1 + (z : Int))))
    generalize V8.setCell ⟨B8, i, none⟩ (.int .u8 (bits .xor .u8 (c8.toNat : Int) (1 + (z : Int)))) = U8 at *
    have hcv := hrow.text (P := Try.prog) 38 9 5 cap8 S.size (by unfold turnL; rw [List.length_set, HL.out]) Try.underlying38 Try.underlying5 Try.underlying9
    replace hcv : (convert 38 9 (.slice (some ⟨B8, 0, none⟩) S.size cap8)).run Try.prog U8 = .ok (.string (turnS S i (oneMore z))) U8 := hcv
    clear hrow HN HC HL hc hfr HY2 s0
    go_upto_region 21 with (go_at_call 10; refine (C4.out _).mono ?_; rintro e w9 ⟨rfl, hb9⟩)
    replace hB := thenB (thenB hB hb9) (hal w9 (.cells #[.int .i64 0, .int .i64 0, .int .i64 0] 23))
    clear hb9 hcv C4 mz
    generalize w9.alloc (.cells #[.int .i64 0, .int .i64 0, .int .i64 0] 23) = W9 at *
    go_wp2_with (first | (go_at_call 14; refine (C5.out _).mono ?_; rintro e w' ⟨rfl, rfl⟩) | (go_at_call 15; refine (C6.out _).mono ?_; rintro e w' ⟨rfl, rfl⟩) | (go_at_call 12; refine (num_any _ _).mono ?_; rintro e w' ⟨rfl, rfl⟩))
    go_ret
    exact ⟨rfl, hB⟩

set_option maxRecDepth 100000 in
theorem lifted (os : Os) (started : os.Started) (H : Type) (enc : TypeId × Value → H) :
    ReturnsInHanded {} Try.checked os 5 .any (Rows.suffixFormsSpec.pre6 enc Try.prog Try.f5 Rows.suffixFormsRow.domain false) (Rows.suffixFormsSpec.post enc Try.prog Try.f5 false true false false) := by
  refine returnsInHanded_of_change (C := Try.checked) own started (by kernel_rfl) Try.func5
    (ChangeSpec.witness6 (enc := enc) (C := Try.checked) false ⟨#[], #[.int .i64 0, .int .i64 0], []⟩ 8 (by kernel_rfl) (by kernel_rfl) (by kernel_rfl) (by kernel_rfl)) ?_
  intro W base args ds gs before hval0 hW hcnd _
  have hval : ∀ (j : Nat) t v, Try.f5.params[j]? = some t → args[j]? = some v → Value.okWide Try.prog W .any base t v := hval0
  have hW' := hW
  obtain ⟨p, q, hA0, hV, rfl, hfz, hnd⟩ := hW
  have hA : DataW.TrodAll enc Try.prog W 0 (fun _ => true) true Try.f5.params.toList args.toList ds p := hA0
  rw [Try.params5] at hA hval
  obtain ⟨v0, vs0, d0, ds0, p0, q0, hargs, rfl, rfl, h0, r0⟩ := trodAll_cons hA
  obtain ⟨v1, vs1, d1, ds1, p1, q1, rfl, rfl, rfl, h1, r1⟩ := trodAll_cons r0
  obtain ⟨rfl, rfl, rfl⟩ := trodAll_nil r1
  obtain rfl : args = #[v0, v1] := by cases args; simp_all
  obtain ⟨rfl, rfl⟩ := trodVars_none hV
  obtain ⟨a0, rfl, rfl, rfl, w0⟩ := open_int Try.underlying3 (hval 0 3 v0 rfl rfl) h0
  obtain ⟨a1, rfl, rfl, rfl, w1⟩ := open_int Try.underlying3 (hval 1 3 v1 rfl rfl) h1
  clear hA0 hval0
  refine (walk a0 a1 w0 w1 W).mono fun e W' ⟨he, bel⟩ => ?_
  subst he
  exact ⟨_, rfl, _, _, _, [], _, [], hW', (trodAll_cons_mk (shut_bool Try.underlying4 _) trodAll_mk0), (trodAll_cons_mk (shut_int Try.underlying3 w0) (trodAll_cons_mk (shut_int Try.underlying3 w1) trodAll_mk0)), rfl, bel.frame _, fun h => by cases h⟩

theorem over : Rows.suffixFormsRow.holds Try.pinned (OpenSpec.ofChange Rows.suffixFormsSpec) :=
  OpenClaim.holds_of_wide 5 Try.f5 rfl rfl rfl rfl rfl rfl rfl ⟨rfl, rfl, rfl, rfl, rfl⟩ rfl rfl rfl rfl rfl (by kernel_rfl) Try.func5 (by kernel_rfl)
    (of_decide_eq_true (by kernel_rfl)) (by unfold Func.isWrapper; first | (rw [if_pos (by decide +kernel)]; kernel_rfl) | (rw [if_neg (by decide +kernel)]; exact ⟨rfl, rfl⟩))
    (fun os started H enc _ => lifted os started H enc)

theorem proved : Rows.SuffixFormsSaid :=
  over
#print axioms proved
end Go.Proofs.Ytkjlmkhanicenaa.suffixForms
