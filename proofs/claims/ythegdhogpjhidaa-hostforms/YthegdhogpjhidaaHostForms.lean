/- Whatever the two numbers: the law HostForms returns true (hosts, ids that may not be ask and begin nothing; who rests asks nothing), and the arguments read as they did; no condition. -/
import Derived.Test.YthegdhogpjhidaaRows
import Derived.Test.YthegdhogpjhidaaBagNor
import Derived.Test.YthegdhogpjhidaaBagOps
import Derived.Test.YthegdhogpjhidaaBagSuf
import Derived.Test.YthegdhogpjhidaaBagSet
import Derived.Test.YthegdhogpjhidaaHstMath
import Derived.Test.YthegdhogpjhidaaHstWalk
import Derived.Test.YthegdhogpjhidaaHstAsk
import Derived.Test.YthegdhogpjhidaaHstHost
import Derived.Test.YthegdhogpjhidaaHstRef
import Derived.Test.YthegdhogpjhidaaHstRefs
import Derived.Test.YthegdhogpjhidaaHstCarry
import Derived.Test.YthegdhogpjhidaaHstSet
import Derived.Test.YthegdhogpjhidaaHstAwake
import Derived.Test.YthegdhogpjhidaaHstMore
import Derived.Laws.StructEq
import Derived.Deep.Cut
import Derived.ChangeOld
import Derived.Below
import Derived.WalkKit
import Derived.ProofKit
import Derived.OpenShut
import Derived.ShutString
namespace Go.Proofs.Ythegdhogpjhidaa.hostForms
open Go.ChangeShapes Go.WideShapes Go.ChangeAt Go.RowKit
open Go.ChangeMaps (open_string shut_string)
set_option linter.unusedVariables false

open Go.Proofs.Ythegdhogpjhidaa.Bytes
open Go.Proofs.Ythegdhogpjhidaa.Suf
open Go.Proofs.Ythegdhogpjhidaa.Hst
open Go.Proofs.Ythegdhogpjhidaa.HstWalk
open Go.Proofs.Ythegdhogpjhidaa.HstAsk
open Go.Proofs.Ythegdhogpjhidaa.HstHost
open Go.Proofs.Ythegdhogpjhidaa.HstCarry
open Go.Proofs.Ythegdhogpjhidaa.HstAwake
open Go.Proofs.Ythegdhogpjhidaa.HstMore
theorem own : ownKnob Try.prog.godebug = none := by kernel_rfl

open Go.Proofs.Ythegdhogpjhidaa.IdtWalk (num_any)
open Go.Proofs.Ythegdhogpjhidaa.NorRef (info_u8)
def zeros (n : Nat) : ByteArray := ⟨(List.replicate n 0).toArray⟩
theorem size_zeros (n : Nat) : (zeros n).size = n := by unfold zeros; rw [size_mk, List.length_replicate]
theorem text_zeros (w : World) (n : Nat) : (convert 41 9 (.slice (some ⟨w.heap.size, 0, none⟩) n n)).run Try.prog (w.alloc (.cells (madeBytes n) 5)) = .ok (.string (zeros n)) (w.alloc (.cells (madeBytes n) 5)) :=
  (row_made w 5 n).text (P := Try.prog) _ _ 5 n n (by rw [List.length_replicate]) Try.underlying41 Try.underlying5 Try.underlying9
theorem ask_bad {ph : Int} {im : ByteArray} {bl tr : Int} {rd : ByteArray} {rp : Int} (h : hostB ph im bl tr rd rp = false) : askB ph im bl tr rd rp = false := by unfold askB; rw [h]; rfl
theorem may_is {ph : Int} {im : ByteArray} {bl : Int} {ag : Bool} {tr : Int} {rd : ByteArray} {rp : Int} {b : Bool} (h : hostB ph im bl tr rd rp = b) (w : World) : Calls Try.prog 13 #[.agg #[.int .i64 ph, .string im, .int .i64 bl, .bool ag, .int .i64 tr, .string rd, .int .i64 rp]] w fun e w' => e = .returned (.bool b) ∧ Below w.heap.size w w' := by
  subst h
  exact hmay_any ph im bl ag tr rd rp w
theorem nP_40 : Blo.nP (iotaS 40) = 2 := by rw [nP_iota]
theorem good40 {q : Int} (h : q = 1 ∨ q = 0 ∨ q = 7) : hostB q (iotaS 40) 0 0 ⟨#[]⟩ 0 = true := by
  rw [host_parts, size_iotaS]
  exact ⟨by omega, by omega, by decide, by decide, by decide, .inl (by decide), by decide, by omega, by decide, by decide, by decide⟩
theorem rest40 {q : Int} (h : q = 0 ∨ q = 7) : askB q (iotaS 40) 0 0 ⟨#[]⟩ 0 = false := by
  unfold askB restB
  rw [decide_eq_true h]
  exact Bool.and_false _
theorem bad0 (d : Int) (h : 1 ≤ d) : hostB (-d) (iotaS 40) 0 0 ⟨#[]⟩ 0 = false := host_no (by omega)
theorem bad1 (d : Int) (h : 1 ≤ d) : hostB (7 + d) (iotaS 40) 0 0 ⟨#[]⟩ 0 = false := host_no (by omega)
theorem bad2 (d : Int) (h : 1 ≤ d) : hostB 1 (iotaS 40) 0 0 ⟨#[]⟩ (3 + d) = false := host_no (by omega)
theorem bad3 (d : Int) (h : 1 ≤ d) : hostB 1 ⟨#[]⟩ 0 0 ⟨#[]⟩ 0 = false := by decide
theorem bad4 (d : Int) (h : 1 ≤ d) (D : Nat) (hD : 288 + d = (D : Int)) : hostB 1 (zeros D) 0 0 ⟨#[]⟩ 0 = false := host_no (by rw [size_zeros]; omega)
theorem bad5 (d : Int) (h : 1 ≤ d) : hostB 1 (iotaS 40) (2 + d) 0 ⟨#[]⟩ 0 = false := host_no (by rw [nP_40]; omega)
theorem bad6 (d : Int) (h : 1 ≤ d) : hostB 1 (iotaS 40) (-d) 0 ⟨#[]⟩ 0 = false := host_no (by omega)
theorem bad7 (d : Int) (h : 1 ≤ d) : hostB 1 (iotaS 40) 0 (8 + d) ⟨#[]⟩ 0 = false := host_no (by omega)
theorem bad8 (d : Int) (h : 1 ≤ d) : hostB 1 (iotaS 40) 0 (-d) ⟨#[]⟩ 0 = false := host_no (by omega)
theorem bad9 (d : Int) (h : 1 ≤ d) (D : Nat) (hD : 320 + d = (D : Int)) : hostB 1 (iotaS 40) 0 0 (zeros D) 0 = false := host_no (by rw [size_zeros]; omega)
theorem bad10 (d : Int) (h : 1 ≤ d) : hostB 1 (iotaS 40) 0 0 ⟨#[]⟩ (-d) = false := host_no (by omega)
theorem bad11 (d : Int) (h : 1 ≤ d) : hostB 1 ((iotaS 40).extract 0 32) 2 0 ⟨#[]⟩ 0 = false := host_no (by
  unfold Blo.nP
  rw [ByteArray.size_extract, size_iotaS]
  omega)
theorem ids_neg (d : Int) (h : 1 ≤ d) : idsB (-d) 0 0 = false := by
  cases e : idsB (-d) 0 0 with
  | false => rfl
  | true => have := idsB_parts.1 e; omega
theorem ids_big (d : Int) (h : 1 ≤ d) : idsB (65535 + d) 0 0 = false := by
  cases e : idsB (65535 + d) 0 0 with
  | false => rfl
  | true => have := idsB_parts.1 e; omega
set_option maxRecDepth 100000 in
set_option maxHeartbeats 40000000 in
theorem walk (a0 : Int) (a1 : Int) (w0 : (Lit.int .i64 a0).wf = true) (w1 : (Lit.int .i64 a1).wf = true) (w : World) :
    Calls Try.prog 4 #[.int .i64 a0, .int .i64 a1] w fun e w' => e = .returned (.bool true) ∧ Below w.heap.size w w' := by
  have hB := Below.refl w.heap.size w
  obtain ⟨k, hk, mk⟩ : ∃ k : Nat, k ≤ 1023 ∧ bits .and .i64 a1 1023 = (k : Int) := mask_i64 a1 1023 (by omega)
  obtain ⟨e, he, me⟩ : ∃ k : Nat, k ≤ 1 ∧ bits .and .i64 a0 1 = (k : Int) := mask_i64 a0 1 (by omega)
  have eu : IntKind.u64.wrap a0 = a0 % 18446744073709551616 := by simp [IntKind.wrap, IntKind.bits, IntKind.signed]
  obtain ⟨n, hn, mn⟩ : ∃ k : Nat, k < 12 ∧ (IntKind.u64.wrap a0).tmod 12 = (k : Int) := by
    rw [eu, Int.tmod_eq_emod_of_nonneg (by omega)]
    exact ⟨(a0 % 18446744073709551616 % 12).toNat, by omega, by omega⟩
  clear eu
  have b0 := build_h0
  have b1 := build_v
  have CW := hide (fun w => HstAwake.awake_any w)
  have CC := hide (fun w => carrying22_any 40 w (by decide) (by decide))
  have CI := hide (fun w => ids22_any w)
  have CF := hide (fun w => SufRef.refBuild_any imgS 1155 57105 512 w)
  rw [img_ok] at CF
  obtain ⟨d, hd⟩ : ∃ d : Int, 1 + (k : Int) = d := ⟨_, rfl⟩
  have hd1 : 1 ≤ d := by omega
  have hd2 : d ≤ 1024 := by omega
  have CSn := hide (fun w => start_no (f := fileS imgS 1155 57105 512) (v := -d) (p := 0) (r := 0) (file_small img_ok) (ids_neg d hd1) w)
  have CSb := hide (fun w => start_no (f := fileS imgS 1155 57105 512) (v := 65535 + d) (p := 0) (r := 0) (file_small img_ok) (ids_big d hd1) w)
  have CG := hide (fun w => may_is (ag := false) (good40 (q := 1) (.inl rfl)) w)
  have CR0 := hide (fun w => asks_not (ag := false) (rest40 (q := 0) (.inl rfl)) w)
  have CR7 := hide (fun w => asks_not (ag := false) (rest40 (q := 7) (.inr rfl)) w)
  have CM0 := hide (fun w => may_is (ag := false) (good40 (q := 0) (.inr (.inl rfl))) w)
  have CM7 := hide (fun w => may_is (ag := false) (good40 (q := 7) (.inr (.inr rfl))) w)
  unfold Begun at CSn CSb
  unfold Asked at CR0 CR7
  have hI : imgS = ⟨#[105, 109, 97, 103, 101]⟩ := rfl
  generalize fileS imgS 1155 57105 512 = F at *
  rw [hI] at CF
  clear hI
  obtain rfl | rfl | rfl | rfl | rfl | rfl | rfl | rfl | rfl | rfl | rfl | rfl : n = 0 ∨ n = 1 ∨ n = 2 ∨ n = 3 ∨ n = 4 ∨ n = 5 ∨ n = 6 ∨ n = 7 ∨ n = 8 ∨ n = 9 ∨ n = 10 ∨ n = 11 := by omega
  · replace mn : (IntKind.u64.wrap a0).tmod 12 = 0 := mn
    have hbad := bad0 d hd1
    have CA := hide (fun w => asks_not (ag := false) (ask_bad hbad) w)
    have CB := hide (fun w => may_is (ag := false) hbad w)
    unfold Asked at CA
    clear hbad
    generalize iotaS 40 = A at *
    go_enter Try.func4, Try.ntmps4
    go_upto_region 5 with (first | (go_at_call 15; refine (CW.out _).mono ?_; rintro e1 w1 ⟨rfl, hb⟩; replace hB := thenB hB hb; clear hb) | (go_at_call 16; refine (CC.out _).mono ?_; rintro e1 w2 ⟨rfl, hb⟩; replace hB := thenB hB hb; clear hb))
    try rw [hd]
    have hX := sevRM w2 (.int .i64 1) (.string A) (.int .i64 0) (.bool false) (.int .i64 0) (.string ⟨#[]⟩) (.int .i64 0) 23
    have hn := hal w2 (.cells #[.int .i64 1, .string A, .int .i64 0, .bool false, .int .i64 0, .string ⟨#[]⟩, .int .i64 0] 23)
    replace hB := thenB hB hn
    clear hn CW CC
    generalize w2.alloc _ = W3 at *
    generalize w2.heap.size = G1 at *
    go_upto_region 6 with fail
    have hY := sevRM W3 (.int .i64 1) (.string A) (.int .i64 0) (.bool false) (.int .i64 0) (.string ⟨#[]⟩) (.int .i64 0) 23
    have hn := hal W3 (.cells #[.int .i64 1, .string A, .int .i64 0, .bool false, .int .i64 0, .string ⟨#[]⟩, .int .i64 0] 23)
    have hl1 := hX.1
    have hl := hB.size
    replace hB := thenB hB hn
    replace hX := sevRB hX hn
    clear hn
    generalize W3.alloc _ = W4 at *
    generalize W3.heap.size = G2 at *
    have n1 : G2 ≠ G1 := by omega
    go_upto_region 31 with fail
    replace hX := HstSet.setO hX n1 0 (.int .i64 (-d))
    replace hY := HstSet.set0 hY (.int .i64 (-d))
    replace hB := hB.setCell (p := ⟨G2, 0, none⟩) hl (.int .i64 (-d))
    generalize (World.setCell W4 _ _) = W5 at *
    clear hl hl1
    go_upto_region 32 with (go_at_call 10; refine (CA.out _).mono ?_; rintro e1 w6 ⟨rfl, hb⟩; replace hB := thenB hB hb; replace hX := sevRB hX hb; replace hY := sevRB hY hb; clear hb)
    clear CA mn mk
    go_upto_region 33 with fail
    have hZ := sevRM w6 (.int .i64 1) (.string A) (.int .i64 0) (.bool false) (.int .i64 0) (.string ⟨#[]⟩) (.int .i64 0) 23
    have hn := hal w6 (.cells #[.int .i64 1, .string A, .int .i64 0, .bool false, .int .i64 0, .string ⟨#[]⟩, .int .i64 0] 23)
    have hl1 := hX.1
    have hl2 := hY.1
    have hl := hB.size
    replace hB := thenB hB hn
    replace hX := sevRB hX hn
    replace hY := sevRB hY hn
    clear hn
    generalize w6.alloc _ = W6 at *
    generalize w6.heap.size = G3 at *
    have n2 : G3 ≠ G1 := by omega
    have n3 : G3 ≠ G2 := by omega
    have hn := hal W6 (.cells #[.int .i64 0, .int .i64 7] 3)
    replace hB := thenB hB hn
    replace hX := sevRB hX hn
    replace hY := sevRB hY hn
    replace hZ := sevRB hZ hn
    clear hn hl1 hl2
    obtain rfl | rfl : e = 0 ∨ e = 1 := by omega
    · replace me : bits .and .i64 a0 1 = 0 := me
      go_upto_region 34 with fail
      generalize W6.alloc _ = W7 at *
      replace hZ := HstSet.set0 hZ (.int .i64 0)
      replace hX := HstSet.setO hX n2 0 (.int .i64 0)
      replace hY := HstSet.setO hY n3 0 (.int .i64 0)
      replace hB := hB.setCell (p := ⟨G3, 0, none⟩) hl (.int .i64 0)
      generalize (World.setCell W7 _ _) = W8 at *
      clear hl n1 n2 n3
      go_upto_region 35 with (go_at_call 10; refine (CR0.out _).mono ?_; rintro e1 w8 ⟨rfl, hb⟩; replace hB := thenB hB hb; replace hX := sevRB hX hb; replace hY := sevRB hY hb; replace hZ := sevRB hZ hb; clear hb)
      go_upto_region 36 with (first | (go_at_call 18; refine (CI.out _).mono ?_; rintro e1 w9 ⟨rfl, hb⟩; replace hB := thenB hB hb; replace hX := sevRB hX hb; replace hY := sevRB hY hb; replace hZ := sevRB hZ hb; clear hb) | (go_at_call 17; refine (CF.out _).mono ?_; rintro e1 w10 ⟨rfl, hb⟩; replace hB := thenB hB hb; replace hX := sevRB hX hb; replace hY := sevRB hY hb; replace hZ := sevRB hZ hb; clear hb))
      have hn := hal w10 (.cells #[.int .i64 (-d), .int .i64 (65535 + d)] 3)
      replace hB := thenB hB hn
      replace hX := sevRB hX hn
      replace hY := sevRB hY hn
      replace hZ := sevRB hZ hn
      clear hn CI CF
      go_upto_region 37 with (go_at_call 8; refine (CSn.out _).mono ?_; rintro e1 w11 ⟨rfl, hb⟩; replace hB := thenB hB hb; replace hX := sevRB hX hb; replace hY := sevRB hY hb; replace hZ := sevRB hZ hb; clear hb)
      have hU := sevRM w11 (.int .i64 0) (.string ⟨#[]⟩) (.int .i64 0) (.bool false) (.int .i64 0) (.string ⟨#[]⟩) (.int .i64 0) 23
      have hn := hal w11 (.cells #[.int .i64 0, .string ⟨#[]⟩, .int .i64 0, .bool false, .int .i64 0, .string ⟨#[]⟩, .int .i64 0] 23)
      replace hB := thenB hB hn
      replace hX := sevRB hX hn
      replace hY := sevRB hY hn
      replace hZ := sevRB hZ hn
      clear hn CSn CSb CR0 CR7
      generalize w11.alloc _ = W11 at *
      generalize w11.heap.size = G4 at *
      go_wp2_with (first | (go_at_call 12; refine (num_any _ _).mono ?_; rintro e1 w' ⟨rfl, rfl⟩) | (go_at_call 13; (first | with_reducible refine (CG.out _).mono ?_ | with_reducible refine (CM0.out _).mono ?_ | with_reducible refine (CB.out _).mono ?_); rintro e1 w12 ⟨rfl, hb⟩; replace hB := thenB hB hb; replace hX := sevRB hX hb; replace hY := sevRB hY hb; replace hZ := sevRB hZ hb; replace hU := sevRB hU hb; clear hb))
      go_ret
      exact ⟨rfl, hB⟩
    · replace me : bits .and .i64 a0 1 = 1 := me
      go_upto_region 34 with fail
      generalize W6.alloc _ = W7 at *
      replace hZ := HstSet.set0 hZ (.int .i64 7)
      replace hX := HstSet.setO hX n2 0 (.int .i64 7)
      replace hY := HstSet.setO hY n3 0 (.int .i64 7)
      replace hB := hB.setCell (p := ⟨G3, 0, none⟩) hl (.int .i64 7)
      generalize (World.setCell W7 _ _) = W8 at *
      clear hl n1 n2 n3
      go_upto_region 35 with (go_at_call 10; refine (CR7.out _).mono ?_; rintro e1 w8 ⟨rfl, hb⟩; replace hB := thenB hB hb; replace hX := sevRB hX hb; replace hY := sevRB hY hb; replace hZ := sevRB hZ hb; clear hb)
      go_upto_region 36 with (first | (go_at_call 18; refine (CI.out _).mono ?_; rintro e1 w9 ⟨rfl, hb⟩; replace hB := thenB hB hb; replace hX := sevRB hX hb; replace hY := sevRB hY hb; replace hZ := sevRB hZ hb; clear hb) | (go_at_call 17; refine (CF.out _).mono ?_; rintro e1 w10 ⟨rfl, hb⟩; replace hB := thenB hB hb; replace hX := sevRB hX hb; replace hY := sevRB hY hb; replace hZ := sevRB hZ hb; clear hb))
      have hn := hal w10 (.cells #[.int .i64 (-d), .int .i64 (65535 + d)] 3)
      replace hB := thenB hB hn
      replace hX := sevRB hX hn
      replace hY := sevRB hY hn
      replace hZ := sevRB hZ hn
      clear hn CI CF
      go_upto_region 37 with (go_at_call 8; refine (CSb.out _).mono ?_; rintro e1 w11 ⟨rfl, hb⟩; replace hB := thenB hB hb; replace hX := sevRB hX hb; replace hY := sevRB hY hb; replace hZ := sevRB hZ hb; clear hb)
      have hU := sevRM w11 (.int .i64 0) (.string ⟨#[]⟩) (.int .i64 0) (.bool false) (.int .i64 0) (.string ⟨#[]⟩) (.int .i64 0) 23
      have hn := hal w11 (.cells #[.int .i64 0, .string ⟨#[]⟩, .int .i64 0, .bool false, .int .i64 0, .string ⟨#[]⟩, .int .i64 0] 23)
      replace hB := thenB hB hn
      replace hX := sevRB hX hn
      replace hY := sevRB hY hn
      replace hZ := sevRB hZ hn
      clear hn CSn CSb CR0 CR7
      generalize w11.alloc _ = W11 at *
      generalize w11.heap.size = G4 at *
      go_wp2_with (first | (go_at_call 12; refine (num_any _ _).mono ?_; rintro e1 w' ⟨rfl, rfl⟩) | (go_at_call 13; (first | with_reducible refine (CG.out _).mono ?_ | with_reducible refine (CM7.out _).mono ?_ | with_reducible refine (CB.out _).mono ?_); rintro e1 w12 ⟨rfl, hb⟩; replace hB := thenB hB hb; replace hX := sevRB hX hb; replace hY := sevRB hY hb; replace hZ := sevRB hZ hb; replace hU := sevRB hU hb; clear hb))
      go_ret
      exact ⟨rfl, hB⟩
  · replace mn : (IntKind.u64.wrap a0).tmod 12 = 1 := mn
    have hbad := bad1 d hd1
    have CA := hide (fun w => asks_not (ag := false) (ask_bad hbad) w)
    have CB := hide (fun w => may_is (ag := false) hbad w)
    unfold Asked at CA
    clear hbad
    generalize iotaS 40 = A at *
    go_enter Try.func4, Try.ntmps4
    go_upto_region 5 with (first | (go_at_call 15; refine (CW.out _).mono ?_; rintro e1 w1 ⟨rfl, hb⟩; replace hB := thenB hB hb; clear hb) | (go_at_call 16; refine (CC.out _).mono ?_; rintro e1 w2 ⟨rfl, hb⟩; replace hB := thenB hB hb; clear hb))
    try rw [hd]
    have hX := sevRM w2 (.int .i64 1) (.string A) (.int .i64 0) (.bool false) (.int .i64 0) (.string ⟨#[]⟩) (.int .i64 0) 23
    have hn := hal w2 (.cells #[.int .i64 1, .string A, .int .i64 0, .bool false, .int .i64 0, .string ⟨#[]⟩, .int .i64 0] 23)
    replace hB := thenB hB hn
    clear hn CW CC
    generalize w2.alloc _ = W3 at *
    generalize w2.heap.size = G1 at *
    go_upto_region 6 with fail
    have hY := sevRM W3 (.int .i64 1) (.string A) (.int .i64 0) (.bool false) (.int .i64 0) (.string ⟨#[]⟩) (.int .i64 0) 23
    have hn := hal W3 (.cells #[.int .i64 1, .string A, .int .i64 0, .bool false, .int .i64 0, .string ⟨#[]⟩, .int .i64 0] 23)
    have hl1 := hX.1
    have hl := hB.size
    replace hB := thenB hB hn
    replace hX := sevRB hX hn
    clear hn
    generalize W3.alloc _ = W4 at *
    generalize W3.heap.size = G2 at *
    have n1 : G2 ≠ G1 := by omega
    go_upto_region 31 with fail
    replace hX := HstSet.setO hX n1 0 (.int .i64 (7 + d))
    replace hY := HstSet.set0 hY (.int .i64 (7 + d))
    replace hB := hB.setCell (p := ⟨G2, 0, none⟩) hl (.int .i64 (7 + d))
    generalize (World.setCell W4 _ _) = W5 at *
    clear hl hl1
    go_upto_region 32 with (go_at_call 10; refine (CA.out _).mono ?_; rintro e1 w6 ⟨rfl, hb⟩; replace hB := thenB hB hb; replace hX := sevRB hX hb; replace hY := sevRB hY hb; clear hb)
    clear CA mn mk
    go_upto_region 33 with fail
    have hZ := sevRM w6 (.int .i64 1) (.string A) (.int .i64 0) (.bool false) (.int .i64 0) (.string ⟨#[]⟩) (.int .i64 0) 23
    have hn := hal w6 (.cells #[.int .i64 1, .string A, .int .i64 0, .bool false, .int .i64 0, .string ⟨#[]⟩, .int .i64 0] 23)
    have hl1 := hX.1
    have hl2 := hY.1
    have hl := hB.size
    replace hB := thenB hB hn
    replace hX := sevRB hX hn
    replace hY := sevRB hY hn
    clear hn
    generalize w6.alloc _ = W6 at *
    generalize w6.heap.size = G3 at *
    have n2 : G3 ≠ G1 := by omega
    have n3 : G3 ≠ G2 := by omega
    have hn := hal W6 (.cells #[.int .i64 0, .int .i64 7] 3)
    replace hB := thenB hB hn
    replace hX := sevRB hX hn
    replace hY := sevRB hY hn
    replace hZ := sevRB hZ hn
    clear hn hl1 hl2
    obtain rfl | rfl : e = 0 ∨ e = 1 := by omega
    · replace me : bits .and .i64 a0 1 = 0 := me
      go_upto_region 34 with fail
      generalize W6.alloc _ = W7 at *
      replace hZ := HstSet.set0 hZ (.int .i64 0)
      replace hX := HstSet.setO hX n2 0 (.int .i64 0)
      replace hY := HstSet.setO hY n3 0 (.int .i64 0)
      replace hB := hB.setCell (p := ⟨G3, 0, none⟩) hl (.int .i64 0)
      generalize (World.setCell W7 _ _) = W8 at *
      clear hl n1 n2 n3
      go_upto_region 35 with (go_at_call 10; refine (CR0.out _).mono ?_; rintro e1 w8 ⟨rfl, hb⟩; replace hB := thenB hB hb; replace hX := sevRB hX hb; replace hY := sevRB hY hb; replace hZ := sevRB hZ hb; clear hb)
      go_upto_region 36 with (first | (go_at_call 18; refine (CI.out _).mono ?_; rintro e1 w9 ⟨rfl, hb⟩; replace hB := thenB hB hb; replace hX := sevRB hX hb; replace hY := sevRB hY hb; replace hZ := sevRB hZ hb; clear hb) | (go_at_call 17; refine (CF.out _).mono ?_; rintro e1 w10 ⟨rfl, hb⟩; replace hB := thenB hB hb; replace hX := sevRB hX hb; replace hY := sevRB hY hb; replace hZ := sevRB hZ hb; clear hb))
      have hn := hal w10 (.cells #[.int .i64 (-d), .int .i64 (65535 + d)] 3)
      replace hB := thenB hB hn
      replace hX := sevRB hX hn
      replace hY := sevRB hY hn
      replace hZ := sevRB hZ hn
      clear hn CI CF
      go_upto_region 37 with (go_at_call 8; refine (CSn.out _).mono ?_; rintro e1 w11 ⟨rfl, hb⟩; replace hB := thenB hB hb; replace hX := sevRB hX hb; replace hY := sevRB hY hb; replace hZ := sevRB hZ hb; clear hb)
      have hU := sevRM w11 (.int .i64 0) (.string ⟨#[]⟩) (.int .i64 0) (.bool false) (.int .i64 0) (.string ⟨#[]⟩) (.int .i64 0) 23
      have hn := hal w11 (.cells #[.int .i64 0, .string ⟨#[]⟩, .int .i64 0, .bool false, .int .i64 0, .string ⟨#[]⟩, .int .i64 0] 23)
      replace hB := thenB hB hn
      replace hX := sevRB hX hn
      replace hY := sevRB hY hn
      replace hZ := sevRB hZ hn
      clear hn CSn CSb CR0 CR7
      generalize w11.alloc _ = W11 at *
      generalize w11.heap.size = G4 at *
      go_wp2_with (first | (go_at_call 12; refine (num_any _ _).mono ?_; rintro e1 w' ⟨rfl, rfl⟩) | (go_at_call 13; (first | with_reducible refine (CG.out _).mono ?_ | with_reducible refine (CM0.out _).mono ?_ | with_reducible refine (CB.out _).mono ?_); rintro e1 w12 ⟨rfl, hb⟩; replace hB := thenB hB hb; replace hX := sevRB hX hb; replace hY := sevRB hY hb; replace hZ := sevRB hZ hb; replace hU := sevRB hU hb; clear hb))
      go_ret
      exact ⟨rfl, hB⟩
    · replace me : bits .and .i64 a0 1 = 1 := me
      go_upto_region 34 with fail
      generalize W6.alloc _ = W7 at *
      replace hZ := HstSet.set0 hZ (.int .i64 7)
      replace hX := HstSet.setO hX n2 0 (.int .i64 7)
      replace hY := HstSet.setO hY n3 0 (.int .i64 7)
      replace hB := hB.setCell (p := ⟨G3, 0, none⟩) hl (.int .i64 7)
      generalize (World.setCell W7 _ _) = W8 at *
      clear hl n1 n2 n3
      go_upto_region 35 with (go_at_call 10; refine (CR7.out _).mono ?_; rintro e1 w8 ⟨rfl, hb⟩; replace hB := thenB hB hb; replace hX := sevRB hX hb; replace hY := sevRB hY hb; replace hZ := sevRB hZ hb; clear hb)
      go_upto_region 36 with (first | (go_at_call 18; refine (CI.out _).mono ?_; rintro e1 w9 ⟨rfl, hb⟩; replace hB := thenB hB hb; replace hX := sevRB hX hb; replace hY := sevRB hY hb; replace hZ := sevRB hZ hb; clear hb) | (go_at_call 17; refine (CF.out _).mono ?_; rintro e1 w10 ⟨rfl, hb⟩; replace hB := thenB hB hb; replace hX := sevRB hX hb; replace hY := sevRB hY hb; replace hZ := sevRB hZ hb; clear hb))
      have hn := hal w10 (.cells #[.int .i64 (-d), .int .i64 (65535 + d)] 3)
      replace hB := thenB hB hn
      replace hX := sevRB hX hn
      replace hY := sevRB hY hn
      replace hZ := sevRB hZ hn
      clear hn CI CF
      go_upto_region 37 with (go_at_call 8; refine (CSb.out _).mono ?_; rintro e1 w11 ⟨rfl, hb⟩; replace hB := thenB hB hb; replace hX := sevRB hX hb; replace hY := sevRB hY hb; replace hZ := sevRB hZ hb; clear hb)
      have hU := sevRM w11 (.int .i64 0) (.string ⟨#[]⟩) (.int .i64 0) (.bool false) (.int .i64 0) (.string ⟨#[]⟩) (.int .i64 0) 23
      have hn := hal w11 (.cells #[.int .i64 0, .string ⟨#[]⟩, .int .i64 0, .bool false, .int .i64 0, .string ⟨#[]⟩, .int .i64 0] 23)
      replace hB := thenB hB hn
      replace hX := sevRB hX hn
      replace hY := sevRB hY hn
      replace hZ := sevRB hZ hn
      clear hn CSn CSb CR0 CR7
      generalize w11.alloc _ = W11 at *
      generalize w11.heap.size = G4 at *
      go_wp2_with (first | (go_at_call 12; refine (num_any _ _).mono ?_; rintro e1 w' ⟨rfl, rfl⟩) | (go_at_call 13; (first | with_reducible refine (CG.out _).mono ?_ | with_reducible refine (CM7.out _).mono ?_ | with_reducible refine (CB.out _).mono ?_); rintro e1 w12 ⟨rfl, hb⟩; replace hB := thenB hB hb; replace hX := sevRB hX hb; replace hY := sevRB hY hb; replace hZ := sevRB hZ hb; replace hU := sevRB hU hb; clear hb))
      go_ret
      exact ⟨rfl, hB⟩
  · replace mn : (IntKind.u64.wrap a0).tmod 12 = 2 := mn
    have hbad := bad2 d hd1
    have CA := hide (fun w => asks_not (ag := false) (ask_bad hbad) w)
    have CB := hide (fun w => may_is (ag := false) hbad w)
    unfold Asked at CA
    clear hbad
    generalize iotaS 40 = A at *
    go_enter Try.func4, Try.ntmps4
    go_upto_region 5 with (first | (go_at_call 15; refine (CW.out _).mono ?_; rintro e1 w1 ⟨rfl, hb⟩; replace hB := thenB hB hb; clear hb) | (go_at_call 16; refine (CC.out _).mono ?_; rintro e1 w2 ⟨rfl, hb⟩; replace hB := thenB hB hb; clear hb))
    try rw [hd]
    have hX := sevRM w2 (.int .i64 1) (.string A) (.int .i64 0) (.bool false) (.int .i64 0) (.string ⟨#[]⟩) (.int .i64 0) 23
    have hn := hal w2 (.cells #[.int .i64 1, .string A, .int .i64 0, .bool false, .int .i64 0, .string ⟨#[]⟩, .int .i64 0] 23)
    replace hB := thenB hB hn
    clear hn CW CC
    generalize w2.alloc _ = W3 at *
    generalize w2.heap.size = G1 at *
    go_upto_region 6 with fail
    have hY := sevRM W3 (.int .i64 1) (.string A) (.int .i64 0) (.bool false) (.int .i64 0) (.string ⟨#[]⟩) (.int .i64 0) 23
    have hn := hal W3 (.cells #[.int .i64 1, .string A, .int .i64 0, .bool false, .int .i64 0, .string ⟨#[]⟩, .int .i64 0] 23)
    have hl1 := hX.1
    have hl := hB.size
    replace hB := thenB hB hn
    replace hX := sevRB hX hn
    clear hn
    generalize W3.alloc _ = W4 at *
    generalize W3.heap.size = G2 at *
    have n1 : G2 ≠ G1 := by omega
    go_upto_region 31 with fail
    replace hX := HstSet.setO hX n1 6 (.int .i64 (3 + d))
    replace hY := HstSet.set6 hY (.int .i64 (3 + d))
    replace hB := hB.setCell (p := ⟨G2, 6, none⟩) hl (.int .i64 (3 + d))
    generalize (World.setCell W4 _ _) = W5 at *
    clear hl hl1
    go_upto_region 32 with (go_at_call 10; refine (CA.out _).mono ?_; rintro e1 w6 ⟨rfl, hb⟩; replace hB := thenB hB hb; replace hX := sevRB hX hb; replace hY := sevRB hY hb; clear hb)
    clear CA mn mk
    go_upto_region 33 with fail
    have hZ := sevRM w6 (.int .i64 1) (.string A) (.int .i64 0) (.bool false) (.int .i64 0) (.string ⟨#[]⟩) (.int .i64 0) 23
    have hn := hal w6 (.cells #[.int .i64 1, .string A, .int .i64 0, .bool false, .int .i64 0, .string ⟨#[]⟩, .int .i64 0] 23)
    have hl1 := hX.1
    have hl2 := hY.1
    have hl := hB.size
    replace hB := thenB hB hn
    replace hX := sevRB hX hn
    replace hY := sevRB hY hn
    clear hn
    generalize w6.alloc _ = W6 at *
    generalize w6.heap.size = G3 at *
    have n2 : G3 ≠ G1 := by omega
    have n3 : G3 ≠ G2 := by omega
    have hn := hal W6 (.cells #[.int .i64 0, .int .i64 7] 3)
    replace hB := thenB hB hn
    replace hX := sevRB hX hn
    replace hY := sevRB hY hn
    replace hZ := sevRB hZ hn
    clear hn hl1 hl2
    obtain rfl | rfl : e = 0 ∨ e = 1 := by omega
    · replace me : bits .and .i64 a0 1 = 0 := me
      go_upto_region 34 with fail
      generalize W6.alloc _ = W7 at *
      replace hZ := HstSet.set0 hZ (.int .i64 0)
      replace hX := HstSet.setO hX n2 0 (.int .i64 0)
      replace hY := HstSet.setO hY n3 0 (.int .i64 0)
      replace hB := hB.setCell (p := ⟨G3, 0, none⟩) hl (.int .i64 0)
      generalize (World.setCell W7 _ _) = W8 at *
      clear hl n1 n2 n3
      go_upto_region 35 with (go_at_call 10; refine (CR0.out _).mono ?_; rintro e1 w8 ⟨rfl, hb⟩; replace hB := thenB hB hb; replace hX := sevRB hX hb; replace hY := sevRB hY hb; replace hZ := sevRB hZ hb; clear hb)
      go_upto_region 36 with (first | (go_at_call 18; refine (CI.out _).mono ?_; rintro e1 w9 ⟨rfl, hb⟩; replace hB := thenB hB hb; replace hX := sevRB hX hb; replace hY := sevRB hY hb; replace hZ := sevRB hZ hb; clear hb) | (go_at_call 17; refine (CF.out _).mono ?_; rintro e1 w10 ⟨rfl, hb⟩; replace hB := thenB hB hb; replace hX := sevRB hX hb; replace hY := sevRB hY hb; replace hZ := sevRB hZ hb; clear hb))
      have hn := hal w10 (.cells #[.int .i64 (-d), .int .i64 (65535 + d)] 3)
      replace hB := thenB hB hn
      replace hX := sevRB hX hn
      replace hY := sevRB hY hn
      replace hZ := sevRB hZ hn
      clear hn CI CF
      go_upto_region 37 with (go_at_call 8; refine (CSn.out _).mono ?_; rintro e1 w11 ⟨rfl, hb⟩; replace hB := thenB hB hb; replace hX := sevRB hX hb; replace hY := sevRB hY hb; replace hZ := sevRB hZ hb; clear hb)
      have hU := sevRM w11 (.int .i64 0) (.string ⟨#[]⟩) (.int .i64 0) (.bool false) (.int .i64 0) (.string ⟨#[]⟩) (.int .i64 0) 23
      have hn := hal w11 (.cells #[.int .i64 0, .string ⟨#[]⟩, .int .i64 0, .bool false, .int .i64 0, .string ⟨#[]⟩, .int .i64 0] 23)
      replace hB := thenB hB hn
      replace hX := sevRB hX hn
      replace hY := sevRB hY hn
      replace hZ := sevRB hZ hn
      clear hn CSn CSb CR0 CR7
      generalize w11.alloc _ = W11 at *
      generalize w11.heap.size = G4 at *
      go_wp2_with (first | (go_at_call 12; refine (num_any _ _).mono ?_; rintro e1 w' ⟨rfl, rfl⟩) | (go_at_call 13; (first | with_reducible refine (CG.out _).mono ?_ | with_reducible refine (CM0.out _).mono ?_ | with_reducible refine (CB.out _).mono ?_); rintro e1 w12 ⟨rfl, hb⟩; replace hB := thenB hB hb; replace hX := sevRB hX hb; replace hY := sevRB hY hb; replace hZ := sevRB hZ hb; replace hU := sevRB hU hb; clear hb))
      go_ret
      exact ⟨rfl, hB⟩
    · replace me : bits .and .i64 a0 1 = 1 := me
      go_upto_region 34 with fail
      generalize W6.alloc _ = W7 at *
      replace hZ := HstSet.set0 hZ (.int .i64 7)
      replace hX := HstSet.setO hX n2 0 (.int .i64 7)
      replace hY := HstSet.setO hY n3 0 (.int .i64 7)
      replace hB := hB.setCell (p := ⟨G3, 0, none⟩) hl (.int .i64 7)
      generalize (World.setCell W7 _ _) = W8 at *
      clear hl n1 n2 n3
      go_upto_region 35 with (go_at_call 10; refine (CR7.out _).mono ?_; rintro e1 w8 ⟨rfl, hb⟩; replace hB := thenB hB hb; replace hX := sevRB hX hb; replace hY := sevRB hY hb; replace hZ := sevRB hZ hb; clear hb)
      go_upto_region 36 with (first | (go_at_call 18; refine (CI.out _).mono ?_; rintro e1 w9 ⟨rfl, hb⟩; replace hB := thenB hB hb; replace hX := sevRB hX hb; replace hY := sevRB hY hb; replace hZ := sevRB hZ hb; clear hb) | (go_at_call 17; refine (CF.out _).mono ?_; rintro e1 w10 ⟨rfl, hb⟩; replace hB := thenB hB hb; replace hX := sevRB hX hb; replace hY := sevRB hY hb; replace hZ := sevRB hZ hb; clear hb))
      have hn := hal w10 (.cells #[.int .i64 (-d), .int .i64 (65535 + d)] 3)
      replace hB := thenB hB hn
      replace hX := sevRB hX hn
      replace hY := sevRB hY hn
      replace hZ := sevRB hZ hn
      clear hn CI CF
      go_upto_region 37 with (go_at_call 8; refine (CSb.out _).mono ?_; rintro e1 w11 ⟨rfl, hb⟩; replace hB := thenB hB hb; replace hX := sevRB hX hb; replace hY := sevRB hY hb; replace hZ := sevRB hZ hb; clear hb)
      have hU := sevRM w11 (.int .i64 0) (.string ⟨#[]⟩) (.int .i64 0) (.bool false) (.int .i64 0) (.string ⟨#[]⟩) (.int .i64 0) 23
      have hn := hal w11 (.cells #[.int .i64 0, .string ⟨#[]⟩, .int .i64 0, .bool false, .int .i64 0, .string ⟨#[]⟩, .int .i64 0] 23)
      replace hB := thenB hB hn
      replace hX := sevRB hX hn
      replace hY := sevRB hY hn
      replace hZ := sevRB hZ hn
      clear hn CSn CSb CR0 CR7
      generalize w11.alloc _ = W11 at *
      generalize w11.heap.size = G4 at *
      go_wp2_with (first | (go_at_call 12; refine (num_any _ _).mono ?_; rintro e1 w' ⟨rfl, rfl⟩) | (go_at_call 13; (first | with_reducible refine (CG.out _).mono ?_ | with_reducible refine (CM7.out _).mono ?_ | with_reducible refine (CB.out _).mono ?_); rintro e1 w12 ⟨rfl, hb⟩; replace hB := thenB hB hb; replace hX := sevRB hX hb; replace hY := sevRB hY hb; replace hZ := sevRB hZ hb; replace hU := sevRB hU hb; clear hb))
      go_ret
      exact ⟨rfl, hB⟩
  · replace mn : (IntKind.u64.wrap a0).tmod 12 = 3 := mn
    have hbad := bad3 d hd1
    have CA := hide (fun w => asks_not (ag := false) (ask_bad hbad) w)
    have CB := hide (fun w => may_is (ag := false) hbad w)
    unfold Asked at CA
    clear hbad
    generalize iotaS 40 = A at *
    go_enter Try.func4, Try.ntmps4
    go_upto_region 5 with (first | (go_at_call 15; refine (CW.out _).mono ?_; rintro e1 w1 ⟨rfl, hb⟩; replace hB := thenB hB hb; clear hb) | (go_at_call 16; refine (CC.out _).mono ?_; rintro e1 w2 ⟨rfl, hb⟩; replace hB := thenB hB hb; clear hb))
    try rw [hd]
    have hX := sevRM w2 (.int .i64 1) (.string A) (.int .i64 0) (.bool false) (.int .i64 0) (.string ⟨#[]⟩) (.int .i64 0) 23
    have hn := hal w2 (.cells #[.int .i64 1, .string A, .int .i64 0, .bool false, .int .i64 0, .string ⟨#[]⟩, .int .i64 0] 23)
    replace hB := thenB hB hn
    clear hn CW CC
    generalize w2.alloc _ = W3 at *
    generalize w2.heap.size = G1 at *
    go_upto_region 6 with fail
    have hY := sevRM W3 (.int .i64 1) (.string A) (.int .i64 0) (.bool false) (.int .i64 0) (.string ⟨#[]⟩) (.int .i64 0) 23
    have hn := hal W3 (.cells #[.int .i64 1, .string A, .int .i64 0, .bool false, .int .i64 0, .string ⟨#[]⟩, .int .i64 0] 23)
    have hl1 := hX.1
    have hl := hB.size
    replace hB := thenB hB hn
    replace hX := sevRB hX hn
    clear hn
    generalize W3.alloc _ = W4 at *
    generalize W3.heap.size = G2 at *
    have n1 : G2 ≠ G1 := by omega
    go_upto_region 31 with fail
    replace hX := HstSet.setO hX n1 1 (.string ⟨#[]⟩)
    replace hY := HstSet.set1 hY (.string ⟨#[]⟩)
    replace hB := hB.setCell (p := ⟨G2, 1, none⟩) hl (.string ⟨#[]⟩)
    generalize (World.setCell W4 _ _) = W5 at *
    clear hl hl1
    go_upto_region 32 with (go_at_call 10; refine (CA.out _).mono ?_; rintro e1 w6 ⟨rfl, hb⟩; replace hB := thenB hB hb; replace hX := sevRB hX hb; replace hY := sevRB hY hb; clear hb)
    clear CA mn mk
    go_upto_region 33 with fail
    have hZ := sevRM w6 (.int .i64 1) (.string A) (.int .i64 0) (.bool false) (.int .i64 0) (.string ⟨#[]⟩) (.int .i64 0) 23
    have hn := hal w6 (.cells #[.int .i64 1, .string A, .int .i64 0, .bool false, .int .i64 0, .string ⟨#[]⟩, .int .i64 0] 23)
    have hl1 := hX.1
    have hl2 := hY.1
    have hl := hB.size
    replace hB := thenB hB hn
    replace hX := sevRB hX hn
    replace hY := sevRB hY hn
    clear hn
    generalize w6.alloc _ = W6 at *
    generalize w6.heap.size = G3 at *
    have n2 : G3 ≠ G1 := by omega
    have n3 : G3 ≠ G2 := by omega
    have hn := hal W6 (.cells #[.int .i64 0, .int .i64 7] 3)
    replace hB := thenB hB hn
    replace hX := sevRB hX hn
    replace hY := sevRB hY hn
    replace hZ := sevRB hZ hn
    clear hn hl1 hl2
    obtain rfl | rfl : e = 0 ∨ e = 1 := by omega
    · replace me : bits .and .i64 a0 1 = 0 := me
      go_upto_region 34 with fail
      generalize W6.alloc _ = W7 at *
      replace hZ := HstSet.set0 hZ (.int .i64 0)
      replace hX := HstSet.setO hX n2 0 (.int .i64 0)
      replace hY := HstSet.setO hY n3 0 (.int .i64 0)
      replace hB := hB.setCell (p := ⟨G3, 0, none⟩) hl (.int .i64 0)
      generalize (World.setCell W7 _ _) = W8 at *
      clear hl n1 n2 n3
      go_upto_region 35 with (go_at_call 10; refine (CR0.out _).mono ?_; rintro e1 w8 ⟨rfl, hb⟩; replace hB := thenB hB hb; replace hX := sevRB hX hb; replace hY := sevRB hY hb; replace hZ := sevRB hZ hb; clear hb)
      go_upto_region 36 with (first | (go_at_call 18; refine (CI.out _).mono ?_; rintro e1 w9 ⟨rfl, hb⟩; replace hB := thenB hB hb; replace hX := sevRB hX hb; replace hY := sevRB hY hb; replace hZ := sevRB hZ hb; clear hb) | (go_at_call 17; refine (CF.out _).mono ?_; rintro e1 w10 ⟨rfl, hb⟩; replace hB := thenB hB hb; replace hX := sevRB hX hb; replace hY := sevRB hY hb; replace hZ := sevRB hZ hb; clear hb))
      have hn := hal w10 (.cells #[.int .i64 (-d), .int .i64 (65535 + d)] 3)
      replace hB := thenB hB hn
      replace hX := sevRB hX hn
      replace hY := sevRB hY hn
      replace hZ := sevRB hZ hn
      clear hn CI CF
      go_upto_region 37 with (go_at_call 8; refine (CSn.out _).mono ?_; rintro e1 w11 ⟨rfl, hb⟩; replace hB := thenB hB hb; replace hX := sevRB hX hb; replace hY := sevRB hY hb; replace hZ := sevRB hZ hb; clear hb)
      have hU := sevRM w11 (.int .i64 0) (.string ⟨#[]⟩) (.int .i64 0) (.bool false) (.int .i64 0) (.string ⟨#[]⟩) (.int .i64 0) 23
      have hn := hal w11 (.cells #[.int .i64 0, .string ⟨#[]⟩, .int .i64 0, .bool false, .int .i64 0, .string ⟨#[]⟩, .int .i64 0] 23)
      replace hB := thenB hB hn
      replace hX := sevRB hX hn
      replace hY := sevRB hY hn
      replace hZ := sevRB hZ hn
      clear hn CSn CSb CR0 CR7
      generalize w11.alloc _ = W11 at *
      generalize w11.heap.size = G4 at *
      go_wp2_with (first | (go_at_call 12; refine (num_any _ _).mono ?_; rintro e1 w' ⟨rfl, rfl⟩) | (go_at_call 13; (first | with_reducible refine (CG.out _).mono ?_ | with_reducible refine (CM0.out _).mono ?_ | with_reducible refine (CB.out _).mono ?_); rintro e1 w12 ⟨rfl, hb⟩; replace hB := thenB hB hb; replace hX := sevRB hX hb; replace hY := sevRB hY hb; replace hZ := sevRB hZ hb; replace hU := sevRB hU hb; clear hb))
      go_ret
      exact ⟨rfl, hB⟩
    · replace me : bits .and .i64 a0 1 = 1 := me
      go_upto_region 34 with fail
      generalize W6.alloc _ = W7 at *
      replace hZ := HstSet.set0 hZ (.int .i64 7)
      replace hX := HstSet.setO hX n2 0 (.int .i64 7)
      replace hY := HstSet.setO hY n3 0 (.int .i64 7)
      replace hB := hB.setCell (p := ⟨G3, 0, none⟩) hl (.int .i64 7)
      generalize (World.setCell W7 _ _) = W8 at *
      clear hl n1 n2 n3
      go_upto_region 35 with (go_at_call 10; refine (CR7.out _).mono ?_; rintro e1 w8 ⟨rfl, hb⟩; replace hB := thenB hB hb; replace hX := sevRB hX hb; replace hY := sevRB hY hb; replace hZ := sevRB hZ hb; clear hb)
      go_upto_region 36 with (first | (go_at_call 18; refine (CI.out _).mono ?_; rintro e1 w9 ⟨rfl, hb⟩; replace hB := thenB hB hb; replace hX := sevRB hX hb; replace hY := sevRB hY hb; replace hZ := sevRB hZ hb; clear hb) | (go_at_call 17; refine (CF.out _).mono ?_; rintro e1 w10 ⟨rfl, hb⟩; replace hB := thenB hB hb; replace hX := sevRB hX hb; replace hY := sevRB hY hb; replace hZ := sevRB hZ hb; clear hb))
      have hn := hal w10 (.cells #[.int .i64 (-d), .int .i64 (65535 + d)] 3)
      replace hB := thenB hB hn
      replace hX := sevRB hX hn
      replace hY := sevRB hY hn
      replace hZ := sevRB hZ hn
      clear hn CI CF
      go_upto_region 37 with (go_at_call 8; refine (CSb.out _).mono ?_; rintro e1 w11 ⟨rfl, hb⟩; replace hB := thenB hB hb; replace hX := sevRB hX hb; replace hY := sevRB hY hb; replace hZ := sevRB hZ hb; clear hb)
      have hU := sevRM w11 (.int .i64 0) (.string ⟨#[]⟩) (.int .i64 0) (.bool false) (.int .i64 0) (.string ⟨#[]⟩) (.int .i64 0) 23
      have hn := hal w11 (.cells #[.int .i64 0, .string ⟨#[]⟩, .int .i64 0, .bool false, .int .i64 0, .string ⟨#[]⟩, .int .i64 0] 23)
      replace hB := thenB hB hn
      replace hX := sevRB hX hn
      replace hY := sevRB hY hn
      replace hZ := sevRB hZ hn
      clear hn CSn CSb CR0 CR7
      generalize w11.alloc _ = W11 at *
      generalize w11.heap.size = G4 at *
      go_wp2_with (first | (go_at_call 12; refine (num_any _ _).mono ?_; rintro e1 w' ⟨rfl, rfl⟩) | (go_at_call 13; (first | with_reducible refine (CG.out _).mono ?_ | with_reducible refine (CM7.out _).mono ?_ | with_reducible refine (CB.out _).mono ?_); rintro e1 w12 ⟨rfl, hb⟩; replace hB := thenB hB hb; replace hX := sevRB hX hb; replace hY := sevRB hY hb; replace hZ := sevRB hZ hb; replace hU := sevRB hU hb; clear hb))
      go_ret
      exact ⟨rfl, hB⟩
  · replace mn : (IntKind.u64.wrap a0).tmod 12 = 4 := mn
    obtain ⟨D, hD⟩ : ∃ D : Nat, 288 + d = (D : Int) := ⟨(288 + d).toNat, by omega⟩
    have hbad := bad4 d hd1 D hD
    have hmd : ∀ w : World, (Instr.makeSlice 41 (.int .i64 (D : Int)) (.int .i64 (D : Int))).run Try.prog w = .ok (.slice (some ⟨w.heap.size, 0, none⟩) D D) (w.alloc (.cells (madeBytes D) 5)) := fun w => by
      exact run_make_bytes (P := Try.prog) w 41 5 Try.underlying41 info_u8 D (by omega)
    have htd := fun w => text_zeros w D
    generalize zeros D = Z at *
    have CA := hide (fun w => asks_not (ag := false) (ask_bad hbad) w)
    have CB := hide (fun w => may_is (ag := false) hbad w)
    unfold Asked at CA
    clear hbad
    generalize iotaS 40 = A at *
    go_enter Try.func4, Try.ntmps4
    go_upto_region 5 with (first | (go_at_call 15; refine (CW.out _).mono ?_; rintro e1 w1 ⟨rfl, hb⟩; replace hB := thenB hB hb; clear hb) | (go_at_call 16; refine (CC.out _).mono ?_; rintro e1 w2 ⟨rfl, hb⟩; replace hB := thenB hB hb; clear hb))
    try rw [hd]
    have hX := sevRM w2 (.int .i64 1) (.string A) (.int .i64 0) (.bool false) (.int .i64 0) (.string ⟨#[]⟩) (.int .i64 0) 23
    have hn := hal w2 (.cells #[.int .i64 1, .string A, .int .i64 0, .bool false, .int .i64 0, .string ⟨#[]⟩, .int .i64 0] 23)
    replace hB := thenB hB hn
    clear hn CW CC
    generalize w2.alloc _ = W3 at *
    generalize w2.heap.size = G1 at *
    go_upto_region 6 with fail
    have hY := sevRM W3 (.int .i64 1) (.string A) (.int .i64 0) (.bool false) (.int .i64 0) (.string ⟨#[]⟩) (.int .i64 0) 23
    have hn := hal W3 (.cells #[.int .i64 1, .string A, .int .i64 0, .bool false, .int .i64 0, .string ⟨#[]⟩, .int .i64 0] 23)
    have hl1 := hX.1
    have hl := hB.size
    replace hB := thenB hB hn
    replace hX := sevRB hX hn
    clear hn
    generalize W3.alloc _ = W4 at *
    generalize W3.heap.size = G2 at *
    have n1 : G2 ≠ G1 := by omega
    go_upto_region 31 with fail
    replace hX := HstSet.setO hX n1 1 (.string Z)
    replace hY := HstSet.set1 hY (.string Z)
    replace hB := hB.setCell (p := ⟨G2, 1, none⟩) hl (.string Z)
    generalize (World.setCell W4 _ _) = W4b at *
    have hn := hal W4b (.cells (madeBytes D) 5)
    replace hB := thenB hB hn
    replace hX := sevRB hX hn
    replace hY := sevRB hY hn
    clear hn
    generalize W4b.alloc _ = W5 at *
    clear hl hl1
    go_upto_region 32 with (go_at_call 10; refine (CA.out _).mono ?_; rintro e1 w6 ⟨rfl, hb⟩; replace hB := thenB hB hb; replace hX := sevRB hX hb; replace hY := sevRB hY hb; clear hb)
    clear CA mn mk
    go_upto_region 33 with fail
    have hZ := sevRM w6 (.int .i64 1) (.string A) (.int .i64 0) (.bool false) (.int .i64 0) (.string ⟨#[]⟩) (.int .i64 0) 23
    have hn := hal w6 (.cells #[.int .i64 1, .string A, .int .i64 0, .bool false, .int .i64 0, .string ⟨#[]⟩, .int .i64 0] 23)
    have hl1 := hX.1
    have hl2 := hY.1
    have hl := hB.size
    replace hB := thenB hB hn
    replace hX := sevRB hX hn
    replace hY := sevRB hY hn
    clear hn
    generalize w6.alloc _ = W6 at *
    generalize w6.heap.size = G3 at *
    have n2 : G3 ≠ G1 := by omega
    have n3 : G3 ≠ G2 := by omega
    have hn := hal W6 (.cells #[.int .i64 0, .int .i64 7] 3)
    replace hB := thenB hB hn
    replace hX := sevRB hX hn
    replace hY := sevRB hY hn
    replace hZ := sevRB hZ hn
    clear hn hl1 hl2
    obtain rfl | rfl : e = 0 ∨ e = 1 := by omega
    · replace me : bits .and .i64 a0 1 = 0 := me
      go_upto_region 34 with fail
      generalize W6.alloc _ = W7 at *
      replace hZ := HstSet.set0 hZ (.int .i64 0)
      replace hX := HstSet.setO hX n2 0 (.int .i64 0)
      replace hY := HstSet.setO hY n3 0 (.int .i64 0)
      replace hB := hB.setCell (p := ⟨G3, 0, none⟩) hl (.int .i64 0)
      generalize (World.setCell W7 _ _) = W8 at *
      clear hl n1 n2 n3
      go_upto_region 35 with (go_at_call 10; refine (CR0.out _).mono ?_; rintro e1 w8 ⟨rfl, hb⟩; replace hB := thenB hB hb; replace hX := sevRB hX hb; replace hY := sevRB hY hb; replace hZ := sevRB hZ hb; clear hb)
      go_upto_region 36 with (first | (go_at_call 18; refine (CI.out _).mono ?_; rintro e1 w9 ⟨rfl, hb⟩; replace hB := thenB hB hb; replace hX := sevRB hX hb; replace hY := sevRB hY hb; replace hZ := sevRB hZ hb; clear hb) | (go_at_call 17; refine (CF.out _).mono ?_; rintro e1 w10 ⟨rfl, hb⟩; replace hB := thenB hB hb; replace hX := sevRB hX hb; replace hY := sevRB hY hb; replace hZ := sevRB hZ hb; clear hb))
      have hn := hal w10 (.cells #[.int .i64 (-d), .int .i64 (65535 + d)] 3)
      replace hB := thenB hB hn
      replace hX := sevRB hX hn
      replace hY := sevRB hY hn
      replace hZ := sevRB hZ hn
      clear hn CI CF
      go_upto_region 37 with (go_at_call 8; refine (CSn.out _).mono ?_; rintro e1 w11 ⟨rfl, hb⟩; replace hB := thenB hB hb; replace hX := sevRB hX hb; replace hY := sevRB hY hb; replace hZ := sevRB hZ hb; clear hb)
      have hU := sevRM w11 (.int .i64 0) (.string ⟨#[]⟩) (.int .i64 0) (.bool false) (.int .i64 0) (.string ⟨#[]⟩) (.int .i64 0) 23
      have hn := hal w11 (.cells #[.int .i64 0, .string ⟨#[]⟩, .int .i64 0, .bool false, .int .i64 0, .string ⟨#[]⟩, .int .i64 0] 23)
      replace hB := thenB hB hn
      replace hX := sevRB hX hn
      replace hY := sevRB hY hn
      replace hZ := sevRB hZ hn
      clear hn CSn CSb CR0 CR7
      generalize w11.alloc _ = W11 at *
      generalize w11.heap.size = G4 at *
      go_wp2_with (first | (go_at_call 12; refine (num_any _ _).mono ?_; rintro e1 w' ⟨rfl, rfl⟩) | (go_at_call 13; (first | with_reducible refine (CG.out _).mono ?_ | with_reducible refine (CM0.out _).mono ?_ | with_reducible refine (CB.out _).mono ?_); rintro e1 w12 ⟨rfl, hb⟩; replace hB := thenB hB hb; replace hX := sevRB hX hb; replace hY := sevRB hY hb; replace hZ := sevRB hZ hb; replace hU := sevRB hU hb; clear hb))
      go_ret
      exact ⟨rfl, hB⟩
    · replace me : bits .and .i64 a0 1 = 1 := me
      go_upto_region 34 with fail
      generalize W6.alloc _ = W7 at *
      replace hZ := HstSet.set0 hZ (.int .i64 7)
      replace hX := HstSet.setO hX n2 0 (.int .i64 7)
      replace hY := HstSet.setO hY n3 0 (.int .i64 7)
      replace hB := hB.setCell (p := ⟨G3, 0, none⟩) hl (.int .i64 7)
      generalize (World.setCell W7 _ _) = W8 at *
      clear hl n1 n2 n3
      go_upto_region 35 with (go_at_call 10; refine (CR7.out _).mono ?_; rintro e1 w8 ⟨rfl, hb⟩; replace hB := thenB hB hb; replace hX := sevRB hX hb; replace hY := sevRB hY hb; replace hZ := sevRB hZ hb; clear hb)
      go_upto_region 36 with (first | (go_at_call 18; refine (CI.out _).mono ?_; rintro e1 w9 ⟨rfl, hb⟩; replace hB := thenB hB hb; replace hX := sevRB hX hb; replace hY := sevRB hY hb; replace hZ := sevRB hZ hb; clear hb) | (go_at_call 17; refine (CF.out _).mono ?_; rintro e1 w10 ⟨rfl, hb⟩; replace hB := thenB hB hb; replace hX := sevRB hX hb; replace hY := sevRB hY hb; replace hZ := sevRB hZ hb; clear hb))
      have hn := hal w10 (.cells #[.int .i64 (-d), .int .i64 (65535 + d)] 3)
      replace hB := thenB hB hn
      replace hX := sevRB hX hn
      replace hY := sevRB hY hn
      replace hZ := sevRB hZ hn
      clear hn CI CF
      go_upto_region 37 with (go_at_call 8; refine (CSb.out _).mono ?_; rintro e1 w11 ⟨rfl, hb⟩; replace hB := thenB hB hb; replace hX := sevRB hX hb; replace hY := sevRB hY hb; replace hZ := sevRB hZ hb; clear hb)
      have hU := sevRM w11 (.int .i64 0) (.string ⟨#[]⟩) (.int .i64 0) (.bool false) (.int .i64 0) (.string ⟨#[]⟩) (.int .i64 0) 23
      have hn := hal w11 (.cells #[.int .i64 0, .string ⟨#[]⟩, .int .i64 0, .bool false, .int .i64 0, .string ⟨#[]⟩, .int .i64 0] 23)
      replace hB := thenB hB hn
      replace hX := sevRB hX hn
      replace hY := sevRB hY hn
      replace hZ := sevRB hZ hn
      clear hn CSn CSb CR0 CR7
      generalize w11.alloc _ = W11 at *
      generalize w11.heap.size = G4 at *
      go_wp2_with (first | (go_at_call 12; refine (num_any _ _).mono ?_; rintro e1 w' ⟨rfl, rfl⟩) | (go_at_call 13; (first | with_reducible refine (CG.out _).mono ?_ | with_reducible refine (CM7.out _).mono ?_ | with_reducible refine (CB.out _).mono ?_); rintro e1 w12 ⟨rfl, hb⟩; replace hB := thenB hB hb; replace hX := sevRB hX hb; replace hY := sevRB hY hb; replace hZ := sevRB hZ hb; replace hU := sevRB hU hb; clear hb))
      go_ret
      exact ⟨rfl, hB⟩
  · replace mn : (IntKind.u64.wrap a0).tmod 12 = 5 := mn
    have hbad := bad5 d hd1
    have CA := hide (fun w => asks_not (ag := false) (ask_bad hbad) w)
    have CB := hide (fun w => may_is (ag := false) hbad w)
    unfold Asked at CA
    clear hbad
    generalize iotaS 40 = A at *
    go_enter Try.func4, Try.ntmps4
    go_upto_region 5 with (first | (go_at_call 15; refine (CW.out _).mono ?_; rintro e1 w1 ⟨rfl, hb⟩; replace hB := thenB hB hb; clear hb) | (go_at_call 16; refine (CC.out _).mono ?_; rintro e1 w2 ⟨rfl, hb⟩; replace hB := thenB hB hb; clear hb))
    try rw [hd]
    have hX := sevRM w2 (.int .i64 1) (.string A) (.int .i64 0) (.bool false) (.int .i64 0) (.string ⟨#[]⟩) (.int .i64 0) 23
    have hn := hal w2 (.cells #[.int .i64 1, .string A, .int .i64 0, .bool false, .int .i64 0, .string ⟨#[]⟩, .int .i64 0] 23)
    replace hB := thenB hB hn
    clear hn CW CC
    generalize w2.alloc _ = W3 at *
    generalize w2.heap.size = G1 at *
    go_upto_region 6 with fail
    have hY := sevRM W3 (.int .i64 1) (.string A) (.int .i64 0) (.bool false) (.int .i64 0) (.string ⟨#[]⟩) (.int .i64 0) 23
    have hn := hal W3 (.cells #[.int .i64 1, .string A, .int .i64 0, .bool false, .int .i64 0, .string ⟨#[]⟩, .int .i64 0] 23)
    have hl1 := hX.1
    have hl := hB.size
    replace hB := thenB hB hn
    replace hX := sevRB hX hn
    clear hn
    generalize W3.alloc _ = W4 at *
    generalize W3.heap.size = G2 at *
    have n1 : G2 ≠ G1 := by omega
    go_upto_region 31 with fail
    replace hX := HstSet.setO hX n1 2 (.int .i64 (2 + d))
    replace hY := HstSet.set2 hY (.int .i64 (2 + d))
    replace hB := hB.setCell (p := ⟨G2, 2, none⟩) hl (.int .i64 (2 + d))
    generalize (World.setCell W4 _ _) = W5 at *
    clear hl hl1
    go_upto_region 32 with (go_at_call 10; refine (CA.out _).mono ?_; rintro e1 w6 ⟨rfl, hb⟩; replace hB := thenB hB hb; replace hX := sevRB hX hb; replace hY := sevRB hY hb; clear hb)
    clear CA mn mk
    go_upto_region 33 with fail
    have hZ := sevRM w6 (.int .i64 1) (.string A) (.int .i64 0) (.bool false) (.int .i64 0) (.string ⟨#[]⟩) (.int .i64 0) 23
    have hn := hal w6 (.cells #[.int .i64 1, .string A, .int .i64 0, .bool false, .int .i64 0, .string ⟨#[]⟩, .int .i64 0] 23)
    have hl1 := hX.1
    have hl2 := hY.1
    have hl := hB.size
    replace hB := thenB hB hn
    replace hX := sevRB hX hn
    replace hY := sevRB hY hn
    clear hn
    generalize w6.alloc _ = W6 at *
    generalize w6.heap.size = G3 at *
    have n2 : G3 ≠ G1 := by omega
    have n3 : G3 ≠ G2 := by omega
    have hn := hal W6 (.cells #[.int .i64 0, .int .i64 7] 3)
    replace hB := thenB hB hn
    replace hX := sevRB hX hn
    replace hY := sevRB hY hn
    replace hZ := sevRB hZ hn
    clear hn hl1 hl2
    obtain rfl | rfl : e = 0 ∨ e = 1 := by omega
    · replace me : bits .and .i64 a0 1 = 0 := me
      go_upto_region 34 with fail
      generalize W6.alloc _ = W7 at *
      replace hZ := HstSet.set0 hZ (.int .i64 0)
      replace hX := HstSet.setO hX n2 0 (.int .i64 0)
      replace hY := HstSet.setO hY n3 0 (.int .i64 0)
      replace hB := hB.setCell (p := ⟨G3, 0, none⟩) hl (.int .i64 0)
      generalize (World.setCell W7 _ _) = W8 at *
      clear hl n1 n2 n3
      go_upto_region 35 with (go_at_call 10; refine (CR0.out _).mono ?_; rintro e1 w8 ⟨rfl, hb⟩; replace hB := thenB hB hb; replace hX := sevRB hX hb; replace hY := sevRB hY hb; replace hZ := sevRB hZ hb; clear hb)
      go_upto_region 36 with (first | (go_at_call 18; refine (CI.out _).mono ?_; rintro e1 w9 ⟨rfl, hb⟩; replace hB := thenB hB hb; replace hX := sevRB hX hb; replace hY := sevRB hY hb; replace hZ := sevRB hZ hb; clear hb) | (go_at_call 17; refine (CF.out _).mono ?_; rintro e1 w10 ⟨rfl, hb⟩; replace hB := thenB hB hb; replace hX := sevRB hX hb; replace hY := sevRB hY hb; replace hZ := sevRB hZ hb; clear hb))
      have hn := hal w10 (.cells #[.int .i64 (-d), .int .i64 (65535 + d)] 3)
      replace hB := thenB hB hn
      replace hX := sevRB hX hn
      replace hY := sevRB hY hn
      replace hZ := sevRB hZ hn
      clear hn CI CF
      go_upto_region 37 with (go_at_call 8; refine (CSn.out _).mono ?_; rintro e1 w11 ⟨rfl, hb⟩; replace hB := thenB hB hb; replace hX := sevRB hX hb; replace hY := sevRB hY hb; replace hZ := sevRB hZ hb; clear hb)
      have hU := sevRM w11 (.int .i64 0) (.string ⟨#[]⟩) (.int .i64 0) (.bool false) (.int .i64 0) (.string ⟨#[]⟩) (.int .i64 0) 23
      have hn := hal w11 (.cells #[.int .i64 0, .string ⟨#[]⟩, .int .i64 0, .bool false, .int .i64 0, .string ⟨#[]⟩, .int .i64 0] 23)
      replace hB := thenB hB hn
      replace hX := sevRB hX hn
      replace hY := sevRB hY hn
      replace hZ := sevRB hZ hn
      clear hn CSn CSb CR0 CR7
      generalize w11.alloc _ = W11 at *
      generalize w11.heap.size = G4 at *
      go_wp2_with (first | (go_at_call 12; refine (num_any _ _).mono ?_; rintro e1 w' ⟨rfl, rfl⟩) | (go_at_call 13; (first | with_reducible refine (CG.out _).mono ?_ | with_reducible refine (CM0.out _).mono ?_ | with_reducible refine (CB.out _).mono ?_); rintro e1 w12 ⟨rfl, hb⟩; replace hB := thenB hB hb; replace hX := sevRB hX hb; replace hY := sevRB hY hb; replace hZ := sevRB hZ hb; replace hU := sevRB hU hb; clear hb))
      go_ret
      exact ⟨rfl, hB⟩
    · replace me : bits .and .i64 a0 1 = 1 := me
      go_upto_region 34 with fail
      generalize W6.alloc _ = W7 at *
      replace hZ := HstSet.set0 hZ (.int .i64 7)
      replace hX := HstSet.setO hX n2 0 (.int .i64 7)
      replace hY := HstSet.setO hY n3 0 (.int .i64 7)
      replace hB := hB.setCell (p := ⟨G3, 0, none⟩) hl (.int .i64 7)
      generalize (World.setCell W7 _ _) = W8 at *
      clear hl n1 n2 n3
      go_upto_region 35 with (go_at_call 10; refine (CR7.out _).mono ?_; rintro e1 w8 ⟨rfl, hb⟩; replace hB := thenB hB hb; replace hX := sevRB hX hb; replace hY := sevRB hY hb; replace hZ := sevRB hZ hb; clear hb)
      go_upto_region 36 with (first | (go_at_call 18; refine (CI.out _).mono ?_; rintro e1 w9 ⟨rfl, hb⟩; replace hB := thenB hB hb; replace hX := sevRB hX hb; replace hY := sevRB hY hb; replace hZ := sevRB hZ hb; clear hb) | (go_at_call 17; refine (CF.out _).mono ?_; rintro e1 w10 ⟨rfl, hb⟩; replace hB := thenB hB hb; replace hX := sevRB hX hb; replace hY := sevRB hY hb; replace hZ := sevRB hZ hb; clear hb))
      have hn := hal w10 (.cells #[.int .i64 (-d), .int .i64 (65535 + d)] 3)
      replace hB := thenB hB hn
      replace hX := sevRB hX hn
      replace hY := sevRB hY hn
      replace hZ := sevRB hZ hn
      clear hn CI CF
      go_upto_region 37 with (go_at_call 8; refine (CSb.out _).mono ?_; rintro e1 w11 ⟨rfl, hb⟩; replace hB := thenB hB hb; replace hX := sevRB hX hb; replace hY := sevRB hY hb; replace hZ := sevRB hZ hb; clear hb)
      have hU := sevRM w11 (.int .i64 0) (.string ⟨#[]⟩) (.int .i64 0) (.bool false) (.int .i64 0) (.string ⟨#[]⟩) (.int .i64 0) 23
      have hn := hal w11 (.cells #[.int .i64 0, .string ⟨#[]⟩, .int .i64 0, .bool false, .int .i64 0, .string ⟨#[]⟩, .int .i64 0] 23)
      replace hB := thenB hB hn
      replace hX := sevRB hX hn
      replace hY := sevRB hY hn
      replace hZ := sevRB hZ hn
      clear hn CSn CSb CR0 CR7
      generalize w11.alloc _ = W11 at *
      generalize w11.heap.size = G4 at *
      go_wp2_with (first | (go_at_call 12; refine (num_any _ _).mono ?_; rintro e1 w' ⟨rfl, rfl⟩) | (go_at_call 13; (first | with_reducible refine (CG.out _).mono ?_ | with_reducible refine (CM7.out _).mono ?_ | with_reducible refine (CB.out _).mono ?_); rintro e1 w12 ⟨rfl, hb⟩; replace hB := thenB hB hb; replace hX := sevRB hX hb; replace hY := sevRB hY hb; replace hZ := sevRB hZ hb; replace hU := sevRB hU hb; clear hb))
      go_ret
      exact ⟨rfl, hB⟩
  · replace mn : (IntKind.u64.wrap a0).tmod 12 = 6 := mn
    have hbad := bad6 d hd1
    have CA := hide (fun w => asks_not (ag := false) (ask_bad hbad) w)
    have CB := hide (fun w => may_is (ag := false) hbad w)
    unfold Asked at CA
    clear hbad
    generalize iotaS 40 = A at *
    go_enter Try.func4, Try.ntmps4
    go_upto_region 5 with (first | (go_at_call 15; refine (CW.out _).mono ?_; rintro e1 w1 ⟨rfl, hb⟩; replace hB := thenB hB hb; clear hb) | (go_at_call 16; refine (CC.out _).mono ?_; rintro e1 w2 ⟨rfl, hb⟩; replace hB := thenB hB hb; clear hb))
    try rw [hd]
    have hX := sevRM w2 (.int .i64 1) (.string A) (.int .i64 0) (.bool false) (.int .i64 0) (.string ⟨#[]⟩) (.int .i64 0) 23
    have hn := hal w2 (.cells #[.int .i64 1, .string A, .int .i64 0, .bool false, .int .i64 0, .string ⟨#[]⟩, .int .i64 0] 23)
    replace hB := thenB hB hn
    clear hn CW CC
    generalize w2.alloc _ = W3 at *
    generalize w2.heap.size = G1 at *
    go_upto_region 6 with fail
    have hY := sevRM W3 (.int .i64 1) (.string A) (.int .i64 0) (.bool false) (.int .i64 0) (.string ⟨#[]⟩) (.int .i64 0) 23
    have hn := hal W3 (.cells #[.int .i64 1, .string A, .int .i64 0, .bool false, .int .i64 0, .string ⟨#[]⟩, .int .i64 0] 23)
    have hl1 := hX.1
    have hl := hB.size
    replace hB := thenB hB hn
    replace hX := sevRB hX hn
    clear hn
    generalize W3.alloc _ = W4 at *
    generalize W3.heap.size = G2 at *
    have n1 : G2 ≠ G1 := by omega
    go_upto_region 31 with fail
    replace hX := HstSet.setO hX n1 2 (.int .i64 (-d))
    replace hY := HstSet.set2 hY (.int .i64 (-d))
    replace hB := hB.setCell (p := ⟨G2, 2, none⟩) hl (.int .i64 (-d))
    generalize (World.setCell W4 _ _) = W5 at *
    clear hl hl1
    go_upto_region 32 with (go_at_call 10; refine (CA.out _).mono ?_; rintro e1 w6 ⟨rfl, hb⟩; replace hB := thenB hB hb; replace hX := sevRB hX hb; replace hY := sevRB hY hb; clear hb)
    clear CA mn mk
    go_upto_region 33 with fail
    have hZ := sevRM w6 (.int .i64 1) (.string A) (.int .i64 0) (.bool false) (.int .i64 0) (.string ⟨#[]⟩) (.int .i64 0) 23
    have hn := hal w6 (.cells #[.int .i64 1, .string A, .int .i64 0, .bool false, .int .i64 0, .string ⟨#[]⟩, .int .i64 0] 23)
    have hl1 := hX.1
    have hl2 := hY.1
    have hl := hB.size
    replace hB := thenB hB hn
    replace hX := sevRB hX hn
    replace hY := sevRB hY hn
    clear hn
    generalize w6.alloc _ = W6 at *
    generalize w6.heap.size = G3 at *
    have n2 : G3 ≠ G1 := by omega
    have n3 : G3 ≠ G2 := by omega
    have hn := hal W6 (.cells #[.int .i64 0, .int .i64 7] 3)
    replace hB := thenB hB hn
    replace hX := sevRB hX hn
    replace hY := sevRB hY hn
    replace hZ := sevRB hZ hn
    clear hn hl1 hl2
    obtain rfl | rfl : e = 0 ∨ e = 1 := by omega
    · replace me : bits .and .i64 a0 1 = 0 := me
      go_upto_region 34 with fail
      generalize W6.alloc _ = W7 at *
      replace hZ := HstSet.set0 hZ (.int .i64 0)
      replace hX := HstSet.setO hX n2 0 (.int .i64 0)
      replace hY := HstSet.setO hY n3 0 (.int .i64 0)
      replace hB := hB.setCell (p := ⟨G3, 0, none⟩) hl (.int .i64 0)
      generalize (World.setCell W7 _ _) = W8 at *
      clear hl n1 n2 n3
      go_upto_region 35 with (go_at_call 10; refine (CR0.out _).mono ?_; rintro e1 w8 ⟨rfl, hb⟩; replace hB := thenB hB hb; replace hX := sevRB hX hb; replace hY := sevRB hY hb; replace hZ := sevRB hZ hb; clear hb)
      go_upto_region 36 with (first | (go_at_call 18; refine (CI.out _).mono ?_; rintro e1 w9 ⟨rfl, hb⟩; replace hB := thenB hB hb; replace hX := sevRB hX hb; replace hY := sevRB hY hb; replace hZ := sevRB hZ hb; clear hb) | (go_at_call 17; refine (CF.out _).mono ?_; rintro e1 w10 ⟨rfl, hb⟩; replace hB := thenB hB hb; replace hX := sevRB hX hb; replace hY := sevRB hY hb; replace hZ := sevRB hZ hb; clear hb))
      have hn := hal w10 (.cells #[.int .i64 (-d), .int .i64 (65535 + d)] 3)
      replace hB := thenB hB hn
      replace hX := sevRB hX hn
      replace hY := sevRB hY hn
      replace hZ := sevRB hZ hn
      clear hn CI CF
      go_upto_region 37 with (go_at_call 8; refine (CSn.out _).mono ?_; rintro e1 w11 ⟨rfl, hb⟩; replace hB := thenB hB hb; replace hX := sevRB hX hb; replace hY := sevRB hY hb; replace hZ := sevRB hZ hb; clear hb)
      have hU := sevRM w11 (.int .i64 0) (.string ⟨#[]⟩) (.int .i64 0) (.bool false) (.int .i64 0) (.string ⟨#[]⟩) (.int .i64 0) 23
      have hn := hal w11 (.cells #[.int .i64 0, .string ⟨#[]⟩, .int .i64 0, .bool false, .int .i64 0, .string ⟨#[]⟩, .int .i64 0] 23)
      replace hB := thenB hB hn
      replace hX := sevRB hX hn
      replace hY := sevRB hY hn
      replace hZ := sevRB hZ hn
      clear hn CSn CSb CR0 CR7
      generalize w11.alloc _ = W11 at *
      generalize w11.heap.size = G4 at *
      go_wp2_with (first | (go_at_call 12; refine (num_any _ _).mono ?_; rintro e1 w' ⟨rfl, rfl⟩) | (go_at_call 13; (first | with_reducible refine (CG.out _).mono ?_ | with_reducible refine (CM0.out _).mono ?_ | with_reducible refine (CB.out _).mono ?_); rintro e1 w12 ⟨rfl, hb⟩; replace hB := thenB hB hb; replace hX := sevRB hX hb; replace hY := sevRB hY hb; replace hZ := sevRB hZ hb; replace hU := sevRB hU hb; clear hb))
      go_ret
      exact ⟨rfl, hB⟩
    · replace me : bits .and .i64 a0 1 = 1 := me
      go_upto_region 34 with fail
      generalize W6.alloc _ = W7 at *
      replace hZ := HstSet.set0 hZ (.int .i64 7)
      replace hX := HstSet.setO hX n2 0 (.int .i64 7)
      replace hY := HstSet.setO hY n3 0 (.int .i64 7)
      replace hB := hB.setCell (p := ⟨G3, 0, none⟩) hl (.int .i64 7)
      generalize (World.setCell W7 _ _) = W8 at *
      clear hl n1 n2 n3
      go_upto_region 35 with (go_at_call 10; refine (CR7.out _).mono ?_; rintro e1 w8 ⟨rfl, hb⟩; replace hB := thenB hB hb; replace hX := sevRB hX hb; replace hY := sevRB hY hb; replace hZ := sevRB hZ hb; clear hb)
      go_upto_region 36 with (first | (go_at_call 18; refine (CI.out _).mono ?_; rintro e1 w9 ⟨rfl, hb⟩; replace hB := thenB hB hb; replace hX := sevRB hX hb; replace hY := sevRB hY hb; replace hZ := sevRB hZ hb; clear hb) | (go_at_call 17; refine (CF.out _).mono ?_; rintro e1 w10 ⟨rfl, hb⟩; replace hB := thenB hB hb; replace hX := sevRB hX hb; replace hY := sevRB hY hb; replace hZ := sevRB hZ hb; clear hb))
      have hn := hal w10 (.cells #[.int .i64 (-d), .int .i64 (65535 + d)] 3)
      replace hB := thenB hB hn
      replace hX := sevRB hX hn
      replace hY := sevRB hY hn
      replace hZ := sevRB hZ hn
      clear hn CI CF
      go_upto_region 37 with (go_at_call 8; refine (CSb.out _).mono ?_; rintro e1 w11 ⟨rfl, hb⟩; replace hB := thenB hB hb; replace hX := sevRB hX hb; replace hY := sevRB hY hb; replace hZ := sevRB hZ hb; clear hb)
      have hU := sevRM w11 (.int .i64 0) (.string ⟨#[]⟩) (.int .i64 0) (.bool false) (.int .i64 0) (.string ⟨#[]⟩) (.int .i64 0) 23
      have hn := hal w11 (.cells #[.int .i64 0, .string ⟨#[]⟩, .int .i64 0, .bool false, .int .i64 0, .string ⟨#[]⟩, .int .i64 0] 23)
      replace hB := thenB hB hn
      replace hX := sevRB hX hn
      replace hY := sevRB hY hn
      replace hZ := sevRB hZ hn
      clear hn CSn CSb CR0 CR7
      generalize w11.alloc _ = W11 at *
      generalize w11.heap.size = G4 at *
      go_wp2_with (first | (go_at_call 12; refine (num_any _ _).mono ?_; rintro e1 w' ⟨rfl, rfl⟩) | (go_at_call 13; (first | with_reducible refine (CG.out _).mono ?_ | with_reducible refine (CM7.out _).mono ?_ | with_reducible refine (CB.out _).mono ?_); rintro e1 w12 ⟨rfl, hb⟩; replace hB := thenB hB hb; replace hX := sevRB hX hb; replace hY := sevRB hY hb; replace hZ := sevRB hZ hb; replace hU := sevRB hU hb; clear hb))
      go_ret
      exact ⟨rfl, hB⟩
  · replace mn : (IntKind.u64.wrap a0).tmod 12 = 7 := mn
    have hbad := bad7 d hd1
    have CA := hide (fun w => asks_not (ag := false) (ask_bad hbad) w)
    have CB := hide (fun w => may_is (ag := false) hbad w)
    unfold Asked at CA
    clear hbad
    generalize iotaS 40 = A at *
    go_enter Try.func4, Try.ntmps4
    go_upto_region 5 with (first | (go_at_call 15; refine (CW.out _).mono ?_; rintro e1 w1 ⟨rfl, hb⟩; replace hB := thenB hB hb; clear hb) | (go_at_call 16; refine (CC.out _).mono ?_; rintro e1 w2 ⟨rfl, hb⟩; replace hB := thenB hB hb; clear hb))
    try rw [hd]
    have hX := sevRM w2 (.int .i64 1) (.string A) (.int .i64 0) (.bool false) (.int .i64 0) (.string ⟨#[]⟩) (.int .i64 0) 23
    have hn := hal w2 (.cells #[.int .i64 1, .string A, .int .i64 0, .bool false, .int .i64 0, .string ⟨#[]⟩, .int .i64 0] 23)
    replace hB := thenB hB hn
    clear hn CW CC
    generalize w2.alloc _ = W3 at *
    generalize w2.heap.size = G1 at *
    go_upto_region 6 with fail
    have hY := sevRM W3 (.int .i64 1) (.string A) (.int .i64 0) (.bool false) (.int .i64 0) (.string ⟨#[]⟩) (.int .i64 0) 23
    have hn := hal W3 (.cells #[.int .i64 1, .string A, .int .i64 0, .bool false, .int .i64 0, .string ⟨#[]⟩, .int .i64 0] 23)
    have hl1 := hX.1
    have hl := hB.size
    replace hB := thenB hB hn
    replace hX := sevRB hX hn
    clear hn
    generalize W3.alloc _ = W4 at *
    generalize W3.heap.size = G2 at *
    have n1 : G2 ≠ G1 := by omega
    go_upto_region 31 with fail
    replace hX := HstSet.setO hX n1 4 (.int .i64 (8 + d))
    replace hY := HstSet.set4 hY (.int .i64 (8 + d))
    replace hB := hB.setCell (p := ⟨G2, 4, none⟩) hl (.int .i64 (8 + d))
    generalize (World.setCell W4 _ _) = W5 at *
    clear hl hl1
    go_upto_region 32 with (go_at_call 10; refine (CA.out _).mono ?_; rintro e1 w6 ⟨rfl, hb⟩; replace hB := thenB hB hb; replace hX := sevRB hX hb; replace hY := sevRB hY hb; clear hb)
    clear CA mn mk
    go_upto_region 33 with fail
    have hZ := sevRM w6 (.int .i64 1) (.string A) (.int .i64 0) (.bool false) (.int .i64 0) (.string ⟨#[]⟩) (.int .i64 0) 23
    have hn := hal w6 (.cells #[.int .i64 1, .string A, .int .i64 0, .bool false, .int .i64 0, .string ⟨#[]⟩, .int .i64 0] 23)
    have hl1 := hX.1
    have hl2 := hY.1
    have hl := hB.size
    replace hB := thenB hB hn
    replace hX := sevRB hX hn
    replace hY := sevRB hY hn
    clear hn
    generalize w6.alloc _ = W6 at *
    generalize w6.heap.size = G3 at *
    have n2 : G3 ≠ G1 := by omega
    have n3 : G3 ≠ G2 := by omega
    have hn := hal W6 (.cells #[.int .i64 0, .int .i64 7] 3)
    replace hB := thenB hB hn
    replace hX := sevRB hX hn
    replace hY := sevRB hY hn
    replace hZ := sevRB hZ hn
    clear hn hl1 hl2
    obtain rfl | rfl : e = 0 ∨ e = 1 := by omega
    · replace me : bits .and .i64 a0 1 = 0 := me
      go_upto_region 34 with fail
      generalize W6.alloc _ = W7 at *
      replace hZ := HstSet.set0 hZ (.int .i64 0)
      replace hX := HstSet.setO hX n2 0 (.int .i64 0)
      replace hY := HstSet.setO hY n3 0 (.int .i64 0)
      replace hB := hB.setCell (p := ⟨G3, 0, none⟩) hl (.int .i64 0)
      generalize (World.setCell W7 _ _) = W8 at *
      clear hl n1 n2 n3
      go_upto_region 35 with (go_at_call 10; refine (CR0.out _).mono ?_; rintro e1 w8 ⟨rfl, hb⟩; replace hB := thenB hB hb; replace hX := sevRB hX hb; replace hY := sevRB hY hb; replace hZ := sevRB hZ hb; clear hb)
      go_upto_region 36 with (first | (go_at_call 18; refine (CI.out _).mono ?_; rintro e1 w9 ⟨rfl, hb⟩; replace hB := thenB hB hb; replace hX := sevRB hX hb; replace hY := sevRB hY hb; replace hZ := sevRB hZ hb; clear hb) | (go_at_call 17; refine (CF.out _).mono ?_; rintro e1 w10 ⟨rfl, hb⟩; replace hB := thenB hB hb; replace hX := sevRB hX hb; replace hY := sevRB hY hb; replace hZ := sevRB hZ hb; clear hb))
      have hn := hal w10 (.cells #[.int .i64 (-d), .int .i64 (65535 + d)] 3)
      replace hB := thenB hB hn
      replace hX := sevRB hX hn
      replace hY := sevRB hY hn
      replace hZ := sevRB hZ hn
      clear hn CI CF
      go_upto_region 37 with (go_at_call 8; refine (CSn.out _).mono ?_; rintro e1 w11 ⟨rfl, hb⟩; replace hB := thenB hB hb; replace hX := sevRB hX hb; replace hY := sevRB hY hb; replace hZ := sevRB hZ hb; clear hb)
      have hU := sevRM w11 (.int .i64 0) (.string ⟨#[]⟩) (.int .i64 0) (.bool false) (.int .i64 0) (.string ⟨#[]⟩) (.int .i64 0) 23
      have hn := hal w11 (.cells #[.int .i64 0, .string ⟨#[]⟩, .int .i64 0, .bool false, .int .i64 0, .string ⟨#[]⟩, .int .i64 0] 23)
      replace hB := thenB hB hn
      replace hX := sevRB hX hn
      replace hY := sevRB hY hn
      replace hZ := sevRB hZ hn
      clear hn CSn CSb CR0 CR7
      generalize w11.alloc _ = W11 at *
      generalize w11.heap.size = G4 at *
      go_wp2_with (first | (go_at_call 12; refine (num_any _ _).mono ?_; rintro e1 w' ⟨rfl, rfl⟩) | (go_at_call 13; (first | with_reducible refine (CG.out _).mono ?_ | with_reducible refine (CM0.out _).mono ?_ | with_reducible refine (CB.out _).mono ?_); rintro e1 w12 ⟨rfl, hb⟩; replace hB := thenB hB hb; replace hX := sevRB hX hb; replace hY := sevRB hY hb; replace hZ := sevRB hZ hb; replace hU := sevRB hU hb; clear hb))
      go_ret
      exact ⟨rfl, hB⟩
    · replace me : bits .and .i64 a0 1 = 1 := me
      go_upto_region 34 with fail
      generalize W6.alloc _ = W7 at *
      replace hZ := HstSet.set0 hZ (.int .i64 7)
      replace hX := HstSet.setO hX n2 0 (.int .i64 7)
      replace hY := HstSet.setO hY n3 0 (.int .i64 7)
      replace hB := hB.setCell (p := ⟨G3, 0, none⟩) hl (.int .i64 7)
      generalize (World.setCell W7 _ _) = W8 at *
      clear hl n1 n2 n3
      go_upto_region 35 with (go_at_call 10; refine (CR7.out _).mono ?_; rintro e1 w8 ⟨rfl, hb⟩; replace hB := thenB hB hb; replace hX := sevRB hX hb; replace hY := sevRB hY hb; replace hZ := sevRB hZ hb; clear hb)
      go_upto_region 36 with (first | (go_at_call 18; refine (CI.out _).mono ?_; rintro e1 w9 ⟨rfl, hb⟩; replace hB := thenB hB hb; replace hX := sevRB hX hb; replace hY := sevRB hY hb; replace hZ := sevRB hZ hb; clear hb) | (go_at_call 17; refine (CF.out _).mono ?_; rintro e1 w10 ⟨rfl, hb⟩; replace hB := thenB hB hb; replace hX := sevRB hX hb; replace hY := sevRB hY hb; replace hZ := sevRB hZ hb; clear hb))
      have hn := hal w10 (.cells #[.int .i64 (-d), .int .i64 (65535 + d)] 3)
      replace hB := thenB hB hn
      replace hX := sevRB hX hn
      replace hY := sevRB hY hn
      replace hZ := sevRB hZ hn
      clear hn CI CF
      go_upto_region 37 with (go_at_call 8; refine (CSb.out _).mono ?_; rintro e1 w11 ⟨rfl, hb⟩; replace hB := thenB hB hb; replace hX := sevRB hX hb; replace hY := sevRB hY hb; replace hZ := sevRB hZ hb; clear hb)
      have hU := sevRM w11 (.int .i64 0) (.string ⟨#[]⟩) (.int .i64 0) (.bool false) (.int .i64 0) (.string ⟨#[]⟩) (.int .i64 0) 23
      have hn := hal w11 (.cells #[.int .i64 0, .string ⟨#[]⟩, .int .i64 0, .bool false, .int .i64 0, .string ⟨#[]⟩, .int .i64 0] 23)
      replace hB := thenB hB hn
      replace hX := sevRB hX hn
      replace hY := sevRB hY hn
      replace hZ := sevRB hZ hn
      clear hn CSn CSb CR0 CR7
      generalize w11.alloc _ = W11 at *
      generalize w11.heap.size = G4 at *
      go_wp2_with (first | (go_at_call 12; refine (num_any _ _).mono ?_; rintro e1 w' ⟨rfl, rfl⟩) | (go_at_call 13; (first | with_reducible refine (CG.out _).mono ?_ | with_reducible refine (CM7.out _).mono ?_ | with_reducible refine (CB.out _).mono ?_); rintro e1 w12 ⟨rfl, hb⟩; replace hB := thenB hB hb; replace hX := sevRB hX hb; replace hY := sevRB hY hb; replace hZ := sevRB hZ hb; replace hU := sevRB hU hb; clear hb))
      go_ret
      exact ⟨rfl, hB⟩
  · replace mn : (IntKind.u64.wrap a0).tmod 12 = 8 := mn
    have hbad := bad8 d hd1
    have CA := hide (fun w => asks_not (ag := false) (ask_bad hbad) w)
    have CB := hide (fun w => may_is (ag := false) hbad w)
    unfold Asked at CA
    clear hbad
    generalize iotaS 40 = A at *
    go_enter Try.func4, Try.ntmps4
    go_upto_region 5 with (first | (go_at_call 15; refine (CW.out _).mono ?_; rintro e1 w1 ⟨rfl, hb⟩; replace hB := thenB hB hb; clear hb) | (go_at_call 16; refine (CC.out _).mono ?_; rintro e1 w2 ⟨rfl, hb⟩; replace hB := thenB hB hb; clear hb))
    try rw [hd]
    have hX := sevRM w2 (.int .i64 1) (.string A) (.int .i64 0) (.bool false) (.int .i64 0) (.string ⟨#[]⟩) (.int .i64 0) 23
    have hn := hal w2 (.cells #[.int .i64 1, .string A, .int .i64 0, .bool false, .int .i64 0, .string ⟨#[]⟩, .int .i64 0] 23)
    replace hB := thenB hB hn
    clear hn CW CC
    generalize w2.alloc _ = W3 at *
    generalize w2.heap.size = G1 at *
    go_upto_region 6 with fail
    have hY := sevRM W3 (.int .i64 1) (.string A) (.int .i64 0) (.bool false) (.int .i64 0) (.string ⟨#[]⟩) (.int .i64 0) 23
    have hn := hal W3 (.cells #[.int .i64 1, .string A, .int .i64 0, .bool false, .int .i64 0, .string ⟨#[]⟩, .int .i64 0] 23)
    have hl1 := hX.1
    have hl := hB.size
    replace hB := thenB hB hn
    replace hX := sevRB hX hn
    clear hn
    generalize W3.alloc _ = W4 at *
    generalize W3.heap.size = G2 at *
    have n1 : G2 ≠ G1 := by omega
    go_upto_region 31 with fail
    replace hX := HstSet.setO hX n1 4 (.int .i64 (-d))
    replace hY := HstSet.set4 hY (.int .i64 (-d))
    replace hB := hB.setCell (p := ⟨G2, 4, none⟩) hl (.int .i64 (-d))
    generalize (World.setCell W4 _ _) = W5 at *
    clear hl hl1
    go_upto_region 32 with (go_at_call 10; refine (CA.out _).mono ?_; rintro e1 w6 ⟨rfl, hb⟩; replace hB := thenB hB hb; replace hX := sevRB hX hb; replace hY := sevRB hY hb; clear hb)
    clear CA mn mk
    go_upto_region 33 with fail
    have hZ := sevRM w6 (.int .i64 1) (.string A) (.int .i64 0) (.bool false) (.int .i64 0) (.string ⟨#[]⟩) (.int .i64 0) 23
    have hn := hal w6 (.cells #[.int .i64 1, .string A, .int .i64 0, .bool false, .int .i64 0, .string ⟨#[]⟩, .int .i64 0] 23)
    have hl1 := hX.1
    have hl2 := hY.1
    have hl := hB.size
    replace hB := thenB hB hn
    replace hX := sevRB hX hn
    replace hY := sevRB hY hn
    clear hn
    generalize w6.alloc _ = W6 at *
    generalize w6.heap.size = G3 at *
    have n2 : G3 ≠ G1 := by omega
    have n3 : G3 ≠ G2 := by omega
    have hn := hal W6 (.cells #[.int .i64 0, .int .i64 7] 3)
    replace hB := thenB hB hn
    replace hX := sevRB hX hn
    replace hY := sevRB hY hn
    replace hZ := sevRB hZ hn
    clear hn hl1 hl2
    obtain rfl | rfl : e = 0 ∨ e = 1 := by omega
    · replace me : bits .and .i64 a0 1 = 0 := me
      go_upto_region 34 with fail
      generalize W6.alloc _ = W7 at *
      replace hZ := HstSet.set0 hZ (.int .i64 0)
      replace hX := HstSet.setO hX n2 0 (.int .i64 0)
      replace hY := HstSet.setO hY n3 0 (.int .i64 0)
      replace hB := hB.setCell (p := ⟨G3, 0, none⟩) hl (.int .i64 0)
      generalize (World.setCell W7 _ _) = W8 at *
      clear hl n1 n2 n3
      go_upto_region 35 with (go_at_call 10; refine (CR0.out _).mono ?_; rintro e1 w8 ⟨rfl, hb⟩; replace hB := thenB hB hb; replace hX := sevRB hX hb; replace hY := sevRB hY hb; replace hZ := sevRB hZ hb; clear hb)
      go_upto_region 36 with (first | (go_at_call 18; refine (CI.out _).mono ?_; rintro e1 w9 ⟨rfl, hb⟩; replace hB := thenB hB hb; replace hX := sevRB hX hb; replace hY := sevRB hY hb; replace hZ := sevRB hZ hb; clear hb) | (go_at_call 17; refine (CF.out _).mono ?_; rintro e1 w10 ⟨rfl, hb⟩; replace hB := thenB hB hb; replace hX := sevRB hX hb; replace hY := sevRB hY hb; replace hZ := sevRB hZ hb; clear hb))
      have hn := hal w10 (.cells #[.int .i64 (-d), .int .i64 (65535 + d)] 3)
      replace hB := thenB hB hn
      replace hX := sevRB hX hn
      replace hY := sevRB hY hn
      replace hZ := sevRB hZ hn
      clear hn CI CF
      go_upto_region 37 with (go_at_call 8; refine (CSn.out _).mono ?_; rintro e1 w11 ⟨rfl, hb⟩; replace hB := thenB hB hb; replace hX := sevRB hX hb; replace hY := sevRB hY hb; replace hZ := sevRB hZ hb; clear hb)
      have hU := sevRM w11 (.int .i64 0) (.string ⟨#[]⟩) (.int .i64 0) (.bool false) (.int .i64 0) (.string ⟨#[]⟩) (.int .i64 0) 23
      have hn := hal w11 (.cells #[.int .i64 0, .string ⟨#[]⟩, .int .i64 0, .bool false, .int .i64 0, .string ⟨#[]⟩, .int .i64 0] 23)
      replace hB := thenB hB hn
      replace hX := sevRB hX hn
      replace hY := sevRB hY hn
      replace hZ := sevRB hZ hn
      clear hn CSn CSb CR0 CR7
      generalize w11.alloc _ = W11 at *
      generalize w11.heap.size = G4 at *
      go_wp2_with (first | (go_at_call 12; refine (num_any _ _).mono ?_; rintro e1 w' ⟨rfl, rfl⟩) | (go_at_call 13; (first | with_reducible refine (CG.out _).mono ?_ | with_reducible refine (CM0.out _).mono ?_ | with_reducible refine (CB.out _).mono ?_); rintro e1 w12 ⟨rfl, hb⟩; replace hB := thenB hB hb; replace hX := sevRB hX hb; replace hY := sevRB hY hb; replace hZ := sevRB hZ hb; replace hU := sevRB hU hb; clear hb))
      go_ret
      exact ⟨rfl, hB⟩
    · replace me : bits .and .i64 a0 1 = 1 := me
      go_upto_region 34 with fail
      generalize W6.alloc _ = W7 at *
      replace hZ := HstSet.set0 hZ (.int .i64 7)
      replace hX := HstSet.setO hX n2 0 (.int .i64 7)
      replace hY := HstSet.setO hY n3 0 (.int .i64 7)
      replace hB := hB.setCell (p := ⟨G3, 0, none⟩) hl (.int .i64 7)
      generalize (World.setCell W7 _ _) = W8 at *
      clear hl n1 n2 n3
      go_upto_region 35 with (go_at_call 10; refine (CR7.out _).mono ?_; rintro e1 w8 ⟨rfl, hb⟩; replace hB := thenB hB hb; replace hX := sevRB hX hb; replace hY := sevRB hY hb; replace hZ := sevRB hZ hb; clear hb)
      go_upto_region 36 with (first | (go_at_call 18; refine (CI.out _).mono ?_; rintro e1 w9 ⟨rfl, hb⟩; replace hB := thenB hB hb; replace hX := sevRB hX hb; replace hY := sevRB hY hb; replace hZ := sevRB hZ hb; clear hb) | (go_at_call 17; refine (CF.out _).mono ?_; rintro e1 w10 ⟨rfl, hb⟩; replace hB := thenB hB hb; replace hX := sevRB hX hb; replace hY := sevRB hY hb; replace hZ := sevRB hZ hb; clear hb))
      have hn := hal w10 (.cells #[.int .i64 (-d), .int .i64 (65535 + d)] 3)
      replace hB := thenB hB hn
      replace hX := sevRB hX hn
      replace hY := sevRB hY hn
      replace hZ := sevRB hZ hn
      clear hn CI CF
      go_upto_region 37 with (go_at_call 8; refine (CSb.out _).mono ?_; rintro e1 w11 ⟨rfl, hb⟩; replace hB := thenB hB hb; replace hX := sevRB hX hb; replace hY := sevRB hY hb; replace hZ := sevRB hZ hb; clear hb)
      have hU := sevRM w11 (.int .i64 0) (.string ⟨#[]⟩) (.int .i64 0) (.bool false) (.int .i64 0) (.string ⟨#[]⟩) (.int .i64 0) 23
      have hn := hal w11 (.cells #[.int .i64 0, .string ⟨#[]⟩, .int .i64 0, .bool false, .int .i64 0, .string ⟨#[]⟩, .int .i64 0] 23)
      replace hB := thenB hB hn
      replace hX := sevRB hX hn
      replace hY := sevRB hY hn
      replace hZ := sevRB hZ hn
      clear hn CSn CSb CR0 CR7
      generalize w11.alloc _ = W11 at *
      generalize w11.heap.size = G4 at *
      go_wp2_with (first | (go_at_call 12; refine (num_any _ _).mono ?_; rintro e1 w' ⟨rfl, rfl⟩) | (go_at_call 13; (first | with_reducible refine (CG.out _).mono ?_ | with_reducible refine (CM7.out _).mono ?_ | with_reducible refine (CB.out _).mono ?_); rintro e1 w12 ⟨rfl, hb⟩; replace hB := thenB hB hb; replace hX := sevRB hX hb; replace hY := sevRB hY hb; replace hZ := sevRB hZ hb; replace hU := sevRB hU hb; clear hb))
      go_ret
      exact ⟨rfl, hB⟩
  · replace mn : (IntKind.u64.wrap a0).tmod 12 = 9 := mn
    obtain ⟨D, hD⟩ : ∃ D : Nat, 320 + d = (D : Int) := ⟨(320 + d).toNat, by omega⟩
    have hbad := bad9 d hd1 D hD
    have hmd : ∀ w : World, (Instr.makeSlice 41 (.int .i64 (D : Int)) (.int .i64 (D : Int))).run Try.prog w = .ok (.slice (some ⟨w.heap.size, 0, none⟩) D D) (w.alloc (.cells (madeBytes D) 5)) := fun w => by
      exact run_make_bytes (P := Try.prog) w 41 5 Try.underlying41 info_u8 D (by omega)
    have htd := fun w => text_zeros w D
    generalize zeros D = Z at *
    have CA := hide (fun w => asks_not (ag := false) (ask_bad hbad) w)
    have CB := hide (fun w => may_is (ag := false) hbad w)
    unfold Asked at CA
    clear hbad
    generalize iotaS 40 = A at *
    go_enter Try.func4, Try.ntmps4
    go_upto_region 5 with (first | (go_at_call 15; refine (CW.out _).mono ?_; rintro e1 w1 ⟨rfl, hb⟩; replace hB := thenB hB hb; clear hb) | (go_at_call 16; refine (CC.out _).mono ?_; rintro e1 w2 ⟨rfl, hb⟩; replace hB := thenB hB hb; clear hb))
    try rw [hd]
    have hX := sevRM w2 (.int .i64 1) (.string A) (.int .i64 0) (.bool false) (.int .i64 0) (.string ⟨#[]⟩) (.int .i64 0) 23
    have hn := hal w2 (.cells #[.int .i64 1, .string A, .int .i64 0, .bool false, .int .i64 0, .string ⟨#[]⟩, .int .i64 0] 23)
    replace hB := thenB hB hn
    clear hn CW CC
    generalize w2.alloc _ = W3 at *
    generalize w2.heap.size = G1 at *
    go_upto_region 6 with fail
    have hY := sevRM W3 (.int .i64 1) (.string A) (.int .i64 0) (.bool false) (.int .i64 0) (.string ⟨#[]⟩) (.int .i64 0) 23
    have hn := hal W3 (.cells #[.int .i64 1, .string A, .int .i64 0, .bool false, .int .i64 0, .string ⟨#[]⟩, .int .i64 0] 23)
    have hl1 := hX.1
    have hl := hB.size
    replace hB := thenB hB hn
    replace hX := sevRB hX hn
    clear hn
    generalize W3.alloc _ = W4 at *
    generalize W3.heap.size = G2 at *
    have n1 : G2 ≠ G1 := by omega
    go_upto_region 31 with fail
    replace hX := HstSet.setO hX n1 5 (.string Z)
    replace hY := HstSet.set5 hY (.string Z)
    replace hB := hB.setCell (p := ⟨G2, 5, none⟩) hl (.string Z)
    generalize (World.setCell W4 _ _) = W4b at *
    have hn := hal W4b (.cells (madeBytes D) 5)
    replace hB := thenB hB hn
    replace hX := sevRB hX hn
    replace hY := sevRB hY hn
    clear hn
    generalize W4b.alloc _ = W5 at *
    clear hl hl1
    go_upto_region 32 with (go_at_call 10; refine (CA.out _).mono ?_; rintro e1 w6 ⟨rfl, hb⟩; replace hB := thenB hB hb; replace hX := sevRB hX hb; replace hY := sevRB hY hb; clear hb)
    clear CA mn mk
    go_upto_region 33 with fail
    have hZ := sevRM w6 (.int .i64 1) (.string A) (.int .i64 0) (.bool false) (.int .i64 0) (.string ⟨#[]⟩) (.int .i64 0) 23
    have hn := hal w6 (.cells #[.int .i64 1, .string A, .int .i64 0, .bool false, .int .i64 0, .string ⟨#[]⟩, .int .i64 0] 23)
    have hl1 := hX.1
    have hl2 := hY.1
    have hl := hB.size
    replace hB := thenB hB hn
    replace hX := sevRB hX hn
    replace hY := sevRB hY hn
    clear hn
    generalize w6.alloc _ = W6 at *
    generalize w6.heap.size = G3 at *
    have n2 : G3 ≠ G1 := by omega
    have n3 : G3 ≠ G2 := by omega
    have hn := hal W6 (.cells #[.int .i64 0, .int .i64 7] 3)
    replace hB := thenB hB hn
    replace hX := sevRB hX hn
    replace hY := sevRB hY hn
    replace hZ := sevRB hZ hn
    clear hn hl1 hl2
    obtain rfl | rfl : e = 0 ∨ e = 1 := by omega
    · replace me : bits .and .i64 a0 1 = 0 := me
      go_upto_region 34 with fail
      generalize W6.alloc _ = W7 at *
      replace hZ := HstSet.set0 hZ (.int .i64 0)
      replace hX := HstSet.setO hX n2 0 (.int .i64 0)
      replace hY := HstSet.setO hY n3 0 (.int .i64 0)
      replace hB := hB.setCell (p := ⟨G3, 0, none⟩) hl (.int .i64 0)
      generalize (World.setCell W7 _ _) = W8 at *
      clear hl n1 n2 n3
      go_upto_region 35 with (go_at_call 10; refine (CR0.out _).mono ?_; rintro e1 w8 ⟨rfl, hb⟩; replace hB := thenB hB hb; replace hX := sevRB hX hb; replace hY := sevRB hY hb; replace hZ := sevRB hZ hb; clear hb)
      go_upto_region 36 with (first | (go_at_call 18; refine (CI.out _).mono ?_; rintro e1 w9 ⟨rfl, hb⟩; replace hB := thenB hB hb; replace hX := sevRB hX hb; replace hY := sevRB hY hb; replace hZ := sevRB hZ hb; clear hb) | (go_at_call 17; refine (CF.out _).mono ?_; rintro e1 w10 ⟨rfl, hb⟩; replace hB := thenB hB hb; replace hX := sevRB hX hb; replace hY := sevRB hY hb; replace hZ := sevRB hZ hb; clear hb))
      have hn := hal w10 (.cells #[.int .i64 (-d), .int .i64 (65535 + d)] 3)
      replace hB := thenB hB hn
      replace hX := sevRB hX hn
      replace hY := sevRB hY hn
      replace hZ := sevRB hZ hn
      clear hn CI CF
      go_upto_region 37 with (go_at_call 8; refine (CSn.out _).mono ?_; rintro e1 w11 ⟨rfl, hb⟩; replace hB := thenB hB hb; replace hX := sevRB hX hb; replace hY := sevRB hY hb; replace hZ := sevRB hZ hb; clear hb)
      have hU := sevRM w11 (.int .i64 0) (.string ⟨#[]⟩) (.int .i64 0) (.bool false) (.int .i64 0) (.string ⟨#[]⟩) (.int .i64 0) 23
      have hn := hal w11 (.cells #[.int .i64 0, .string ⟨#[]⟩, .int .i64 0, .bool false, .int .i64 0, .string ⟨#[]⟩, .int .i64 0] 23)
      replace hB := thenB hB hn
      replace hX := sevRB hX hn
      replace hY := sevRB hY hn
      replace hZ := sevRB hZ hn
      clear hn CSn CSb CR0 CR7
      generalize w11.alloc _ = W11 at *
      generalize w11.heap.size = G4 at *
      go_wp2_with (first | (go_at_call 12; refine (num_any _ _).mono ?_; rintro e1 w' ⟨rfl, rfl⟩) | (go_at_call 13; (first | with_reducible refine (CG.out _).mono ?_ | with_reducible refine (CM0.out _).mono ?_ | with_reducible refine (CB.out _).mono ?_); rintro e1 w12 ⟨rfl, hb⟩; replace hB := thenB hB hb; replace hX := sevRB hX hb; replace hY := sevRB hY hb; replace hZ := sevRB hZ hb; replace hU := sevRB hU hb; clear hb))
      go_ret
      exact ⟨rfl, hB⟩
    · replace me : bits .and .i64 a0 1 = 1 := me
      go_upto_region 34 with fail
      generalize W6.alloc _ = W7 at *
      replace hZ := HstSet.set0 hZ (.int .i64 7)
      replace hX := HstSet.setO hX n2 0 (.int .i64 7)
      replace hY := HstSet.setO hY n3 0 (.int .i64 7)
      replace hB := hB.setCell (p := ⟨G3, 0, none⟩) hl (.int .i64 7)
      generalize (World.setCell W7 _ _) = W8 at *
      clear hl n1 n2 n3
      go_upto_region 35 with (go_at_call 10; refine (CR7.out _).mono ?_; rintro e1 w8 ⟨rfl, hb⟩; replace hB := thenB hB hb; replace hX := sevRB hX hb; replace hY := sevRB hY hb; replace hZ := sevRB hZ hb; clear hb)
      go_upto_region 36 with (first | (go_at_call 18; refine (CI.out _).mono ?_; rintro e1 w9 ⟨rfl, hb⟩; replace hB := thenB hB hb; replace hX := sevRB hX hb; replace hY := sevRB hY hb; replace hZ := sevRB hZ hb; clear hb) | (go_at_call 17; refine (CF.out _).mono ?_; rintro e1 w10 ⟨rfl, hb⟩; replace hB := thenB hB hb; replace hX := sevRB hX hb; replace hY := sevRB hY hb; replace hZ := sevRB hZ hb; clear hb))
      have hn := hal w10 (.cells #[.int .i64 (-d), .int .i64 (65535 + d)] 3)
      replace hB := thenB hB hn
      replace hX := sevRB hX hn
      replace hY := sevRB hY hn
      replace hZ := sevRB hZ hn
      clear hn CI CF
      go_upto_region 37 with (go_at_call 8; refine (CSb.out _).mono ?_; rintro e1 w11 ⟨rfl, hb⟩; replace hB := thenB hB hb; replace hX := sevRB hX hb; replace hY := sevRB hY hb; replace hZ := sevRB hZ hb; clear hb)
      have hU := sevRM w11 (.int .i64 0) (.string ⟨#[]⟩) (.int .i64 0) (.bool false) (.int .i64 0) (.string ⟨#[]⟩) (.int .i64 0) 23
      have hn := hal w11 (.cells #[.int .i64 0, .string ⟨#[]⟩, .int .i64 0, .bool false, .int .i64 0, .string ⟨#[]⟩, .int .i64 0] 23)
      replace hB := thenB hB hn
      replace hX := sevRB hX hn
      replace hY := sevRB hY hn
      replace hZ := sevRB hZ hn
      clear hn CSn CSb CR0 CR7
      generalize w11.alloc _ = W11 at *
      generalize w11.heap.size = G4 at *
      go_wp2_with (first | (go_at_call 12; refine (num_any _ _).mono ?_; rintro e1 w' ⟨rfl, rfl⟩) | (go_at_call 13; (first | with_reducible refine (CG.out _).mono ?_ | with_reducible refine (CM7.out _).mono ?_ | with_reducible refine (CB.out _).mono ?_); rintro e1 w12 ⟨rfl, hb⟩; replace hB := thenB hB hb; replace hX := sevRB hX hb; replace hY := sevRB hY hb; replace hZ := sevRB hZ hb; replace hU := sevRB hU hb; clear hb))
      go_ret
      exact ⟨rfl, hB⟩
  · replace mn : (IntKind.u64.wrap a0).tmod 12 = 10 := mn
    have hbad := bad10 d hd1
    have CA := hide (fun w => asks_not (ag := false) (ask_bad hbad) w)
    have CB := hide (fun w => may_is (ag := false) hbad w)
    unfold Asked at CA
    clear hbad
    generalize iotaS 40 = A at *
    go_enter Try.func4, Try.ntmps4
    go_upto_region 5 with (first | (go_at_call 15; refine (CW.out _).mono ?_; rintro e1 w1 ⟨rfl, hb⟩; replace hB := thenB hB hb; clear hb) | (go_at_call 16; refine (CC.out _).mono ?_; rintro e1 w2 ⟨rfl, hb⟩; replace hB := thenB hB hb; clear hb))
    try rw [hd]
    have hX := sevRM w2 (.int .i64 1) (.string A) (.int .i64 0) (.bool false) (.int .i64 0) (.string ⟨#[]⟩) (.int .i64 0) 23
    have hn := hal w2 (.cells #[.int .i64 1, .string A, .int .i64 0, .bool false, .int .i64 0, .string ⟨#[]⟩, .int .i64 0] 23)
    replace hB := thenB hB hn
    clear hn CW CC
    generalize w2.alloc _ = W3 at *
    generalize w2.heap.size = G1 at *
    go_upto_region 6 with fail
    have hY := sevRM W3 (.int .i64 1) (.string A) (.int .i64 0) (.bool false) (.int .i64 0) (.string ⟨#[]⟩) (.int .i64 0) 23
    have hn := hal W3 (.cells #[.int .i64 1, .string A, .int .i64 0, .bool false, .int .i64 0, .string ⟨#[]⟩, .int .i64 0] 23)
    have hl1 := hX.1
    have hl := hB.size
    replace hB := thenB hB hn
    replace hX := sevRB hX hn
    clear hn
    generalize W3.alloc _ = W4 at *
    generalize W3.heap.size = G2 at *
    have n1 : G2 ≠ G1 := by omega
    go_upto_region 31 with fail
    replace hX := HstSet.setO hX n1 6 (.int .i64 (-d))
    replace hY := HstSet.set6 hY (.int .i64 (-d))
    replace hB := hB.setCell (p := ⟨G2, 6, none⟩) hl (.int .i64 (-d))
    generalize (World.setCell W4 _ _) = W5 at *
    clear hl hl1
    go_upto_region 32 with (go_at_call 10; refine (CA.out _).mono ?_; rintro e1 w6 ⟨rfl, hb⟩; replace hB := thenB hB hb; replace hX := sevRB hX hb; replace hY := sevRB hY hb; clear hb)
    clear CA mn mk
    go_upto_region 33 with fail
    have hZ := sevRM w6 (.int .i64 1) (.string A) (.int .i64 0) (.bool false) (.int .i64 0) (.string ⟨#[]⟩) (.int .i64 0) 23
    have hn := hal w6 (.cells #[.int .i64 1, .string A, .int .i64 0, .bool false, .int .i64 0, .string ⟨#[]⟩, .int .i64 0] 23)
    have hl1 := hX.1
    have hl2 := hY.1
    have hl := hB.size
    replace hB := thenB hB hn
    replace hX := sevRB hX hn
    replace hY := sevRB hY hn
    clear hn
    generalize w6.alloc _ = W6 at *
    generalize w6.heap.size = G3 at *
    have n2 : G3 ≠ G1 := by omega
    have n3 : G3 ≠ G2 := by omega
    have hn := hal W6 (.cells #[.int .i64 0, .int .i64 7] 3)
    replace hB := thenB hB hn
    replace hX := sevRB hX hn
    replace hY := sevRB hY hn
    replace hZ := sevRB hZ hn
    clear hn hl1 hl2
    obtain rfl | rfl : e = 0 ∨ e = 1 := by omega
    · replace me : bits .and .i64 a0 1 = 0 := me
      go_upto_region 34 with fail
      generalize W6.alloc _ = W7 at *
      replace hZ := HstSet.set0 hZ (.int .i64 0)
      replace hX := HstSet.setO hX n2 0 (.int .i64 0)
      replace hY := HstSet.setO hY n3 0 (.int .i64 0)
      replace hB := hB.setCell (p := ⟨G3, 0, none⟩) hl (.int .i64 0)
      generalize (World.setCell W7 _ _) = W8 at *
      clear hl n1 n2 n3
      go_upto_region 35 with (go_at_call 10; refine (CR0.out _).mono ?_; rintro e1 w8 ⟨rfl, hb⟩; replace hB := thenB hB hb; replace hX := sevRB hX hb; replace hY := sevRB hY hb; replace hZ := sevRB hZ hb; clear hb)
      go_upto_region 36 with (first | (go_at_call 18; refine (CI.out _).mono ?_; rintro e1 w9 ⟨rfl, hb⟩; replace hB := thenB hB hb; replace hX := sevRB hX hb; replace hY := sevRB hY hb; replace hZ := sevRB hZ hb; clear hb) | (go_at_call 17; refine (CF.out _).mono ?_; rintro e1 w10 ⟨rfl, hb⟩; replace hB := thenB hB hb; replace hX := sevRB hX hb; replace hY := sevRB hY hb; replace hZ := sevRB hZ hb; clear hb))
      have hn := hal w10 (.cells #[.int .i64 (-d), .int .i64 (65535 + d)] 3)
      replace hB := thenB hB hn
      replace hX := sevRB hX hn
      replace hY := sevRB hY hn
      replace hZ := sevRB hZ hn
      clear hn CI CF
      go_upto_region 37 with (go_at_call 8; refine (CSn.out _).mono ?_; rintro e1 w11 ⟨rfl, hb⟩; replace hB := thenB hB hb; replace hX := sevRB hX hb; replace hY := sevRB hY hb; replace hZ := sevRB hZ hb; clear hb)
      have hU := sevRM w11 (.int .i64 0) (.string ⟨#[]⟩) (.int .i64 0) (.bool false) (.int .i64 0) (.string ⟨#[]⟩) (.int .i64 0) 23
      have hn := hal w11 (.cells #[.int .i64 0, .string ⟨#[]⟩, .int .i64 0, .bool false, .int .i64 0, .string ⟨#[]⟩, .int .i64 0] 23)
      replace hB := thenB hB hn
      replace hX := sevRB hX hn
      replace hY := sevRB hY hn
      replace hZ := sevRB hZ hn
      clear hn CSn CSb CR0 CR7
      generalize w11.alloc _ = W11 at *
      generalize w11.heap.size = G4 at *
      go_wp2_with (first | (go_at_call 12; refine (num_any _ _).mono ?_; rintro e1 w' ⟨rfl, rfl⟩) | (go_at_call 13; (first | with_reducible refine (CG.out _).mono ?_ | with_reducible refine (CM0.out _).mono ?_ | with_reducible refine (CB.out _).mono ?_); rintro e1 w12 ⟨rfl, hb⟩; replace hB := thenB hB hb; replace hX := sevRB hX hb; replace hY := sevRB hY hb; replace hZ := sevRB hZ hb; replace hU := sevRB hU hb; clear hb))
      go_ret
      exact ⟨rfl, hB⟩
    · replace me : bits .and .i64 a0 1 = 1 := me
      go_upto_region 34 with fail
      generalize W6.alloc _ = W7 at *
      replace hZ := HstSet.set0 hZ (.int .i64 7)
      replace hX := HstSet.setO hX n2 0 (.int .i64 7)
      replace hY := HstSet.setO hY n3 0 (.int .i64 7)
      replace hB := hB.setCell (p := ⟨G3, 0, none⟩) hl (.int .i64 7)
      generalize (World.setCell W7 _ _) = W8 at *
      clear hl n1 n2 n3
      go_upto_region 35 with (go_at_call 10; refine (CR7.out _).mono ?_; rintro e1 w8 ⟨rfl, hb⟩; replace hB := thenB hB hb; replace hX := sevRB hX hb; replace hY := sevRB hY hb; replace hZ := sevRB hZ hb; clear hb)
      go_upto_region 36 with (first | (go_at_call 18; refine (CI.out _).mono ?_; rintro e1 w9 ⟨rfl, hb⟩; replace hB := thenB hB hb; replace hX := sevRB hX hb; replace hY := sevRB hY hb; replace hZ := sevRB hZ hb; clear hb) | (go_at_call 17; refine (CF.out _).mono ?_; rintro e1 w10 ⟨rfl, hb⟩; replace hB := thenB hB hb; replace hX := sevRB hX hb; replace hY := sevRB hY hb; replace hZ := sevRB hZ hb; clear hb))
      have hn := hal w10 (.cells #[.int .i64 (-d), .int .i64 (65535 + d)] 3)
      replace hB := thenB hB hn
      replace hX := sevRB hX hn
      replace hY := sevRB hY hn
      replace hZ := sevRB hZ hn
      clear hn CI CF
      go_upto_region 37 with (go_at_call 8; refine (CSb.out _).mono ?_; rintro e1 w11 ⟨rfl, hb⟩; replace hB := thenB hB hb; replace hX := sevRB hX hb; replace hY := sevRB hY hb; replace hZ := sevRB hZ hb; clear hb)
      have hU := sevRM w11 (.int .i64 0) (.string ⟨#[]⟩) (.int .i64 0) (.bool false) (.int .i64 0) (.string ⟨#[]⟩) (.int .i64 0) 23
      have hn := hal w11 (.cells #[.int .i64 0, .string ⟨#[]⟩, .int .i64 0, .bool false, .int .i64 0, .string ⟨#[]⟩, .int .i64 0] 23)
      replace hB := thenB hB hn
      replace hX := sevRB hX hn
      replace hY := sevRB hY hn
      replace hZ := sevRB hZ hn
      clear hn CSn CSb CR0 CR7
      generalize w11.alloc _ = W11 at *
      generalize w11.heap.size = G4 at *
      go_wp2_with (first | (go_at_call 12; refine (num_any _ _).mono ?_; rintro e1 w' ⟨rfl, rfl⟩) | (go_at_call 13; (first | with_reducible refine (CG.out _).mono ?_ | with_reducible refine (CM7.out _).mono ?_ | with_reducible refine (CB.out _).mono ?_); rintro e1 w12 ⟨rfl, hb⟩; replace hB := thenB hB hb; replace hX := sevRB hX hb; replace hY := sevRB hY hb; replace hZ := sevRB hZ hb; replace hU := sevRB hU hb; clear hb))
      go_ret
      exact ⟨rfl, hB⟩
  · replace mn : (IntKind.u64.wrap a0).tmod 12 = 11 := mn
    have hbad := bad11 d hd1
    have hz32 : 32 ≤ (iotaS 40).size := by rw [size_iotaS]; omega
    generalize hZ0 : (iotaS 40).extract 0 32 = Z at *
    have CA := hide (fun w => asks_not (ag := false) (ask_bad hbad) w)
    have CB := hide (fun w => may_is (ag := false) hbad w)
    unfold Asked at CA
    clear hbad
    generalize iotaS 40 = A at *
    go_enter Try.func4, Try.ntmps4
    go_upto_region 5 with (first | (go_at_call 15; refine (CW.out _).mono ?_; rintro e1 w1 ⟨rfl, hb⟩; replace hB := thenB hB hb; clear hb) | (go_at_call 16; refine (CC.out _).mono ?_; rintro e1 w2 ⟨rfl, hb⟩; replace hB := thenB hB hb; clear hb))
    try rw [hd]
    have hX := sevRM w2 (.int .i64 1) (.string A) (.int .i64 0) (.bool false) (.int .i64 0) (.string ⟨#[]⟩) (.int .i64 0) 23
    have hn := hal w2 (.cells #[.int .i64 1, .string A, .int .i64 0, .bool false, .int .i64 0, .string ⟨#[]⟩, .int .i64 0] 23)
    replace hB := thenB hB hn
    clear hn CW CC
    generalize w2.alloc _ = W3 at *
    generalize w2.heap.size = G1 at *
    go_upto_region 6 with fail
    have hY := sevRM W3 (.int .i64 1) (.string A) (.int .i64 0) (.bool false) (.int .i64 0) (.string ⟨#[]⟩) (.int .i64 0) 23
    have hn := hal W3 (.cells #[.int .i64 1, .string A, .int .i64 0, .bool false, .int .i64 0, .string ⟨#[]⟩, .int .i64 0] 23)
    have hl1 := hX.1
    have hl := hB.size
    replace hB := thenB hB hn
    replace hX := sevRB hX hn
    clear hn
    generalize W3.alloc _ = W4 at *
    generalize W3.heap.size = G2 at *
    have n1 : G2 ≠ G1 := by omega
    go_upto_region 31 with fail
    replace hX := HstSet.setO hX n1 1 (.string Z)
    replace hY := HstSet.set1 hY (.string Z)
    replace hB := hB.setCell (p := ⟨G2, 1, none⟩) hl (.string Z)
    replace hX := HstSet.setO hX n1 2 (.int .i64 2)
    replace hY := HstSet.set2 hY (.int .i64 2)
    replace hB := hB.setCell (p := ⟨G2, 2, none⟩) hl (.int .i64 2)
    generalize (World.setCell (World.setCell W4 _ _) _ _) = W5 at *
    clear hl hl1
    go_upto_region 32 with (go_at_call 10; refine (CA.out _).mono ?_; rintro e1 w6 ⟨rfl, hb⟩; replace hB := thenB hB hb; replace hX := sevRB hX hb; replace hY := sevRB hY hb; clear hb)
    clear CA mn mk
    go_upto_region 33 with fail
    have hZ := sevRM w6 (.int .i64 1) (.string A) (.int .i64 0) (.bool false) (.int .i64 0) (.string ⟨#[]⟩) (.int .i64 0) 23
    have hn := hal w6 (.cells #[.int .i64 1, .string A, .int .i64 0, .bool false, .int .i64 0, .string ⟨#[]⟩, .int .i64 0] 23)
    have hl1 := hX.1
    have hl2 := hY.1
    have hl := hB.size
    replace hB := thenB hB hn
    replace hX := sevRB hX hn
    replace hY := sevRB hY hn
    clear hn
    generalize w6.alloc _ = W6 at *
    generalize w6.heap.size = G3 at *
    have n2 : G3 ≠ G1 := by omega
    have n3 : G3 ≠ G2 := by omega
    have hn := hal W6 (.cells #[.int .i64 0, .int .i64 7] 3)
    replace hB := thenB hB hn
    replace hX := sevRB hX hn
    replace hY := sevRB hY hn
    replace hZ := sevRB hZ hn
    clear hn hl1 hl2
    obtain rfl | rfl : e = 0 ∨ e = 1 := by omega
    · replace me : bits .and .i64 a0 1 = 0 := me
      go_upto_region 34 with fail
      generalize W6.alloc _ = W7 at *
      replace hZ := HstSet.set0 hZ (.int .i64 0)
      replace hX := HstSet.setO hX n2 0 (.int .i64 0)
      replace hY := HstSet.setO hY n3 0 (.int .i64 0)
      replace hB := hB.setCell (p := ⟨G3, 0, none⟩) hl (.int .i64 0)
      generalize (World.setCell W7 _ _) = W8 at *
      clear hl n1 n2 n3
      go_upto_region 35 with (go_at_call 10; refine (CR0.out _).mono ?_; rintro e1 w8 ⟨rfl, hb⟩; replace hB := thenB hB hb; replace hX := sevRB hX hb; replace hY := sevRB hY hb; replace hZ := sevRB hZ hb; clear hb)
      go_upto_region 36 with (first | (go_at_call 18; refine (CI.out _).mono ?_; rintro e1 w9 ⟨rfl, hb⟩; replace hB := thenB hB hb; replace hX := sevRB hX hb; replace hY := sevRB hY hb; replace hZ := sevRB hZ hb; clear hb) | (go_at_call 17; refine (CF.out _).mono ?_; rintro e1 w10 ⟨rfl, hb⟩; replace hB := thenB hB hb; replace hX := sevRB hX hb; replace hY := sevRB hY hb; replace hZ := sevRB hZ hb; clear hb))
      have hn := hal w10 (.cells #[.int .i64 (-d), .int .i64 (65535 + d)] 3)
      replace hB := thenB hB hn
      replace hX := sevRB hX hn
      replace hY := sevRB hY hn
      replace hZ := sevRB hZ hn
      clear hn CI CF
      go_upto_region 37 with (go_at_call 8; refine (CSn.out _).mono ?_; rintro e1 w11 ⟨rfl, hb⟩; replace hB := thenB hB hb; replace hX := sevRB hX hb; replace hY := sevRB hY hb; replace hZ := sevRB hZ hb; clear hb)
      have hU := sevRM w11 (.int .i64 0) (.string ⟨#[]⟩) (.int .i64 0) (.bool false) (.int .i64 0) (.string ⟨#[]⟩) (.int .i64 0) 23
      have hn := hal w11 (.cells #[.int .i64 0, .string ⟨#[]⟩, .int .i64 0, .bool false, .int .i64 0, .string ⟨#[]⟩, .int .i64 0] 23)
      replace hB := thenB hB hn
      replace hX := sevRB hX hn
      replace hY := sevRB hY hn
      replace hZ := sevRB hZ hn
      clear hn CSn CSb CR0 CR7
      generalize w11.alloc _ = W11 at *
      generalize w11.heap.size = G4 at *
      go_wp2_with (first | (go_at_call 12; refine (num_any _ _).mono ?_; rintro e1 w' ⟨rfl, rfl⟩) | (go_at_call 13; (first | with_reducible refine (CG.out _).mono ?_ | with_reducible refine (CM0.out _).mono ?_ | with_reducible refine (CB.out _).mono ?_); rintro e1 w12 ⟨rfl, hb⟩; replace hB := thenB hB hb; replace hX := sevRB hX hb; replace hY := sevRB hY hb; replace hZ := sevRB hZ hb; replace hU := sevRB hU hb; clear hb))
      go_ret
      exact ⟨rfl, hB⟩
    · replace me : bits .and .i64 a0 1 = 1 := me
      go_upto_region 34 with fail
      generalize W6.alloc _ = W7 at *
      replace hZ := HstSet.set0 hZ (.int .i64 7)
      replace hX := HstSet.setO hX n2 0 (.int .i64 7)
      replace hY := HstSet.setO hY n3 0 (.int .i64 7)
      replace hB := hB.setCell (p := ⟨G3, 0, none⟩) hl (.int .i64 7)
      generalize (World.setCell W7 _ _) = W8 at *
      clear hl n1 n2 n3
      go_upto_region 35 with (go_at_call 10; refine (CR7.out _).mono ?_; rintro e1 w8 ⟨rfl, hb⟩; replace hB := thenB hB hb; replace hX := sevRB hX hb; replace hY := sevRB hY hb; replace hZ := sevRB hZ hb; clear hb)
      go_upto_region 36 with (first | (go_at_call 18; refine (CI.out _).mono ?_; rintro e1 w9 ⟨rfl, hb⟩; replace hB := thenB hB hb; replace hX := sevRB hX hb; replace hY := sevRB hY hb; replace hZ := sevRB hZ hb; clear hb) | (go_at_call 17; refine (CF.out _).mono ?_; rintro e1 w10 ⟨rfl, hb⟩; replace hB := thenB hB hb; replace hX := sevRB hX hb; replace hY := sevRB hY hb; replace hZ := sevRB hZ hb; clear hb))
      have hn := hal w10 (.cells #[.int .i64 (-d), .int .i64 (65535 + d)] 3)
      replace hB := thenB hB hn
      replace hX := sevRB hX hn
      replace hY := sevRB hY hn
      replace hZ := sevRB hZ hn
      clear hn CI CF
      go_upto_region 37 with (go_at_call 8; refine (CSb.out _).mono ?_; rintro e1 w11 ⟨rfl, hb⟩; replace hB := thenB hB hb; replace hX := sevRB hX hb; replace hY := sevRB hY hb; replace hZ := sevRB hZ hb; clear hb)
      have hU := sevRM w11 (.int .i64 0) (.string ⟨#[]⟩) (.int .i64 0) (.bool false) (.int .i64 0) (.string ⟨#[]⟩) (.int .i64 0) 23
      have hn := hal w11 (.cells #[.int .i64 0, .string ⟨#[]⟩, .int .i64 0, .bool false, .int .i64 0, .string ⟨#[]⟩, .int .i64 0] 23)
      replace hB := thenB hB hn
      replace hX := sevRB hX hn
      replace hY := sevRB hY hn
      replace hZ := sevRB hZ hn
      clear hn CSn CSb CR0 CR7
      generalize w11.alloc _ = W11 at *
      generalize w11.heap.size = G4 at *
      go_wp2_with (first | (go_at_call 12; refine (num_any _ _).mono ?_; rintro e1 w' ⟨rfl, rfl⟩) | (go_at_call 13; (first | with_reducible refine (CG.out _).mono ?_ | with_reducible refine (CM7.out _).mono ?_ | with_reducible refine (CB.out _).mono ?_); rintro e1 w12 ⟨rfl, hb⟩; replace hB := thenB hB hb; replace hX := sevRB hX hb; replace hY := sevRB hY hb; replace hZ := sevRB hZ hb; replace hU := sevRB hU hb; clear hb))
      go_ret
      exact ⟨rfl, hB⟩

set_option maxRecDepth 100000 in
theorem lifted (os : Os) (started : os.Started) (H : Type) (enc : TypeId × Value → H) :
    ReturnsInHanded {} Try.checked os 4 .any (Rows.hostFormsSpec.pre6 enc Try.prog Try.f4 Rows.hostFormsRow.domain false) (Rows.hostFormsSpec.post enc Try.prog Try.f4 false true false false) := by
  refine returnsInHanded_of_change (C := Try.checked) own started (by kernel_rfl) Try.func4
    (ChangeSpec.witness6 (enc := enc) (C := Try.checked) false ⟨#[], #[.int .i64 0, .int .i64 0], []⟩ 8 (by kernel_rfl) (by kernel_rfl) (by kernel_rfl) (by kernel_rfl)) ?_
  intro W base args ds gs before hval0 hW hcnd _
  have hval : ∀ (j : Nat) t v, Try.f4.params[j]? = some t → args[j]? = some v → Value.okWide Try.prog W .any base t v := hval0
  have hW' := hW
  obtain ⟨p, q, hA0, hV, rfl, hfz, hnd⟩ := hW
  have hA : DataW.TrodAll enc Try.prog W 0 (fun _ => true) true Try.f4.params.toList args.toList ds p := hA0
  rw [Try.params4] at hA hval
  obtain ⟨v0, vs0, d0, ds0, p0, q0, hargs, rfl, rfl, h0, r0⟩ := trodAll_cons hA
  obtain ⟨v1, vs1, d1, ds1, p1, q1, rfl, rfl, rfl, h1, r1⟩ := trodAll_cons r0
  obtain ⟨rfl, rfl, rfl⟩ := trodAll_nil r1
  obtain rfl : args = #[v0, v1] := by cases args; simp_all
  obtain ⟨rfl, rfl⟩ := trodVars_none hV
  obtain ⟨a0, rfl, rfl, rfl, w0⟩ := open_int Try.underlying3 (hval 0 3 v0 rfl rfl) h0
  obtain ⟨a1, rfl, rfl, rfl, w1⟩ := open_int Try.underlying3 (hval 1 3 v1 rfl rfl) h1
  clear hA0 hval0
  refine (walk a0 a1 w0 w1 W).mono fun e W' ⟨he, bel⟩ => ?_
  subst he
  exact ⟨_, rfl, _, _, _, [], _, [], hW', (trodAll_cons_mk (shut_bool Try.underlying4 _) trodAll_mk0), (trodAll_cons_mk (shut_int Try.underlying3 w0) (trodAll_cons_mk (shut_int Try.underlying3 w1) trodAll_mk0)), rfl, bel.frame _, fun h => by cases h⟩

theorem over : Rows.hostFormsRow.holds Try.pinned (OpenSpec.ofChange Rows.hostFormsSpec) :=
  OpenClaim.holds_of_wide 4 Try.f4 rfl rfl rfl rfl rfl rfl rfl ⟨rfl, rfl, rfl, rfl, rfl⟩ rfl rfl rfl rfl rfl (by kernel_rfl) Try.func4 (by kernel_rfl)
    (of_decide_eq_true (by kernel_rfl)) (by unfold Func.isWrapper; first | (rw [if_pos (by decide +kernel)]; kernel_rfl) | (rw [if_neg (by decide +kernel)]; exact ⟨rfl, rfl⟩))
    (fun os started H enc _ => lifted os started H enc)

theorem proved : Rows.HostFormsSaid :=
  over
#print axioms proved
end Go.Proofs.Ythegdhogpjhidaa.hostForms
