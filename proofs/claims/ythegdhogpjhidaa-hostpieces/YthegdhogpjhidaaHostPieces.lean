/- Whatever the number: the law HostPieces returns true (what a host sends, block by block, is its image), and the argument reads as it did; no condition. -/
import Derived.Test.YthegdhogpjhidaaRows
import Derived.Test.YthegdhogpjhidaaBagNor
import Derived.Test.YthegdhogpjhidaaBagOps
import Derived.Test.YthegdhogpjhidaaBagTxt
import Derived.Test.YthegdhogpjhidaaBagSuf
import Derived.Test.YthegdhogpjhidaaBagSet
import Derived.Test.YthegdhogpjhidaaHstMath
import Derived.Test.YthegdhogpjhidaaHstWalk
import Derived.Test.YthegdhogpjhidaaHstAsk
import Derived.Test.YthegdhogpjhidaaHstHost
import Derived.Test.YthegdhogpjhidaaHstRef
import Derived.Test.YthegdhogpjhidaaHstRefs
import Derived.Test.YthegdhogpjhidaaHstCarry
import Derived.Test.YthegdhogpjhidaaHstSet
import Derived.Test.YthegdhogpjhidaaHstAwake
import Derived.Test.YthegdhogpjhidaaHstMore
import Derived.Laws.StructEq
import Derived.Deep.Cut
import Derived.ChangeOld
import Derived.Below
import Derived.WalkKit
import Derived.ProofKit
import Derived.OpenShut
import Derived.ShutString
namespace Go.Proofs.Ythegdhogpjhidaa.hostPieces
open Go.ChangeShapes Go.WideShapes Go.ChangeAt Go.RowKit
open Go.ChangeMaps (open_string shut_string)
set_option linter.unusedVariables false

open Go.Proofs.Ythegdhogpjhidaa.Bytes
open Go.Proofs.Ythegdhogpjhidaa.Hst
open Go.Proofs.Ythegdhogpjhidaa.HstWalk
open Go.Proofs.Ythegdhogpjhidaa.HstAsk
open Go.Proofs.Ythegdhogpjhidaa.HstHost
open Go.Proofs.Ythegdhogpjhidaa.HstCarry
open Go.Proofs.Ythegdhogpjhidaa.HstMore
theorem own : ownKnob Try.prog.godebug = none := by kernel_rfl

open Go.Proofs.Ythegdhogpjhidaa.IdtWalk (num_any)
open Go.Proofs.Ythegdhogpjhidaa.Blo (pieceS nP)
/-- The first bytes of so many pieces. -/
def preS (A : ByteArray) (j : Nat) : ByteArray := A.extract 0 (min (32 * j) A.size)
theorem pre_succ (A : ByteArray) (j : Nat) (h : 32 * j ≤ A.size) : preS A j ++ pieceS A j = preS A (j + 1) := by
  unfold preS
  rw [Nat.min_eq_left h, Blo.head_piece A j h]
  rfl
theorem pre_zero (A : ByteArray) : preS A 0 = ⟨#[]⟩ := by
  apply ba_ext
  unfold preS
  rw [list_extract]
  simp
theorem pre_end (A : ByteArray) (n : Nat) (h : A.size ≤ 32 * n) : preS A n = A := by
  apply ba_ext
  unfold preS
  rw [Nat.min_eq_right h, list_extract, List.drop_zero, Nat.sub_zero]
  exact List.take_of_length_le (Nat.le_refl _)
theorem size_pre (A : ByteArray) (j : Nat) : (preS A j).size ≤ A.size := by
  unfold preS
  rw [ByteArray.size_extract]
  omega
/-- What is asked with piece j. -/
theorem told_piece (k j : Nat) (hk1 : 1 ≤ k) (hk : k ≤ 288) (hj : j < nP (iotaS k)) : ∃ U, (∀ w, Calls Try.prog 10 #[.agg #[.int .i64 2, .string (iotaS k), .int .i64 j, .bool false, .int .i64 0, .string ⟨#[]⟩, .int .i64 0]] w (Asked w U (pieceS (iotaS k) j) 0)) ∧ ∀ w, Calls Try.prog 19 #[.string U] w (Got w 1 j (pieceS (iotaS k) j).size) := by
  rw [nP_iota] at hj
  obtain ⟨c, v, n, D, U, CA, CG, hw⟩ := told_ways 2 k j false (by decide) (by decide) hk1 hk (by omega)
  rcases hw with ⟨h, _⟩ | ⟨h, _⟩ | ⟨h, _⟩ | ⟨_, rfl, rfl, rfl, rfl⟩ | ⟨h, _⟩ | ⟨h, _⟩ | ⟨h, _⟩
  · omega
  · omega
  · omega
  · exact ⟨U, CA, CG⟩
  · omega
  · omega
  · omega
theorem may_last (k b : Nat) (hk1 : 1 ≤ k) (hk : k ≤ 288) (hb : 32 * b < k + 32) (w : World) : Calls Try.prog 14 #[.agg #[.int .i64 2, .string (iotaS k), .int .i64 b, .bool false, .int .i64 0, .string ⟨#[]⟩, .int .i64 0]] w fun e w' => e = .returned (.bool true) ∧ Below w.heap.size w w' := by
  have g := HstRef.refHMay_any 2 (iotaS k) b false 0 ⟨#[]⟩ 0 w
  rw [(ask_parts.1 (ask_ok (p := 2) (by decide) (by decide) hk1 hk hb)).1] at g
  exact g
set_option maxRecDepth 100000 in
set_option maxHeartbeats 8000000 in
theorem walk (a0 : Int) (w0 : (Lit.int .i64 a0).wf = true) (w : World) :
    Calls Try.prog 7 #[.int .i64 a0] w fun e w' => e = .returned (.bool true) ∧ Below w.heap.size w w' := by
  have hB := Below.refl w.heap.size w
  obtain ⟨m, hm, mm⟩ : ∃ k : Nat, k < 288 ∧ wrap64 ((IntKind.u64.wrap a0).tmod 288) = (k : Int) := mod_u64 a0 288 (by omega) (by omega)
  obtain ⟨K, hK⟩ : ∃ K : Nat, 1 + (m : Int) = (K : Int) := ⟨1 + m, by omega⟩
  have hK1 : 1 ≤ K := by omega
  have hK2 : K ≤ 288 := by omega
  have CW := hide (fun w => HstAwake.awake_any w)
  have CC := hide (fun w => carrying22_any K w hK1 hK2)
  have CT := hide (fun j => told_piece K j hK1 hK2)
  have CL := hide (fun b hb w => may_last K b hK1 hK2 hb w)
  have hN : nP (iotaS K) = (K + 31) / 32 := nP_iota K
  have HS := hide (fun j => pre_succ (iotaS K) j)
  have H0 := hide (pre_zero (iotaS K))
  have HE := hide (fun n => pre_end (iotaS K) n)
  have HZ := hide (fun j => size_pre (iotaS K) j)
  have HP := hide (fun j (h : j < nP (iotaS K)) => Blo.size_each h)
  have hz : (iotaS K).size = K := size_iotaS K
  rw [hz] at HS HE HZ
  obtain ⟨N, hNN⟩ : ∃ N, N = (K + 31) / 32 := ⟨_, rfl⟩
  rw [hN, ← hNN] at CT HP
  have HN := hide hNN
  have hq : ((K : Int) + 31) / 32 = (N : Int) := by omega
  have hN9 : N ≤ 9 := by omega
  unfold Asked Got at CT
  have Hz := hide hz
  clear hN hNN hz hm
  generalize iotaS K = A at *
  go_enter Try.func7, Try.ntmps7
  go_upto_region 5 with (first | (go_at_call 15; refine (CW.out _).mono ?_; rintro e1 w1 ⟨rfl, hb⟩; replace hB := thenB hB hb; clear hb) | (go_at_call 16; refine (CC.out _).mono ?_; rintro e1 w2 ⟨rfl, hb⟩; replace hB := thenB hB hb; clear hb))
  have hX := sevRM w2 (.int .i64 1) (.string A) (.int .i64 0) (.bool false) (.int .i64 0) (.string ⟨#[]⟩) (.int .i64 0) 23
  have hn := hal w2 (.cells #[.int .i64 1, .string A, .int .i64 0, .bool false, .int .i64 0, .string ⟨#[]⟩, .int .i64 0] 23)
  have hl := hB.size
  replace hB := thenB hB hn
  clear hn CW CC mm
  generalize w2.alloc _ = W2 at *
  generalize w2.heap.size = G at *
  go_upto_region 6 with fail
  replace hX := HstSet.set0 hX (.int .i64 2)
  replace hB := hB.setCell (p := ⟨G, 0, none⟩) hl (.int .i64 2)
  generalize W2.setCell _ _ = W3 at *
  go_wp2_with fail
  go_loopw [5, 6] (fun v x wr => ∃ j b : Nat, j ≤ N ∧ Hid (32 * b < K + 32) ∧ v = .string (preS A j) ∧ x = .int .i64 (j : Int) ∧ SevR wr G (.int .i64 2) (.string A) (.int .i64 b) (.bool false) (.int .i64 0) (.string ⟨#[]⟩) (.int .i64 0) ∧ Below w.heap.size w wr) (fun _ x _ => N - (intOf x).toNat)
  case atStart => exact ⟨0, 0, Nat.zero_le _, show 32 * 0 < K + 32 by omega, by rw [H0.out], rfl, hX, hB⟩
  case round =>
    obtain ⟨j, b, hj, Hb, rfl, rfl, hX, hB⟩ := hrel
    by_cases hlt : j < N
    · have hpl : (j : Int) < (N : Int) := by omega
      obtain ⟨U, CA, CG⟩ := CT.out j hlt
      replace CA := hide CA
      replace CG := hide CG
      have hs := HS.out j (by have := HN.out; omega)
      have hd := HP.out j hlt
      have hp := HZ.out j
      have HJ : Hid (32 * j < K + 32) := by show 32 * j < K + 32; have := HN.out; omega
      have HD := hide hs
      clear hs CT CL HS H0 HE HZ HP Hb
      generalize pieceS A j = D at *
      generalize preS A j = P at *
      have hd1 : ¬ (D.size : Int) = 0 := by omega
      have n1 : ¬ 9223372036854775807 < P.size + D.size := by omega
      go_upto_region 11 with fail
      replace hX := HstSet.set2 hX (.int .i64 j)
      replace hB := hB.setCell (p := ⟨G, 2, none⟩) hl (.int .i64 j)
      generalize wr.setCell _ _ = W4 at *
      go_upto_region 13 with (first | (go_at_call 10; refine (CA.out _).mono ?_; rintro e1 w5 ⟨rfl, hb⟩; replace hB := thenB hB hb; replace hX := sevRB hX hb; clear hb) | (go_at_call 19; refine (CG.out _).mono ?_; rintro e1 w6 ⟨rfl, hb⟩; replace hB := thenB hB hb; replace hX := sevRB hX hb; clear hb))
      have hY := SetWalk.resM w6 (.int .i64 1) (.int .i64 j) (.int .i64 D.size) 48
      have hn := hal w6 (.cells #[.int .i64 1, .int .i64 j, .int .i64 D.size] 48)
      replace hB := thenB hB hn
      replace hX := sevRB hX hn
      clear hn CA CG
      generalize w6.alloc _ = W6 at *
      generalize w6.heap.size = G6 at *
      go_wp2_with (go_at_call 12; refine (num_any _ _).mono ?_; rintro e1 W7 ⟨rfl, rfl⟩)
      exact ⟨⟨j + 1, j, by omega, HJ, by rw [HD.out], by go_num, hX, hB⟩, by simp [intOf]; omega⟩
    · obtain rfl : j = N := by omega
      have hpl : ¬ (j : Int) < (j : Int) := by omega
      have he := HE.out j (by have := HN.out; omega)
      have CM := hide (CL.out b Hb.out)
      have hz := Hz.out
      rw [he]
      clear CT CL HS H0 HE HZ HP Hb HN Hz hlt hj he
      go_wp2_with (go_at_call 14; refine (CM.out _).mono ?_; rintro e1 w8 ⟨rfl, hb⟩; replace hB := thenB hB hb; clear hb)
      go_ret
      exact ⟨rfl, hB⟩

set_option maxRecDepth 100000 in
theorem lifted (os : Os) (started : os.Started) (H : Type) (enc : TypeId × Value → H) :
    ReturnsInHanded {} Try.checked os 7 .any (Rows.hostPiecesSpec.pre6 enc Try.prog Try.f7 Rows.hostPiecesRow.domain false) (Rows.hostPiecesSpec.post enc Try.prog Try.f7 false true false false) := by
  refine returnsInHanded_of_change (C := Try.checked) own started (by kernel_rfl) Try.func7
    (ChangeSpec.witness6 (enc := enc) (C := Try.checked) false ⟨#[], #[.int .i64 0], []⟩ 8 (by kernel_rfl) (by kernel_rfl) (by kernel_rfl) (by kernel_rfl)) ?_
  intro W base args ds gs before hval0 hW hcnd _
  have hval : ∀ (j : Nat) t v, Try.f7.params[j]? = some t → args[j]? = some v → Value.okWide Try.prog W .any base t v := hval0
  have hW' := hW
  obtain ⟨p, q, hA0, hV, rfl, hfz, hnd⟩ := hW
  have hA : DataW.TrodAll enc Try.prog W 0 (fun _ => true) true Try.f7.params.toList args.toList ds p := hA0
  rw [Try.params7] at hA hval
  obtain ⟨v0, vs0, d0, ds0, p0, q0, hargs, rfl, rfl, h0, r0⟩ := trodAll_cons hA
  obtain ⟨rfl, rfl, rfl⟩ := trodAll_nil r0
  obtain rfl : args = #[v0] := by cases args; simp_all
  obtain ⟨rfl, rfl⟩ := trodVars_none hV
  obtain ⟨a0, rfl, rfl, rfl, w0⟩ := open_int Try.underlying3 (hval 0 3 v0 rfl rfl) h0
  clear hA0 hval0
  refine (walk a0 w0 W).mono fun e W' ⟨he, bel⟩ => ?_
  subst he
  exact ⟨_, rfl, _, _, _, [], _, [], hW', (trodAll_cons_mk (shut_bool Try.underlying4 _) trodAll_mk0), (trodAll_cons_mk (shut_int Try.underlying3 w0) trodAll_mk0), rfl, bel.frame _, fun h => by cases h⟩

theorem over : Rows.hostPiecesRow.holds Try.pinned (OpenSpec.ofChange Rows.hostPiecesSpec) :=
  OpenClaim.holds_of_wide 7 Try.f7 rfl rfl rfl rfl rfl rfl rfl ⟨rfl, rfl, rfl, rfl, rfl⟩ rfl rfl rfl rfl rfl (by kernel_rfl) Try.func7 (by kernel_rfl)
    (of_decide_eq_true (by kernel_rfl)) (by unfold Func.isWrapper; first | (rw [if_pos (by decide +kernel)]; kernel_rfl) | (rw [if_neg (by decide +kernel)]; exact ⟨rfl, rfl⟩))
    (fun os started H enc _ => lifted os started H enc)

theorem proved : Rows.HostPiecesSaid :=
  over
#print axioms proved
end Go.Proofs.Ythegdhogpjhidaa.hostPieces
