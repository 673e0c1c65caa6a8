/- Whatever the text: the law BlockMany returns true (as many pieces as needed, in their row, all whole but the last), and the argument reads as it did; no condition. -/
import Derived.Test.YtpoigakjhhkifaaRows
import Derived.Test.YtpoigakjhhkifaaBloAwake
import Derived.BigQuiet
import Derived.Deep.Cut
import Derived.ChangeOld
import Derived.Below
import Derived.WalkKit
import Derived.ProofKit
import Derived.OpenShut
import Derived.ShutString
namespace Go.Proofs.Ytpoigakjhhkifaa.blockMany
open Go.ChangeShapes Go.WideShapes Go.ChangeAt Go.RowKit
open Go.ChangeMaps (open_string shut_string)
set_option linter.unusedVariables false

open Go.Proofs.Ytpoigakjhhkifaa.Bytes
open Go.Proofs.Ytpoigakjhhkifaa.NorWalk
open Go.Proofs.Ytpoigakjhhkifaa.EntRow
open Go.Proofs.Ytpoigakjhhkifaa.TxtRow
open Go.Proofs.Ytpoigakjhhkifaa.TxtHelp
open Go.Proofs.Ytpoigakjhhkifaa.Blo
open Go.Proofs.Ytpoigakjhhkifaa.BloWalk
open Go.Proofs.Ytpoigakjhhkifaa.BloAwake
theorem own : ownKnob Try.prog.godebug = none := by kernel_rfl

set_option maxRecDepth 100000 in
set_option maxHeartbeats 1000000 in
theorem walk (a0 : ByteArray) (w0 : a0.size ≤ maxLen) (w : World) :
    Calls Try.prog 5 #[.string a0] w fun e w' => e = .returned (.bool true) ∧ Below w.heap.size w w' := by
  have HA := hide awakeB_any
  cases h : splitOk a0 with
  | false =>
    have HS := hide (fun w => split_no a0 w h)
    have h' := of_decide_eq_false h
    clear h
    by_cases h0 : a0.size = 0
    · obtain rfl : a0 = ⟨#[]⟩ := by
        apply ByteArray.ext
        exact Array.eq_empty_of_size_eq_zero h0
      clear h' h0
      go_enter Try.func5, Try.ntmps5
      go_wp2_with (first | (go_at_call 16; refine (HA.out _).mono ?_; rintro e w1 ⟨rfl, hb1⟩) | (go_at_call 8; refine (HS.out _).mono ?_; rintro e w2 ⟨rfl, rfl⟩) | (go_at_call 13; refine (numB_any _ _).mono ?_; rintro e w3 ⟨rfl, rfl⟩))
      go_ret
      exact ⟨rfl, hb1⟩
    · have hne : (a0.toList == (ByteArray.mk #[]).toList) = false := text_ne (fun e => h0 (by rw [e]; rfl))
      have h2 : (288 : Int) < (a0.size : Int) := by omega
      clear h' h0
      go_enter Try.func5, Try.ntmps5
      go_wp2_with (first | (go_at_call 16; refine (HA.out _).mono ?_; rintro e w1 ⟨rfl, hb1⟩) | (go_at_call 8; refine (HS.out _).mono ?_; rintro e w2 ⟨rfl, rfl⟩) | (go_at_call 13; refine (numB_any _ _).mono ?_; rintro e w3 ⟨rfl, rfl⟩))
      all_goals
        go_ret
        exact ⟨rfl, hb1⟩
  | true =>
    obtain ⟨hs1, hs2⟩ := of_decide_eq_true h
    have HS := hide (fun w => split_yes a0 w h)
    have hn9 := nP_pos h
    have HN : Hid (nP a0 = (a0.size + 31) / 32) := rfl
    have HT := hide (fun j => get_piecesTo a0 (nP a0) j)
    have HZ := hide (fun j => size_piece a0 j)
    have HL := hide (length_piecesTo a0 (nP a0))
    have HE : Hid (((a0.size : Int) + 31).tdiv 32 = (nP a0 : Int)) := by
      show _ = _
      rw [Int.tdiv_eq_ediv_of_nonneg (by omega)]
      unfold nP
      omega
    clear h
    generalize hNd : nP a0 = N at *
    clear hNd
    obtain ⟨hn1, hn9⟩ := hn9
    go_enter Try.func5, Try.ntmps5
    go_upto_region 6 with (first | (go_at_call 16; refine (HA.out _).mono ?_; rintro e w1 ⟨rfl, hb1⟩) | (go_at_call 8; refine (HS.out _).mono ?_; rintro e w2 ⟨v, rfl, hown, hb2⟩) | (go_at_call 13; refine (numB_any _ _).mono ?_; rintro e w3 ⟨rfl, rfl⟩))
    obtain ⟨g, cap, rfl, _, _⟩ := hown.form (by omega)
    have HI := hide (ownsT_in hown).2.2
    have hB := thenB hb1 hb2
    clear hown HS HA hb1 hb2
    go_wp2
    go_loopw [5, 6] (fun x y wr => ∃ j p : Nat, j ≤ N ∧ x = .int .i64 (p : Int) ∧ y = .int .i64 (j : Int) ∧ Hid (p = min (32 * j) a0.size) ∧ ∃ n, wr = w3.drewN n) (fun _ y _ => N - (intOf y).toNat)
    case atStart => exact ⟨0, 0, Nat.zero_le _, rfl, rfl, by show 0 = min (32 * 0) a0.size; omega, 0, rfl⟩
    case round =>
      obtain ⟨j, p, hj, rfl, rfl, HP, n, rfl⟩ := hrel
      by_cases hlt : j < N
      · have hc := HI.out j (by rw [HL.out]; exact hlt)
        rw [HT.out, Nat.zero_add] at hc
        have hzj := HZ.out j
        have hp := HP.out
        have hN := HN.out
        obtain ⟨q, hq⟩ : ∃ q : Nat, q = min (32 * j + 32) a0.size := ⟨_, rfl⟩
        have HX : a0.extract p q = pieceS a0 j := by rw [hq, hp, show min (32 * j) a0.size = 32 * j from by omega]; rfl
        have HQ : Hid (q = min (32 * (j + 1)) a0.size) := by show q = _; omega
        have f1 : (p : Int) + ((pieceS a0 j).size : Int) = (q : Int) := by omega
        have f1c : IntKind.i64.wrap (q : Int) = (q : Int) := by rw [IntKind.wrap_i64]; omega
        have f2 : (q : Int) ≤ (a0.size : Int) := by omega
        have d1 : decide (a0.size < q) = false := decide_eq_false (by omega)
        have f3 : (p : Int) ≤ (q : Int) := by omega
        have f4 : 1 ≤ (pieceS a0 j).size := by omega
        have f5 : (pieceS a0 j).size ≤ 32 := by omega
        by_cases hg : (j : Int) < (N : Int) - 1
        · have f6 : ((pieceS a0 j).size : Int) = 32 := by omega
          have f1b : (p : Int) + 32 = (q : Int) := by omega
          clear f1
          generalize pieceS a0 j = T at *
          clear hzj hp hN hq
          go_wp2
          go_quiet (fail)
          go_wp2
          exact ⟨⟨j + 1, q, by omega, rfl, by go_num, HQ, n + nq, rfl⟩, by simp [intOf]; omega⟩
        · have d2 : decide (((pieceS a0 j).size : Int) < 1) = false := decide_eq_false (by omega)
          have d3 : decide ((32 : Int) < ((pieceS a0 j).size : Int)) = false := decide_eq_false (by omega)
          have d4 : decide ((j : Int) < (N : Int) - 1) = false := decide_eq_false hg
          generalize pieceS a0 j = T at *
          clear hzj hp hN hq
          go_wp2
          go_quiet (fail)
          go_wp2
          exact ⟨⟨j + 1, q, by omega, rfl, by go_num, HQ, n + nq, rfl⟩, by simp [intOf]; omega⟩
      · obtain rfl : j = N := by omega
        have hp : p = a0.size := by have := HP.out; have := HN.out; omega
        subst hp
        have he := HE.out
        clear hlt hj
        go_wp2
        go_ret
        exact ⟨rfl, bel_drewN hB _⟩

set_option maxRecDepth 100000 in
theorem lifted (os : Os) (started : os.Started) (H : Type) (enc : TypeId × Value → H) :
    ReturnsInHanded {} Try.checked os 5 .any (Rows.blockManySpec.pre6 enc Try.prog Try.f5 Rows.blockManyRow.domain false) (Rows.blockManySpec.post enc Try.prog Try.f5 false true false false) := by
  refine returnsInHanded_of_change (C := Try.checked) own started (by kernel_rfl) Try.func5
    (ChangeSpec.witness6 (enc := enc) (C := Try.checked) false ⟨#[], #[.string ByteArray.empty], []⟩ 8 (by kernel_rfl) (by kernel_rfl) (by kernel_rfl) (by kernel_rfl)) ?_
  intro W base args ds gs before hval0 hW hcnd _
  have hval : ∀ (j : Nat) t v, Try.f5.params[j]? = some t → args[j]? = some v → Value.okWide Try.prog W .any base t v := hval0
  have hW' := hW
  obtain ⟨p, q, hA0, hV, rfl, hfz, hnd⟩ := hW
  have hA : DataW.TrodAll enc Try.prog W 0 (fun _ => true) true Try.f5.params.toList args.toList ds p := hA0
  rw [Try.params5] at hA hval
  obtain ⟨v0, vs0, d0, ds0, p0, q0, hargs, rfl, rfl, h0, r0⟩ := trodAll_cons hA
  obtain ⟨rfl, rfl, rfl⟩ := trodAll_nil r0
  obtain rfl : args = #[v0] := by cases args; simp_all
  obtain ⟨rfl, rfl⟩ := trodVars_none hV
  obtain ⟨a0, rfl, rfl, rfl, w0⟩ := open_string Try.underlying9 (hval 0 9 v0 rfl rfl) h0
  clear hA0 hval0
  refine (walk a0 w0 W).mono fun e W' ⟨he, bel⟩ => ?_
  subst he
  exact ⟨_, rfl, _, _, _, [], _, [], hW', (trodAll_cons_mk (shut_bool Try.underlying4 _) trodAll_mk0), (trodAll_cons_mk (shut_string Try.underlying9 w0) trodAll_mk0), rfl, bel.frame _, fun h => by cases h⟩

theorem over : Rows.blockManyRow.holds Try.pinned (OpenSpec.ofChange Rows.blockManySpec) :=
  OpenClaim.holds_of_wide 5 Try.f5 rfl rfl rfl rfl rfl rfl rfl ⟨rfl, rfl, rfl, rfl, rfl⟩ rfl rfl rfl rfl rfl (by kernel_rfl) Try.func5 (by kernel_rfl)
    (of_decide_eq_true (by kernel_rfl)) (by unfold Func.isWrapper; first | (rw [if_pos (by decide +kernel)]; kernel_rfl) | (rw [if_neg (by decide +kernel)]; exact ⟨rfl, rfl⟩))
    (fun os started H enc _ => lifted os started H enc)

theorem proved : Rows.BlockManySaid :=
  over
#print axioms proved
end Go.Proofs.Ytpoigakjhhkifaa.blockMany
