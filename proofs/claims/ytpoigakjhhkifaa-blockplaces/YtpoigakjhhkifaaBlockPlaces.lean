/- Whatever the text and the number: the law BlockPlaces returns true (byte k of a text stands in piece k / 32, at k modulo 32), and the arguments read as they did; no condition. -/
import Derived.Test.YtpoigakjhhkifaaRows
import Derived.Test.YtpoigakjhhkifaaBloAwake
import Derived.BigQuiet
import Derived.Deep.Cut
import Derived.ChangeOld
import Derived.Below
import Derived.WalkKit
import Derived.ProofKit
import Derived.OpenShut
import Derived.ShutString
namespace Go.Proofs.Ytpoigakjhhkifaa.blockPlaces
open Go.ChangeShapes Go.WideShapes Go.ChangeAt Go.RowKit
open Go.ChangeMaps (open_string shut_string)
set_option linter.unusedVariables false

open Go.Proofs.Ytpoigakjhhkifaa.Bytes
open Go.Proofs.Ytpoigakjhhkifaa.NorWalk
open Go.Proofs.Ytpoigakjhhkifaa.TxtRow
open Go.Proofs.Ytpoigakjhhkifaa.TxtHelp
open Go.Proofs.Ytpoigakjhhkifaa.Blo
open Go.Proofs.Ytpoigakjhhkifaa.BloWalk
open Go.Proofs.Ytpoigakjhhkifaa.BloAwake
theorem own : ownKnob Try.prog.godebug = none := by kernel_rfl

set_option maxRecDepth 100000 in
set_option maxHeartbeats 1000000 in
theorem walk (a0 : ByteArray) (a1 : Int) (w0 : a0.size ≤ maxLen) (w1 : (Lit.int .i64 a1).wf = true) (w : World) :
    Calls Try.prog 6 #[.string a0, .int .i64 a1] w fun e w' => e = .returned (.bool true) ∧ Below w.heap.size w w' := by
  have HA := hide awakeB_any
  cases h : splitOk a0 with
  | false =>
    have HS := hide (fun w => split_no a0 w h)
    clear h
    go_enter Try.func6, Try.ntmps6
    go_wp2_with (first | (go_at_call 16; refine (HA.out _).mono ?_; rintro e w1 ⟨rfl, hb1⟩) | (go_at_call 8; refine (HS.out _).mono ?_; rintro e w2 ⟨rfl, rfl⟩) | (go_at_call 13; refine (numB_any _ _).mono ?_; rintro e w3 ⟨rfl, rfl⟩))
    go_ret
    exact ⟨rfl, hb1⟩
  | true =>
    obtain ⟨hs1, hs2⟩ := of_decide_eq_true h
    have HS := hide (fun w => split_yes a0 w h)
    obtain ⟨k, hk, mk⟩ := mod_u64 a1 a0.size (by omega) (by omega)
    have hq1 := (size_each (s := a0) (j := k / 32) (by unfold nP; omega))
    have hq2 : k % 32 < (pieceS a0 (k / 32)).size := by rw [size_piece]; omega
    have hq3 : k / 32 < nP a0 := by unfold nP; omega
    have HG := hide (get_piece a0 k hk hq2)
    have hn9 := (nP_pos h).2
    have HN : Hid ((piecesTo a0 (nP a0)).length = nP a0) := length_piecesTo _ _
    have HP : Hid (∀ h, (piecesTo a0 (nP a0))[k / 32]'h = pieceS a0 (k / 32)) := fun h => get_piecesTo _ _ _ h
    clear h
    obtain ⟨q, hq⟩ : ∃ q : Nat, q = k / 32 := ⟨_, rfl⟩
    obtain ⟨r, hr⟩ : ∃ r : Nat, r = k % 32 := ⟨_, rfl⟩
    have hqi : (k : Int).tdiv 32 = (q : Int) := by rw [Int.tdiv_eq_ediv_of_nonneg (by omega)]; omega
    have hri : (k : Int).tmod 32 = (r : Int) := by rw [Int.tmod_eq_emod_of_nonneg (by omega)]; omega
    go_enter Try.func6, Try.ntmps6
    go_upto_region 7 with (first | (go_at_call 16; refine (HA.out _).mono ?_; rintro e w1 ⟨rfl, hb1⟩) | (go_at_call 8; refine (HS.out _).mono ?_; rintro e w2 ⟨v, rfl, hown, hb2⟩) | (go_at_call 13; refine (numB_any _ _).mono ?_; rintro e w3 ⟨rfl, rfl⟩))
    rw [mk]
    clear mk
    obtain ⟨T, hT⟩ : ∃ T : ByteArray, T = pieceS a0 (k / 32) := ⟨_, rfl⟩
    have hr2 : r < T.size := by rw [hT, hr]; exact hq2
    have hby : T[r]'hr2 = a0[k]'hk := by subst hT hr; exact HG.out
    obtain ⟨g, cap, rfl, _, _⟩ := hown.form (by omega)
    have hin := (ownsT_in hown).2.2 q (by rw [HN.out]; omega)
    rw [Nat.zero_add, get_piecesTo, hq, ← hT, ← hq] at hin
    have hq4 : q < nP a0 := by omega
    have hT9 : T.size ≤ 32 := by rw [hT]; exact hq1.2
    have hB := thenB hb1 hb2
    clear hq3 hq2 hq1 HG HN HP hq hr hT hown HS HA hb1 hb2
    generalize nP a0 = N at *
    go_quiet (fail)
    go_wp2
    go_ret
    exact ⟨rfl, bel_drewN hB _⟩

set_option maxRecDepth 100000 in
theorem lifted (os : Os) (started : os.Started) (H : Type) (enc : TypeId × Value → H) :
    ReturnsInHanded {} Try.checked os 6 .any (Rows.blockPlacesSpec.pre6 enc Try.prog Try.f6 Rows.blockPlacesRow.domain false) (Rows.blockPlacesSpec.post enc Try.prog Try.f6 false true false false) := by
  refine returnsInHanded_of_change (C := Try.checked) own started (by kernel_rfl) Try.func6
    (ChangeSpec.witness6 (enc := enc) (C := Try.checked) false ⟨#[], #[.string ByteArray.empty, .int .i64 0], []⟩ 8 (by kernel_rfl) (by kernel_rfl) (by kernel_rfl) (by kernel_rfl)) ?_
  intro W base args ds gs before hval0 hW hcnd _
  have hval : ∀ (j : Nat) t v, Try.f6.params[j]? = some t → args[j]? = some v → Value.okWide Try.prog W .any base t v := hval0
  have hW' := hW
  obtain ⟨p, q, hA0, hV, rfl, hfz, hnd⟩ := hW
  have hA : DataW.TrodAll enc Try.prog W 0 (fun _ => true) true Try.f6.params.toList args.toList ds p := hA0
  rw [Try.params6] at hA hval
  obtain ⟨v0, vs0, d0, ds0, p0, q0, hargs, rfl, rfl, h0, r0⟩ := trodAll_cons hA
  obtain ⟨v1, vs1, d1, ds1, p1, q1, rfl, rfl, rfl, h1, r1⟩ := trodAll_cons r0
  obtain ⟨rfl, rfl, rfl⟩ := trodAll_nil r1
  obtain rfl : args = #[v0, v1] := by cases args; simp_all
  obtain ⟨rfl, rfl⟩ := trodVars_none hV
  obtain ⟨a0, rfl, rfl, rfl, w0⟩ := open_string Try.underlying9 (hval 0 9 v0 rfl rfl) h0
  obtain ⟨a1, rfl, rfl, rfl, w1⟩ := open_int Try.underlying3 (hval 1 3 v1 rfl rfl) h1
  clear hA0 hval0
  refine (walk a0 a1 w0 w1 W).mono fun e W' ⟨he, bel⟩ => ?_
  subst he
  exact ⟨_, rfl, _, _, _, [], _, [], hW', (trodAll_cons_mk (shut_bool Try.underlying4 _) trodAll_mk0), (trodAll_cons_mk (shut_string Try.underlying9 w0) (trodAll_cons_mk (shut_int Try.underlying3 w1) trodAll_mk0)), rfl, bel.frame _, fun h => by cases h⟩

theorem over : Rows.blockPlacesRow.holds Try.pinned (OpenSpec.ofChange Rows.blockPlacesSpec) :=
  OpenClaim.holds_of_wide 6 Try.f6 rfl rfl rfl rfl rfl rfl rfl ⟨rfl, rfl, rfl, rfl, rfl⟩ rfl rfl rfl rfl rfl (by kernel_rfl) Try.func6 (by kernel_rfl)
    (of_decide_eq_true (by kernel_rfl)) (by unfold Func.isWrapper; first | (rw [if_pos (by decide +kernel)]; kernel_rfl) | (rw [if_neg (by decide +kernel)]; exact ⟨rfl, rfl⟩))
    (fun os started H enc _ => lifted os started H enc)

theorem proved : Rows.BlockPlacesSaid :=
  over
#print axioms proved
end Go.Proofs.Ytpoigakjhhkifaa.blockPlaces
