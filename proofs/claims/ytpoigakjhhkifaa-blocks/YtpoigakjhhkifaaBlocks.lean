/- Whatever the text and the row of texts: the law Blocks returns true (every answer is the document's; what is handed in stays; what is split comes back), and the arguments read as they did; no condition. -/
import Derived.Test.YtpoigakjhhkifaaRows
import Derived.Test.YtpoigakjhhkifaaBloAwake
import Derived.Test.YtpoigakjhhkifaaBloRef
import Derived.BigQuiet
import Derived.Deep.Cut
import Derived.WalkKit
import Derived.ProofKit
import Derived.OpenShut
import Derived.ShutString
import Derived.ChangeOld
import Derived.Below
import Derived.SizedLaws
namespace Go.Proofs.Ytpoigakjhhkifaa.blocks
open Go.ChangeShapes Go.WideShapes Go.ChangeAt Go.RowKit
open Go.ChangeMaps (open_string shut_string)
set_option linter.unusedVariables false

open Go.Proofs.Ytpoigakjhhkifaa.Bytes
open Go.Proofs.Ytpoigakjhhkifaa.NorWalk
open Go.Proofs.Ytpoigakjhhkifaa.TxtRow
open Go.Proofs.Ytpoigakjhhkifaa.TxtHelp
open Go.Proofs.Ytpoigakjhhkifaa.Blo
open Go.Proofs.Ytpoigakjhhkifaa.BloWalk
open Go.Proofs.Ytpoigakjhhkifaa.BloRef
open Go.Proofs.Ytpoigakjhhkifaa.BloAwake
theorem own : ownKnob Try.prog.godebug = none := by kernel_rfl
theorem laidOut : laidOutB Try.prog = true := by kernel_rfl

theorem len9 (s : ByteArray) : (splitL s).length ≤ 9 := by
  cases h : splitOk s with
  | false => rw [splitL_no h]; decide
  | true => rw [splitL_ok h, length_piecesTo]; exact (nP_pos h).2
theorem each32 (s : ByteArray) : ∀ t ∈ splitL s, t.size ≤ 65536 := by
  intro t ht
  cases h : splitOk s with
  | false => rw [splitL_no h] at ht; cases ht
  | true =>
    rw [splitL_ok h] at ht
    obtain ⟨i, hi, rfl⟩ := List.getElem_of_mem ht
    rw [get_piecesTo]
    rw [length_piecesTo] at hi
    have := (size_each hi).2
    omega
/-- The two ways of a text: it is split, and comes back; or it is not. -/
theorem ways (s : ByteArray) : (errB (splitOk s) = 0 ∧ errB (joinB (splitL s)) = 0 ∧ joinS (splitL s) = s) ∨ errB (splitOk s) = 1000 := by
  cases h : splitOk s with
  | false => exact .inr rfl
  | true => exact .inl ⟨rfl, by rw [split_good h]; rfl, join_split h⟩
set_option maxRecDepth 100000 in
set_option maxHeartbeats 1000000 in
theorem walk (a0 : ByteArray) (v1 : Value) (a1 : List ByteArray) (w : World) (w0 : a0.size ≤ maxLen) (i1 : Go.Proofs.Ytpoigakjhhkifaa.TxtRow.IsTx w v1 a1) (z1 : a1.length * 16 ≤ 140737488351232) (s1 : ∀ t ∈ a1, t.size ≤ maxLen) :
    Calls Try.prog 3 #[.string a0, v1] w fun e w' => e = .returned (.bool true) ∧ Below w.heap.size w w' := by
  have hml : a1.length ≤ maxLen := by unfold maxLen; omega
  have HL := hide (lendT_any v1 a1 w (by omega) i1)
  have H2 := hide (fun w => split_any a0 w)
  have H3 := hide (fun w => refSplit_any a0 w)
  have H4 := hide (fun v w (h : IsTx w v a1) => join_any v a1 w hml s1 h)
  have H5 := hide (fun v w (h : IsTx w v a1) => refJoin_any v a1 w hml s1 h)
  have H6 := hide (fun v w (h : IsTx w v (splitL a0)) => join_any v (splitL a0) w (Nat.le_trans (len9 a0) (by decide)) (fun t ht => Nat.le_trans (each32 a0 t ht) (by decide)) h)
  have H7 := hide (fun u v w (h : IsTx w u (splitL a0)) (h' : IsTx w v (splitL a0)) => sameT_yes u v (splitL a0) w (Nat.le_trans (len9 a0) (by decide)) h h')
  have H8 := hide (fun v w B (h : w.ownsRow B 9 1 v (splitL a0).length (txC (splitL a0))) => spoilT_any v (splitL a0) w B (Nat.le_trans (len9 a0) (by decide)) (each32 a0) h)
  have H9 := hide (fun u v w B (h : LentTx w B u a1 roomS behindS) (h' : IsTx w v a1) => keptT_yes u v a1 w B (by omega) h h')
  have HA := hide awakeB_any
  rcases ways a0 with ⟨e1, e2, e3⟩ | e1
  all_goals
    rw [e1] at H2 H3
    try rw [e2, e3] at H6
    generalize errB (joinB a1) = E at *
    generalize joinS a1 = J at *
    try generalize errB (joinB (splitL a0)) = E2 at *
    try generalize joinS (splitL a0) = J2 at *
    generalize splitL a0 = L at *
    go_enter Try.func3, Try.ntmps3
    go_upto_region 2 with (go_at_call 7; refine HL.out.mono ?_; rintro e w1 ⟨u, rfl, hu, hb1⟩)
    have hi := i1.below hb1
    go_upto_region 3 with (go_at_call 8; refine (H2.out _).mono ?_; rintro e w2 ⟨v, rfl, ho, hb2⟩)
    have hi2 := hi.below hb2
    have hu2 := hu.below hb2
    go_upto_region 4 with (go_at_call 9; refine (H3.out _).mono ?_; rintro e w3 ⟨v', rfl, ho', hb3⟩)
    replace hi2 := hi2.below hb3
    replace hu2 := hu2.below hb3
    replace ho := OpsRow.owns_below ho hb3
    replace hb2 := thenB hb2 hb3
    have hv' := ownsT_is ho'
    clear ho' hb3
    go_upto_region 5 with (go_at_call 10; refine (H4.out _ _ hu2.is).mono ?_; rintro e w4 ⟨rfl, hb4⟩)
    replace hi2 := hi2.below hb4
    replace hv' := hv'.below hb4
    replace ho := OpsRow.owns_below ho hb4
    replace hb2 := thenB hb2 hb4
    clear hb4 hu2
    go_upto_region 6 with (go_at_call 11; refine (H5.out _ _ hi2).mono ?_; rintro e w5 ⟨rfl, hb5⟩)
    replace hv' := hv'.below hb5
    replace ho := OpsRow.owns_below ho hb5
    replace hb2 := thenB hb2 hb5
    clear hb5 hi2
    go_upto_region 7 with (go_at_call 10; refine (H6.out _ _ (ownsT_is ho)).mono ?_; rintro e w6 ⟨rfl, hb6⟩)
    replace hv' := hv'.below hb6
    replace ho := OpsRow.owns_below ho hb6
    replace hb2 := thenB hb2 hb6
    clear hb6
    go_upto_region 9 with (first | (go_at_call 13; refine (numB_any _ _).mono ?_; rintro e wn ⟨rfl, rfl⟩) | (go_at_call 12; refine (H7.out _ _ _ (ownsT_is ho) hv').mono ?_; rintro e w7 ⟨rfl, hb7⟩; replace ho := OpsRow.owns_below ho hb7; replace hb2 := thenB hb2 hb7; clear hb7))
    go_upto_region 10 with (go_at_call 14; refine (H8.out _ _ _ ho).mono ?_; rintro e w8 ⟨rfl, hb8⟩)
    replace hb2 := hb2.trans hb8
    have hu8 := hu.below hb2
    have hi8 := hi.below hb2
    replace hb1 := thenB hb1 hb2
    clear hb8 hb2
    go_wp2_with (first | (go_at_call 15; refine (H9.out _ _ _ _ hu8 hi8).mono ?_; rintro e w9 ⟨rfl, hb9⟩) | (go_at_call 16; refine (HA.out _).mono ?_; rintro e w10 ⟨rfl, hb10⟩))
    go_ret
    exact ⟨rfl, thenB (thenB hb1 hb9) hb10⟩

set_option maxRecDepth 100000 in
theorem lifted (os : Os) (started : os.Started) (H : Type) (enc : TypeId × Value → H) :
    ReturnsInHanded {} Try.checked os 3 .any (Rows.blocksSpec.pre6 enc Try.prog Try.f3 Rows.blocksRow.domain false) (Rows.blocksSpec.post enc Try.prog Try.f3 false true false false) := by
  refine returnsInHanded_of_change_sized (C := Try.checked) own started (by kernel_rfl) Try.func3
    (ChangeSpec.witness6 (enc := enc) (C := Try.checked) false ⟨#[], #[.string ByteArray.empty, .slice none 0 0], []⟩ 8 (by kernel_rfl) (by kernel_rfl) (by kernel_rfl) (by kernel_rfl)) ?_
  intro W base args ds gs before hval0 hW hcnd hsz0 _
  have hval : ∀ (j : Nat) t v, Try.f3.params[j]? = some t → args[j]? = some v → Value.okWide Try.prog W .any base t v := hval0
  have hW' := hW
  obtain ⟨p, q, hA0, hV, rfl, hfz, hnd⟩ := hW
  have hA : DataW.TrodAll enc Try.prog W 0 (fun _ => true) true Try.f3.params.toList args.toList ds p := hA0
  have hsz : (DataW.weightsEach Try.prog (Try.f3.params.toList ++ Rows.blocksSpec.plain.varTypes Try.prog) (ds ++ gs)).all (· ≤ reachBytes) = true := hsz0
  clear hsz0
  rw [Try.params3] at hA hval hsz
  obtain ⟨v0, vs0, d0, ds0, p0, q0, hargs, rfl, rfl, h0, r0⟩ := trodAll_cons hA
  obtain ⟨v1, vs1, d1, ds1, p1, q1, rfl, rfl, rfl, h1, r1⟩ := trodAll_cons r0
  obtain ⟨rfl, rfl, rfl⟩ := trodAll_nil r1
  obtain rfl : args = #[v0, v1] := by cases args; simp_all
  obtain ⟨rfl, rfl⟩ := trodVars_none hV
  obtain ⟨a0, rfl, rfl, rfl, w0⟩ := open_string Try.underlying9 (hval 0 9 v0 rfl rfl) h0
  have k1 := h1
  have lt1 : ∀ x ∈ p1, x.block < W.heap.size := by obtain ⟨m, hm⟩ := k1; exact DataW.trod_lt m _ _ _ hm
  obtain ⟨a1, i1, z1, s1⟩ := Go.Proofs.Ytpoigakjhhkifaa.TxtRow.open_tx Try.underlying22 Try.underlying9 (by kernel_rfl) (by kernel_rfl) (hval 1 22 v1 rfl rfl) h1 lt1 hsz (j := 1) rfl rfl
  clear hA0 hval0
  refine (walk a0 v1 a1 W w0 i1 z1 s1).mono fun e W' ⟨he, bel⟩ => ?_
  subst he
  exact ⟨_, rfl, _, _, _, [], _, [], hW', (trodAll_cons_mk (shut_bool Try.underlying4 _) trodAll_mk0), (trodAll_cons_mk (shut_string Try.underlying9 w0) (trodAll_cons_mk (Below.trod laidOut (by kernel_rfl) (of_decide_eq_true (by kernel_rfl)) k1 bel lt1) trodAll_mk0)), rfl, bel.frame _, fun h => by cases h⟩

theorem over : Rows.blocksRow.holds Try.pinned (OpenSpec.ofChange Rows.blocksSpec) :=
  OpenClaim.holds_of_wide 3 Try.f3 rfl rfl rfl rfl rfl rfl rfl ⟨rfl, rfl, rfl, rfl, rfl⟩ rfl rfl rfl rfl rfl (by kernel_rfl) Try.func3 (by kernel_rfl)
    (of_decide_eq_true (by kernel_rfl)) (by unfold Func.isWrapper; first | (rw [if_pos (by decide +kernel)]; kernel_rfl) | (rw [if_neg (by decide +kernel)]; exact ⟨rfl, rfl⟩))
    (fun os started H enc _ => lifted os started H enc)

theorem proved : Rows.BlocksSaid :=
  over
#print axioms proved
end Go.Proofs.Ytpoigakjhhkifaa.blocks
