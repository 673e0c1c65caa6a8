/- Whatever the text and the two numbers: the law StageGood returns true (the record that is made is good, and its number is above those of all records), and the arguments read as they did; no condition. -/
import Derived.Test.YtlmndigldifaoaaRows
import Derived.Test.YtlmndigldifaoaaStaAwake
import Derived.ChangeOld
import Derived.Below
import Derived.WalkKit
import Derived.ProofKit
import Derived.OpenShut
import Derived.ShutString
namespace Go.Proofs.Ytlmndigldifaoaa.stageGood
open Go.ChangeShapes Go.WideShapes Go.ChangeAt Go.RowKit
open Go.ChangeMaps (open_string shut_string)
set_option linter.unusedVariables false

open Go.Proofs.Ytlmndigldifaoaa.Bytes
open Go.Proofs.Ytlmndigldifaoaa.Ent
open Go.Proofs.Ytlmndigldifaoaa.EntRow
open Go.Proofs.Ytlmndigldifaoaa.EntWalk
open Go.Proofs.Ytlmndigldifaoaa.Jou
open Go.Proofs.Ytlmndigldifaoaa.JouRow
open Go.Proofs.Ytlmndigldifaoaa.JouRef
open Go.Proofs.Ytlmndigldifaoaa.Ops
open Go.Proofs.Ytlmndigldifaoaa.Act
open Go.Proofs.Ytlmndigldifaoaa.ActRef
open Go.Proofs.Ytlmndigldifaoaa.ActApp
open Go.Proofs.Ytlmndigldifaoaa.Pla
open Go.Proofs.Ytlmndigldifaoaa.Sta
open Go.Proofs.Ytlmndigldifaoaa.StaWalk
open Go.Proofs.Ytlmndigldifaoaa.StaAwake
theorem own : ownKnob Try.prog.godebug = none := by kernel_rfl

theorem rof_ways (f : ByteArray) (t z : Int) : (rofQ f t z = 0 ∧ rofT f t z = 0 ∧ rofZ f t z = 0 ∧ rofM f t z = 0 ∧ (errS f t z = 900 ∨ errS f t z = 801)) ∨ (mayF f = true ∧ errS f t z = 0 ∧ rofT f t z = t ∧ rofZ f t z = z ∧ rofQ f t z = topI f + 1 ∧ goodB f (rofQ f t z) t z (rofM f t z) = true ∧ imgOk f (rofQ f t z) t z (rofM f t z) = true) := by
  cases h : rofOk f t z with
  | false =>
    obtain ⟨v1, v2, v3, v4, v5⟩ := rof_no h
    exact .inl ⟨v1, v2, v3, v4, .inl v5⟩
  | true =>
    by_cases ht : topI f < 1048576
    · obtain ⟨v1, v2, v3, v4, v5⟩ := rof_yes h ht
      obtain ⟨_, g2, _, g4, _⟩ := rof_good v5
      rw [v2, v3] at g2 g4
      exact .inr ⟨mayF_t (rofOk_parts.1 h).1, v5, v2, v3, v1, g4, g2⟩
    · obtain ⟨v1, v2, v3, v4, v5⟩ := rof_full h ht
      exact .inl ⟨v1, v2, v3, v4, .inr v5⟩
set_option maxRecDepth 100000 in
set_option maxHeartbeats 4000000 in
theorem walk (a0 : ByteArray) (a1 : Int) (a2 : Int) (w0 : a0.size ≤ maxLen) (w1 : (Lit.int .i64 a1).wf = true) (w2 : (Lit.int .i64 a2).wf = true) (w : World) :
    Calls Try.prog 4 #[.string a0, .int .i64 a1, .int .i64 a2] w fun e w' => e = .returned (.bool true) ∧ Below w.heap.size w w' := by
  have hB : Below w.heap.size w w := Below.refl _ _
  have C1 := hide (fun w => record_any a0 a1 a2 w)
  have b1 := build_none
  rcases rof_ways a0 a1 a2 with ⟨v1, v2, v3, v4, v5⟩ | ⟨h0, v1, v2, v3, v4, v5, v6⟩
  · rw [v1, v2, v3, v4] at C1
    clear v1 v2 v3 v4
    rcases v5 with v5 | v5
    all_goals
      rw [v5] at C1
      clear v5
      go_enter Try.func4, Try.ntmps4
      go_wp2_with (first | (go_at_call 15; refine (awake_any _).mono ?_; rintro e w' ⟨rfl, hb⟩; replace hB := hB.trans (hb.mono hB.size); clear hb) | (go_at_call 10; refine (C1.out _).mono ?_; rintro e w' ⟨rfl, hb⟩; replace hB := hB.trans (hb.mono hB.size); clear hb) | (go_at_call 13; refine (numJ_any _ _).mono ?_; rintro e w' ⟨rfl, rfl⟩))
      go_ret
      exact ⟨rfl, hB.alloc hB.size _⟩
  · have C2 := hide (fun w => refGood_any a0 (rofQ a0 a1 a2) a1 a2 (rofM a0 a1 a2) w)
    have C3 := hide (fun w => refScan_any a0 w)
    have HN : Hid (∀ i (hi : i < (scanL a0).length), (scanL a0)[i].pq < rofQ a0 a1 a2) := fun i hi => by
      rw [v4]
      have := top_ge (List.getElem_mem hi)
      omega
    have hlen := scan_len a0
    have j0 : errJ true = 0 := rfl
    have e0 : errI true = 0 := rfl
    rw [v1, v2, v3] at C1
    rw [v5, v6] at C2
    rw [h0] at C3
    clear h0 v1 v2 v3 v4 v5 v6
    generalize scanL a0 = l at *
    generalize rofQ a0 a1 a2 = Q at *
    generalize rofM a0 a1 a2 = M at *
    go_enter Try.func4, Try.ntmps4
    go_wp2_with (first | (go_at_call 15; refine (awake_any _).mono ?_; rintro e w' ⟨rfl, hb⟩; replace hB := hB.trans (hb.mono hB.size); clear hb) | (go_at_call 10; refine (C1.out _).mono ?_; rintro e w1 ⟨rfl, hb⟩) | (go_at_call 13; refine (numJ_any _ _).mono ?_; rintro e w' ⟨rfl, rfl⟩))
    replace hB := thenB hB hb; clear hb
    have hX := boxM w1 (.int .i64 Q) (.int .i64 a1) (.int .i64 a2) (.int .i64 M) 29
    replace hB := hB.alloc hB.size (.cells #[.int .i64 Q, .int .i64 a1, .int .i64 a2, .int .i64 M] 29)
    generalize w1.alloc (.cells #[.int .i64 Q, .int .i64 a1, .int .i64 a2, .int .i64 M] 29) = W1 at *
    generalize w1.heap.size = B1 at *
    refine (C2.out _).mono ?_; rintro e w2 ⟨rfl, hb⟩; replace hB := thenB hB hb; replace hX := boxB hX hb; clear hb
    go_wp2_with fail
    refine (C3.out _).mono ?_
    rintro e w3 ⟨v, rfl, hown, hb⟩
    replace hB := thenB hB hb; replace hX := boxB hX hb; clear hb
    obtain ⟨a, cap, rfl, hin⟩ := ownsP_is hown
    clear hown C1 C2 C3
    go_wp2
    go_loopw [13] (fun y wr => ∃ n : Nat, n ≤ l.length ∧ y = .int .i64 n ∧ Below w3.heap.size w3 wr) (fun y _ => l.length - (intOf y).toNat)
    case atStart => exact ⟨0, Nat.zero_le _, rfl, Below.refl _ _⟩
    case round =>
      obtain ⟨n, hn, rfl, hbel⟩ := hrel
      by_cases hlt : n < l.length
      · rcases hin with hin | ⟨g, rfl, hg, hin⟩
        · rw [hin] at hlt; simp at hlt
        have hin1 := hin.below hbel hg
        have c1 := hin1.pq n hlt
        have hX1 := boxB hX hbel
        have hq := HN.out n hlt
        clear hin hin1 hX
        generalize l[n].pq = X at *
        have hd : decide (Q ≤ X) = false := decide_eq_false (by omega)
        go_wp2
        go_quiet (fail)
        go_wp2
        exact ⟨⟨n + 1, by omega, by go_num, bel_drewN hbel _⟩, by simp [intOf]; omega⟩
      · replace hB := thenB hB hbel
        replace hX := boxB hX hbel
        go_wp2
        go_ret
        exact ⟨rfl, hB⟩

set_option maxRecDepth 100000 in
theorem lifted (os : Os) (started : os.Started) (H : Type) (enc : TypeId × Value → H) :
    ReturnsInHanded {} Try.checked os 4 .any (Rows.stageGoodSpec.pre6 enc Try.prog Try.f4 Rows.stageGoodRow.domain false) (Rows.stageGoodSpec.post enc Try.prog Try.f4 false true false false) := by
  refine returnsInHanded_of_change (C := Try.checked) own started (by kernel_rfl) Try.func4
    (ChangeSpec.witness6 (enc := enc) (C := Try.checked) false ⟨#[], #[.string ByteArray.empty, .int .i64 0, .int .i64 0], []⟩ 8 (by kernel_rfl) (by kernel_rfl) (by kernel_rfl) (by kernel_rfl)) ?_
  intro W base args ds gs before hval0 hW hcnd _
  have hval : ∀ (j : Nat) t v, Try.f4.params[j]? = some t → args[j]? = some v → Value.okWide Try.prog W .any base t v := hval0
  have hW' := hW
  obtain ⟨p, q, hA0, hV, rfl, hfz, hnd⟩ := hW
  have hA : DataW.TrodAll enc Try.prog W 0 (fun _ => true) true Try.f4.params.toList args.toList ds p := hA0
  rw [Try.params4] at hA hval
  obtain ⟨v0, vs0, d0, ds0, p0, q0, hargs, rfl, rfl, h0, r0⟩ := trodAll_cons hA
  obtain ⟨v1, vs1, d1, ds1, p1, q1, rfl, rfl, rfl, h1, r1⟩ := trodAll_cons r0
  obtain ⟨v2, vs2, d2, ds2, p2, q2, rfl, rfl, rfl, h2, r2⟩ := trodAll_cons r1
  obtain ⟨rfl, rfl, rfl⟩ := trodAll_nil r2
  obtain rfl : args = #[v0, v1, v2] := by cases args; simp_all
  obtain ⟨rfl, rfl⟩ := trodVars_none hV
  obtain ⟨a0, rfl, rfl, rfl, w0⟩ := open_string Try.underlying9 (hval 0 9 v0 rfl rfl) h0
  obtain ⟨a1, rfl, rfl, rfl, w1⟩ := open_int Try.underlying3 (hval 1 3 v1 rfl rfl) h1
  obtain ⟨a2, rfl, rfl, rfl, w2⟩ := open_int Try.underlying3 (hval 2 3 v2 rfl rfl) h2
  clear hA0 hval0
  refine (walk a0 a1 a2 w0 w1 w2 W).mono fun e W' ⟨he, bel⟩ => ?_
  subst he
  exact ⟨_, rfl, _, _, _, [], _, [], hW', (trodAll_cons_mk (shut_bool Try.underlying4 _) trodAll_mk0), (trodAll_cons_mk (shut_string Try.underlying9 w0) (trodAll_cons_mk (shut_int Try.underlying3 w1) (trodAll_cons_mk (shut_int Try.underlying3 w2) trodAll_mk0))), rfl, bel.frame _, fun h => by cases h⟩

theorem over : Rows.stageGoodRow.holds Try.pinned (OpenSpec.ofChange Rows.stageGoodSpec) :=
  OpenClaim.holds_of_wide 4 Try.f4 rfl rfl rfl rfl rfl rfl rfl ⟨rfl, rfl, rfl, rfl, rfl⟩ rfl rfl rfl rfl rfl (by kernel_rfl) Try.func4 (by kernel_rfl)
    (of_decide_eq_true (by kernel_rfl)) (by unfold Func.isWrapper; first | (rw [if_pos (by decide +kernel)]; kernel_rfl) | (rw [if_neg (by decide +kernel)]; exact ⟨rfl, rfl⟩))
    (fun os started H enc _ => lifted os started H enc)

theorem proved : Rows.StageGoodSaid :=
  over
#print axioms proved
end Go.Proofs.Ytlmndigldifaoaa.stageGood
