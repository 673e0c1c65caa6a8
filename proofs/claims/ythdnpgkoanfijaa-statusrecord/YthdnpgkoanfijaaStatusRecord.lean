/- Whatever the text and the two numbers: the law StatusRecord returns true (what is committed is the record of what the flash holds), and the arguments read as they did; no condition. -/
import Derived.Test.YthdnpgkoanfijaaRows
import Derived.Test.YthdnpgkoanfijaaBagNor
import Derived.Test.YthdnpgkoanfijaaBagDev
import Derived.Test.YthdnpgkoanfijaaTicRow
import Derived.Test.YthdnpgkoanfijaaStsMath
import Derived.Test.YthdnpgkoanfijaaStsMore
import Derived.Test.YthdnpgkoanfijaaStsGet
import Derived.Test.YthdnpgkoanfijaaStsAwake
import Derived.Test.YthdnpgkoanfijaaBagAct
import Derived.Deep.Cut
import Derived.ChangeOld
import Derived.Below
import Derived.WalkKit
import Derived.ProofKit
import Derived.OpenShut
import Derived.ShutString
namespace Go.Proofs.Ythdnpgkoanfijaa.statusRecord
open Go.ChangeShapes Go.WideShapes Go.ChangeAt Go.RowKit
open Go.ChangeMaps (open_string shut_string)
set_option linter.unusedVariables false

open Go.Proofs.Ythdnpgkoanfijaa.Bytes
open Go.Proofs.Ythdnpgkoanfijaa.Ops
open Go.Proofs.Ythdnpgkoanfijaa.OpsRow
open Go.Proofs.Ythdnpgkoanfijaa.Jou
open Go.Proofs.Ythdnpgkoanfijaa.Act
open Go.Proofs.Ythdnpgkoanfijaa.ActRef
open Go.Proofs.Ythdnpgkoanfijaa.ActApp
open Go.Proofs.Ythdnpgkoanfijaa.Dev
open Go.Proofs.Ythdnpgkoanfijaa.DevHelp
open Go.Proofs.Ythdnpgkoanfijaa.DevAwake
open Go.Proofs.Ythdnpgkoanfijaa.Dnl
open Go.Proofs.Ythdnpgkoanfijaa.DnlCopy
open Go.Proofs.Ythdnpgkoanfijaa.Tic
open Go.Proofs.Ythdnpgkoanfijaa.TicRow
open Go.Proofs.Ythdnpgkoanfijaa.Sts
theorem own : ownKnob Try.prog.godebug = none := by kernel_rfl

open Go.Proofs.Ythdnpgkoanfijaa.DevRow (IsSt isSt_nil ownsS_is resM resB)
theorem build_man (s g : Int) (w : World) : (Instr.build 24 #[(0, .int .i64 4), (4, .int .i64 s), (3, .int .i64 g)]).run Try.prog w = .ok (.agg #[.int .i64 4, .int .i64 0, .int .i64 0, .int .i64 g, .int .i64 s, .slice none 0 0]) w := run_build w 24 _ _ (by kernel_rfl)
theorem ne_t {a b : Int} (h : ¬ a = b) : (a != b) = true := bne_iff_ne.2 h
theorem man_may {s k : Nat} (hs : s ≤ 1) (hk : k < 288) : devB ⟨4, 0, 0, 1 + (k : Int), (s : Int), []⟩ = true := by
  unfold devB
  dsimp only
  rw [upB_iff.2 (show 0 ≤ 1 + (k : Int) ∧ 1 + (k : Int) ≤ 288 by omega), upB_iff.2 (show 0 ≤ (s : Int) ∧ (s : Int) ≤ 1 by omega)]
  rfl
set_option maxRecDepth 100000 in
set_option maxHeartbeats 4000000 in
theorem walk (a0 : ByteArray) (a1 : Int) (a2 : Int) (w0 : a0.size ≤ maxLen) (w1 : (Lit.int .i64 a1).wf = true) (w2 : (Lit.int .i64 a2).wf = true) (w : World) :
    Calls Try.prog 6 #[.string a0, .int .i64 a1, .int .i64 a2] w fun e w' => e = .returned (.bool true) ∧ Below w.heap.size w w' := by
  have hB : Below w.heap.size w w := Below.refl _ _
  have br := DevWalk.build_d0
  have bm := build_man
  obtain ⟨s, hs, ms⟩ : ∃ s : Nat, s ≤ 1 ∧ bits .and .i64 a1 1 = (s : Int) := mask_i64 a1 1 (by omega)
  obtain ⟨k, hk, mk⟩ : ∃ k : Nat, k < 288 ∧ wrap64 ((IntKind.u64.wrap a2).tmod 288) = (k : Int) := mod_u64 a2 288 (by omega) (by omega)
  have hd := man_may hs hk
  have C1 := hide fun w' => StsGet.get_any a0 ⟨4, 0, 0, 1 + (k : Int), (s : Int), []⟩ (.slice none 0 0) w' (isSt_nil w')
  have C2 := hide (fun w => refRof_any a0 (s : Int) (1 + (k : Int)) w)
  cases hm : mayF a0 with
  | false =>
    have hb0 : bothB a0 ⟨4, 0, 0, 1 + (k : Int), (s : Int), []⟩ = false := by unfold bothB; rw [hm]; rfl
    rw [get_no hb0, hb0, show errT false = 1900 from rfl] at C1
    unfold StsGet.Got at C1
    generalize tkI newD = K at *
    unfold newD at C1
    dsimp only [List.length_nil] at C1
    generalize errS a0 (s : Int) (1 + (k : Int)) = E at *
    generalize rofQ a0 (s : Int) (1 + (k : Int)) = rQ at *
    generalize rofT a0 (s : Int) (1 + (k : Int)) = rT at *
    generalize rofZ a0 (s : Int) (1 + (k : Int)) = rZ at *
    generalize rofM a0 (s : Int) (1 + (k : Int)) = rM at *
    clear hb0 hd hm
    go_enter Try.func6, Try.ntmps6
    go_upto_region 3 with (go_at_call 14; refine (StsAwake.awake_any _).mono ?_; rintro e w' ⟨rfl, hb⟩; replace hB := thenB hB hb; clear hb)
    obtain ⟨hM, hn⟩ : _ ∧ _ := ⟨resM w' (.int .i64 4) (.int .i64 0) (.int .i64 0) (.int .i64 (1 + (k : Int))) (.int .i64 (s : Int)) (.slice none 0 0) 24, hal w' (.cells #[.int .i64 4, .int .i64 0, .int .i64 0, .int .i64 (1 + (k : Int)), .int .i64 (s : Int), .slice none 0 0] 24)⟩
    replace hB := thenB hB hn
    clear hn
    go_upto_region 4 with fail
    generalize w'.alloc _ = W0 at *
    generalize w'.heap.size = G0 at *
    go_wp2_with fail
    refine (C1.out _).mono ?_; rintro e u1 ⟨v1, rfl, ho1, hb⟩; replace hB := thenB hB hb; replace hM := resB hM hb; clear hb C1
    obtain ⟨p1, q1, rfl⟩ := ho1.form
    have hS := ho1.is
    clear ho1
    dsimp only [List.length_nil]
    obtain ⟨hQ, hQx, hn, _⟩ := StsAwake.two_made u1 (.int .i64 0) (.int .i64 0) (.int .i64 0) (.int .i64 0) (.int .i64 0) (.slice p1 0 q1) (.int .i64 0) (.int .i64 K) (.int .i64 0)
    replace hB := thenB hB hn
    replace hM := resB hM hn
    replace hS := hS.below hn
    clear hn
    go_upto_region 5 with fail
    generalize (u1.alloc _).alloc _ = W1 at *
    generalize u1.heap.size = G1 at *
    go_wp2_with fail
    refine (C2.out _).mono ?_; rintro e u2 ⟨rfl, hb⟩; replace hB := thenB hB hb; replace hQ := resB hQ hb; replace hS := hS.below hb; clear hb hM hQx C2
    have hn := hal u2 (.cells #[.int .i64 rQ, .int .i64 rT, .int .i64 rZ, .int .i64 rM] 43)
    have hX := EntRow.boxM u2 (.int .i64 rQ) (.int .i64 rT) (.int .i64 rZ) (.int .i64 rM) 43
    replace hB := thenB hB hn
    replace hQ := resB hQ hn
    replace hS := hS.below hn
    clear hn
    go_upto_region 6 with fail
    generalize u2.alloc _ = W2 at *
    generalize u2.heap.size = G2 at *
    go_wp2_with (go_at_call 12; refine (num_any _ _).mono ?_; rintro e w' ⟨rfl, rfl⟩)
    go_ret
    exact ⟨rfl, hB⟩
  | true =>
    have hb0 : bothB a0 ⟨4, 0, 0, 1 + (k : Int), (s : Int), []⟩ = true := both_parts.2 ⟨hm, hd⟩
    rw [get_ok hb0, hb0, show errT true = 0 from rfl, ask_mani (d := ⟨4, 0, 0, 1 + (k : Int), (s : Int), []⟩) rfl] at C1
    unfold StsGet.Got at C1
    clear hb0 hd hm
    rcases rec_ways a0 (s : Int) (1 + (k : Int)) with ⟨he, ho⟩ | ⟨he, -⟩
    · rw [mani_ok (d := ⟨4, 0, 0, 1 + (k : Int), (s : Int), []⟩) he] at C1
      have C3 := hide (fun w => refApp_any a0 (rofQ a0 (s : Int) (1 + (k : Int))) (rofT a0 (s : Int) (1 + (k : Int))) (rofZ a0 (s : Int) (1 + (k : Int))) (rofM a0 (s : Int) (1 + (k : Int))) w)
      have hL : appL a0 (rofQ a0 (s : Int) (1 + (k : Int))) (rofT a0 (s : Int) (1 + (k : Int))) (rofZ a0 (s : Int) (1 + (k : Int))) (rofM a0 (s : Int) (1 + (k : Int))) = recL a0 (s : Int) (1 + (k : Int)) := rfl
      rw [ho, hL, show errP true = 0 from rfl] at C3
      rw [he] at C2
      clear hL he ho
      dsimp only at C1
      generalize recL a0 (s : Int) (1 + (k : Int)) = L at *
      generalize tkI ⟨5, 0, 0, 1 + (k : Int), (s : Int), L⟩ = K at *
      generalize rofQ a0 (s : Int) (1 + (k : Int)) = rQ at *
      generalize rofT a0 (s : Int) (1 + (k : Int)) = rT at *
      generalize rofZ a0 (s : Int) (1 + (k : Int)) = rZ at *
      generalize rofM a0 (s : Int) (1 + (k : Int)) = rM at *
      go_enter Try.func6, Try.ntmps6
      go_upto_region 3 with (go_at_call 14; refine (StsAwake.awake_any _).mono ?_; rintro e w' ⟨rfl, hb⟩; replace hB := thenB hB hb; clear hb)
      obtain ⟨hM, hn⟩ : _ ∧ _ := ⟨resM w' (.int .i64 4) (.int .i64 0) (.int .i64 0) (.int .i64 (1 + (k : Int))) (.int .i64 (s : Int)) (.slice none 0 0) 24, hal w' (.cells #[.int .i64 4, .int .i64 0, .int .i64 0, .int .i64 (1 + (k : Int)), .int .i64 (s : Int), .slice none 0 0] 24)⟩
      replace hB := thenB hB hn
      clear hn
      go_upto_region 4 with fail
      generalize w'.alloc _ = W0 at *
      generalize w'.heap.size = G0 at *
      go_wp2_with fail
      refine (C1.out _).mono ?_; rintro e u1 ⟨v1, rfl, ho1, hb⟩; replace hB := thenB hB hb; replace hM := resB hM hb; clear hb C1
      obtain ⟨p1, q1, rfl⟩ := ho1.form
      have hS := ho1.is
      clear ho1
      obtain ⟨hQ, hQx, hn, _⟩ := StsAwake.two_made u1 (.int .i64 5) (.int .i64 0) (.int .i64 0) (.int .i64 (1 + (k : Int))) (.int .i64 ((s : Int))) (.slice p1 L.length q1) (.int .i64 0) (.int .i64 K) (.int .i64 5)
      replace hB := thenB hB hn
      replace hM := resB hM hn
      replace hS := hS.below hn
      clear hn
      go_upto_region 5 with fail
      generalize (u1.alloc _).alloc _ = W1 at *
      generalize u1.heap.size = G1 at *
      go_wp2_with fail
      refine (C2.out _).mono ?_; rintro e u2 ⟨rfl, hb⟩; replace hB := thenB hB hb; replace hQ := resB hQ hb; replace hS := hS.below hb; clear hb hM hQx C2
      have hn := hal u2 (.cells #[.int .i64 rQ, .int .i64 rT, .int .i64 rZ, .int .i64 rM] 43)
      have hX := EntRow.boxM u2 (.int .i64 rQ) (.int .i64 rT) (.int .i64 rZ) (.int .i64 rM) 43
      replace hB := thenB hB hn
      replace hQ := resB hQ hn
      replace hS := hS.below hn
      clear hn
      go_upto_region 6 with fail
      generalize u2.alloc _ = W2 at *
      generalize u2.heap.size = G2 at *
      go_wp2_with (go_at_call 12; refine (num_any _ _).mono ?_; rintro e w' ⟨rfl, rfl⟩)
      refine (C3.out _).mono ?_; rintro e u4 ⟨v4, rfl, ho4, hb⟩; replace hB := thenB hB hb; replace hQ := resB hQ hb; replace hS := hS.below hb; clear hb
      have hT := ownsS_is ho4
      obtain ⟨p4, q4, rfl⟩ := DnlCopy.owns_form ho4
      clear ho4
      go_wp2_with fail
      refine (sameSt_yes _ _ L _ hS hT).mono ?_; rintro e u5 ⟨rfl, hb⟩; replace hB := thenB hB hb; replace hQ := resB hQ hb; clear hb
      go_wp2_with fail
      go_ret
      exact ⟨rfl, hB⟩
    · rw [mani_no (d := ⟨4, 0, 0, 1 + (k : Int), (s : Int), []⟩) he, show tkI (failedD 3) = 0 from rfl] at C1
      unfold failedD at C1
      dsimp only [List.length_nil] at C1
      have f1 := ne_t he
      clear he
      generalize errS a0 (s : Int) (1 + (k : Int)) = E at *
      generalize rofQ a0 (s : Int) (1 + (k : Int)) = rQ at *
      generalize rofT a0 (s : Int) (1 + (k : Int)) = rT at *
      generalize rofZ a0 (s : Int) (1 + (k : Int)) = rZ at *
      generalize rofM a0 (s : Int) (1 + (k : Int)) = rM at *
      go_enter Try.func6, Try.ntmps6
      go_upto_region 3 with (go_at_call 14; refine (StsAwake.awake_any _).mono ?_; rintro e w' ⟨rfl, hb⟩; replace hB := thenB hB hb; clear hb)
      obtain ⟨hM, hn⟩ : _ ∧ _ := ⟨resM w' (.int .i64 4) (.int .i64 0) (.int .i64 0) (.int .i64 (1 + (k : Int))) (.int .i64 (s : Int)) (.slice none 0 0) 24, hal w' (.cells #[.int .i64 4, .int .i64 0, .int .i64 0, .int .i64 (1 + (k : Int)), .int .i64 (s : Int), .slice none 0 0] 24)⟩
      replace hB := thenB hB hn
      clear hn
      go_upto_region 4 with fail
      generalize w'.alloc _ = W0 at *
      generalize w'.heap.size = G0 at *
      go_wp2_with fail
      refine (C1.out _).mono ?_; rintro e u1 ⟨v1, rfl, ho1, hb⟩; replace hB := thenB hB hb; replace hM := resB hM hb; clear hb C1
      obtain ⟨p1, q1, rfl⟩ := ho1.form
      have hS := ho1.is
      clear ho1
      dsimp only [List.length_nil]
      obtain ⟨hQ, hQx, hn, _⟩ := StsAwake.two_made u1 (.int .i64 7) (.int .i64 3) (.int .i64 0) (.int .i64 0) (.int .i64 0) (.slice p1 0 q1) (.int .i64 3) (.int .i64 0) (.int .i64 7)
      replace hB := thenB hB hn
      replace hM := resB hM hn
      replace hS := hS.below hn
      clear hn
      go_upto_region 5 with fail
      generalize (u1.alloc _).alloc _ = W1 at *
      generalize u1.heap.size = G1 at *
      go_wp2_with fail
      refine (C2.out _).mono ?_; rintro e u2 ⟨rfl, hb⟩; replace hB := thenB hB hb; replace hQ := resB hQ hb; replace hS := hS.below hb; clear hb hM hQx C2
      have hn := hal u2 (.cells #[.int .i64 rQ, .int .i64 rT, .int .i64 rZ, .int .i64 rM] 43)
      have hX := EntRow.boxM u2 (.int .i64 rQ) (.int .i64 rT) (.int .i64 rZ) (.int .i64 rM) 43
      replace hB := thenB hB hn
      replace hQ := resB hQ hn
      replace hS := hS.below hn
      clear hn
      go_upto_region 6 with fail
      generalize u2.alloc _ = W2 at *
      generalize u2.heap.size = G2 at *
      go_wp2_with (go_at_call 12; refine (num_any _ _).mono ?_; rintro e w' ⟨rfl, rfl⟩)
      go_ret
      exact ⟨rfl, hB⟩

set_option maxRecDepth 100000 in
theorem lifted (os : Os) (started : os.Started) (H : Type) (enc : TypeId × Value → H) :
    ReturnsInHanded {} Try.checked os 6 .any (Rows.statusRecordSpec.pre6 enc Try.prog Try.f6 Rows.statusRecordRow.domain false) (Rows.statusRecordSpec.post enc Try.prog Try.f6 false true false false) := by
  refine returnsInHanded_of_change (C := Try.checked) own started (by kernel_rfl) Try.func6
    (ChangeSpec.witness6 (enc := enc) (C := Try.checked) false ⟨#[], #[.string ByteArray.empty, .int .i64 0, .int .i64 0], []⟩ 8 (by kernel_rfl) (by kernel_rfl) (by kernel_rfl) (by kernel_rfl)) ?_
  intro W base args ds gs before hval0 hW hcnd _
  have hval : ∀ (j : Nat) t v, Try.f6.params[j]? = some t → args[j]? = some v → Value.okWide Try.prog W .any base t v := hval0
  have hW' := hW
  obtain ⟨p, q, hA0, hV, rfl, hfz, hnd⟩ := hW
  have hA : DataW.TrodAll enc Try.prog W 0 (fun _ => true) true Try.f6.params.toList args.toList ds p := hA0
  rw [Try.params6] at hA hval
  obtain ⟨v0, vs0, d0, ds0, p0, q0, hargs, rfl, rfl, h0, r0⟩ := trodAll_cons hA
  obtain ⟨v1, vs1, d1, ds1, p1, q1, rfl, rfl, rfl, h1, r1⟩ := trodAll_cons r0
  obtain ⟨v2, vs2, d2, ds2, p2, q2, rfl, rfl, rfl, h2, r2⟩ := trodAll_cons r1
  obtain ⟨rfl, rfl, rfl⟩ := trodAll_nil r2
  obtain rfl : args = #[v0, v1, v2] := by cases args; simp_all
  obtain ⟨rfl, rfl⟩ := trodVars_none hV
  obtain ⟨a0, rfl, rfl, rfl, w0⟩ := open_string Try.underlying9 (hval 0 9 v0 rfl rfl) h0
  obtain ⟨a1, rfl, rfl, rfl, w1⟩ := open_int Try.underlying3 (hval 1 3 v1 rfl rfl) h1
  obtain ⟨a2, rfl, rfl, rfl, w2⟩ := open_int Try.underlying3 (hval 2 3 v2 rfl rfl) h2
  clear hA0 hval0
  refine (walk a0 a1 a2 w0 w1 w2 W).mono fun e W' ⟨he, bel⟩ => ?_
  subst he
  exact ⟨_, rfl, _, _, _, [], _, [], hW', (trodAll_cons_mk (shut_bool Try.underlying4 _) trodAll_mk0), (trodAll_cons_mk (shut_string Try.underlying9 w0) (trodAll_cons_mk (shut_int Try.underlying3 w1) (trodAll_cons_mk (shut_int Try.underlying3 w2) trodAll_mk0))), rfl, bel.frame _, fun h => by cases h⟩

theorem over : Rows.statusRecordRow.holds Try.pinned (OpenSpec.ofChange Rows.statusRecordSpec) :=
  OpenClaim.holds_of_wide 6 Try.f6 rfl rfl rfl rfl rfl rfl rfl ⟨rfl, rfl, rfl, rfl, rfl⟩ rfl rfl rfl rfl rfl (by kernel_rfl) Try.func6 (by kernel_rfl)
    (of_decide_eq_true (by kernel_rfl)) (by unfold Func.isWrapper; first | (rw [if_pos (by decide +kernel)]; kernel_rfl) | (rw [if_neg (by decide +kernel)]; exact ⟨rfl, rfl⟩))
    (fun os started H enc _ => lifted os started H enc)

theorem proved : Rows.StatusRecordSaid :=
  over
#print axioms proved
end Go.Proofs.Ythdnpgkoanfijaa.statusRecord
