/- Whatever the two numbers: the law StatusForms returns true (flashes and devices that may not be are refused), and the arguments read as they did; no condition. -/
import Derived.Test.YthdnpgkoanfijaaRows
import Derived.Test.YthdnpgkoanfijaaBagNor
import Derived.Test.YthdnpgkoanfijaaBagDev
import Derived.Test.YthdnpgkoanfijaaTicRow
import Derived.Test.YthdnpgkoanfijaaTicSent
import Derived.Test.YthdnpgkoanfijaaStsMath
import Derived.Test.YthdnpgkoanfijaaStsGet
import Derived.Test.YthdnpgkoanfijaaStsAwake
import Derived.Test.YthdnpgkoanfijaaDnlAwake
import Derived.Deep.Cut
import Derived.ChangeOld
import Derived.Below
import Derived.WalkKit
import Derived.ProofKit
import Derived.OpenShut
import Derived.ShutString
namespace Go.Proofs.Ythdnpgkoanfijaa.statusForms
open Go.ChangeShapes Go.WideShapes Go.ChangeAt Go.RowKit
open Go.ChangeMaps (open_string shut_string)
set_option linter.unusedVariables false

open Go.Proofs.Ythdnpgkoanfijaa.Bytes
open Go.Proofs.Ythdnpgkoanfijaa.NorRef
open Go.Proofs.Ythdnpgkoanfijaa.Jou
open Go.Proofs.Ythdnpgkoanfijaa.Ans
open Go.Proofs.Ythdnpgkoanfijaa.Dev
open Go.Proofs.Ythdnpgkoanfijaa.DevRow
open Go.Proofs.Ythdnpgkoanfijaa.DevSet
open Go.Proofs.Ythdnpgkoanfijaa.DevHelp
open Go.Proofs.Ythdnpgkoanfijaa.DevAwake
open Go.Proofs.Ythdnpgkoanfijaa.Dnl
open Go.Proofs.Ythdnpgkoanfijaa.DnlAwake
open Go.Proofs.Ythdnpgkoanfijaa.Tic
open Go.Proofs.Ythdnpgkoanfijaa.TicRow
open Go.Proofs.Ythdnpgkoanfijaa.Sts
theorem own : ownKnob Try.prog.godebug = none := by kernel_rfl

theorem no_both {f : ByteArray} {d : FDev} (h : ¬ (f.size = 768 ∧ d.gt ≤ 288 ∧ 0 ≤ d.su ∧ 0 ≤ d.sl)) : bothB f d = false := by
  cases hc : bothB f d with
  | false => rfl
  | true =>
    obtain ⟨h1, h2⟩ := both_parts.1 hc
    obtain ⟨_, ⟨_, g1⟩, ⟨l0, _⟩, _⟩ := dev_parts h2
    have h3 : 0 ≤ d.su := by
      unfold devB stB at h2
      simp only [Bool.and_eq_true, decide_eq_true_iff] at h2
      omega
    exact absurd ⟨may_size h1, g1, h3, l0⟩ h
set_option maxRecDepth 100000 in
set_option maxHeartbeats 4000000 in
theorem walk (a0 : Int) (a1 : Int) (w0 : (Lit.int .i64 a0).wf = true) (w1 : (Lit.int .i64 a1).wf = true) (w : World) :
    Calls Try.prog 4 #[.int .i64 a0, .int .i64 a1] w fun e w' => e = .returned (.bool true) ∧ Below w.heap.size w w' := by
  have hB : Below w.heap.size w w := Below.refl _ _
  have br := DevWalk.build_d0
  have ba := AnsWalk.build_no
  obtain ⟨d, hd, md⟩ : ∃ k : Nat, k ≤ 1023 ∧ bits .and .i64 a1 1023 = (k : Int) := mask_i64 a1 1023 (by omega)
  obtain ⟨n, hn, mn⟩ : ∃ k : Nat, k ≤ 3 ∧ bits .and .i64 a0 3 = (k : Int) := mask_i64 a0 3 (by omega)
  obtain ⟨D, hD⟩ : ∃ D : Nat, D = 1 + d := ⟨_, rfl⟩
  have hD1 : (1 : Int) + (d : Int) = (D : Int) := by omega
  have hD2 : 1 ≤ D := by omega
  have hD3 : D ≤ 1024 := by omega
  clear hD hd
  have CB := hide (fun w => refBlank_any w)
  have z1 : Nor.blankS.size ≤ 768 := by rw [Nor.size_blankS]; omega
  have z2 : 768 ≤ Nor.blankS.size := by rw [Nor.size_blankS]; omega
  have z3 : (1 : Int) ≤ (Nor.blankS.size : Int) := by omega
  generalize Nor.blankS = F at *
  obtain rfl | rfl | rfl | rfl : n = 0 ∨ n = 1 ∨ n = 2 ∨ n = 3 := by omega
  · have C1 := hide fun v w' h => StsAwake.none_got (f := F.extract 1 F.size) (d := ⟨1, 0, 1, 32, 0, sentL⟩) (no_both (by show ¬ (_ ∧ _ ∧ _ ∧ _); rw [ByteArray.size_extract]; omega)) v w' h
    dsimp only at C1
    go_enter Try.func4, Try.ntmps4
    go_upto_region 4 with (go_at_call 14; refine (StsAwake.awake_any _).mono ?_; rintro e w' ⟨rfl, hb⟩; replace hB := thenB hB hb; clear hb)
    go_wp2_with (go_at_call 15; refine (CB.out _).mono ?_; rintro e w' ⟨rfl, hb⟩; replace hB := thenB hB hb; clear hb)
    refine (TicSent.sent19_any _).mono ?_; rintro e u4 ⟨a4, c4, rfl, hK, hb⟩; replace hB := thenB hB hb; clear hb
    have hD := resM u4 (.int .i64 1) (.int .i64 0) (.int .i64 1) (.int .i64 32) (.int .i64 0) (.slice a4 11 c4) 24
    have hP := hal u4 (.cells #[.int .i64 1, .int .i64 0, .int .i64 1, .int .i64 32, .int .i64 0, .slice a4 11 c4] 24)
    have hG : w.heap.size ≤ u4.heap.size := hB.size
    replace hB := thenB hB hP
    go_upto_region 5 with fail
    generalize u4.alloc _ = W4 at *
    generalize eG : u4.heap.size = G4 at *
    have HE := hide eG
    have HB := hide hB
    have HP := hide hP
    have HK := hide hK
    have HL := hide hG
    clear hB hP hK eG hG
    go_upto_region 13 with fail
    have hB := HB.out
    have hK := HK.out.below (by rw [HE.out]; exact HP.out)
    clear HB HP HK HE HL
    go_wp2_with fail
    refine (C1.out _ _ hK).mono ?_; rintro e u1 ⟨p1, q1, rfl, hS, hb⟩; replace hB := thenB hB hb; clear hb hD hK C1
    obtain ⟨hQ, hQx, hn, _⟩ := StsAwake.two_made u1 (.int .i64 0) (.int .i64 0) (.int .i64 0) (.int .i64 0) (.int .i64 0) (.slice p1 0 q1) (.int .i64 0) (.int .i64 0) (.int .i64 0)
    replace hB := thenB hB hn
    replace hS := hS.below hn
    clear hn
    go_upto_region 14 with fail
    generalize (u1.alloc _).alloc _ = W1 at *
    generalize u1.heap.size = G1 at *
    go_wp2_with fail
    refine (sameDev_yes ⟨0, 0, 0, 0, 0, []⟩ _ _ _ hS (isSt_nil _)).mono ?_; rintro e u3 ⟨rfl, hb⟩; replace hB := thenB hB hb; replace hQx := AnsWalk.resB hQx hb; clear hb
    go_wp2_with (go_at_call 12; refine (num_any _ _).mono ?_; rintro e w' ⟨rfl, rfl⟩)
    go_ret
    exact ⟨rfl, hB⟩
  · have C1 := hide fun v w' h => StsAwake.none_got (f := F) (d := ⟨1, 0, 1, 288 + (D : Int), 0, sentL⟩) (no_both (by show ¬ (_ ∧ _ ∧ _ ∧ _); dsimp only; omega)) v w' h
    dsimp only at C1
    go_enter Try.func4, Try.ntmps4
    go_upto_region 4 with (go_at_call 14; refine (StsAwake.awake_any _).mono ?_; rintro e w' ⟨rfl, hb⟩; replace hB := thenB hB hb; clear hb)
    go_wp2_with (go_at_call 15; refine (CB.out _).mono ?_; rintro e w' ⟨rfl, hb⟩; replace hB := thenB hB hb; clear hb)
    refine (TicSent.sent19_any _).mono ?_; rintro e u4 ⟨a4, c4, rfl, hK, hb⟩; replace hB := thenB hB hb; clear hb
    have hD := resM u4 (.int .i64 1) (.int .i64 0) (.int .i64 1) (.int .i64 32) (.int .i64 0) (.slice a4 11 c4) 24
    have hP := hal u4 (.cells #[.int .i64 1, .int .i64 0, .int .i64 1, .int .i64 32, .int .i64 0, .slice a4 11 c4] 24)
    have hG : w.heap.size ≤ u4.heap.size := hB.size
    replace hB := thenB hB hP
    go_upto_region 5 with fail
    generalize u4.alloc _ = W4 at *
    generalize eG : u4.heap.size = G4 at *
    have HE := hide eG
    have HB := hide hB
    have HP := hide hP
    have HK := hide hK
    have HL := hide hG
    clear hB hP hK eG hG
    go_upto_region 13 with fail
    replace hD := res3 hD (.int .i64 (288 + (D : Int)))
    have hB := HB.out.setCell (p := ⟨G4, 3, none⟩) HL.out (.int .i64 (288 + (D : Int)))
    have hP := HP.out.setCell (p := ⟨G4, 3, none⟩) (Nat.le_refl _) (.int .i64 (288 + (D : Int)))
    clear HB HP
    generalize W4.setCell _ _ = W5 at *
    have hK := HK.out.below (by rw [HE.out]; exact hP)
    clear hP HK HE HL
    go_wp2_with fail
    refine (C1.out _ _ hK).mono ?_; rintro e u1 ⟨p1, q1, rfl, hS, hb⟩; replace hB := thenB hB hb; clear hb hD hK C1
    obtain ⟨hQ, hQx, hn, _⟩ := StsAwake.two_made u1 (.int .i64 0) (.int .i64 0) (.int .i64 0) (.int .i64 0) (.int .i64 0) (.slice p1 0 q1) (.int .i64 0) (.int .i64 0) (.int .i64 0)
    replace hB := thenB hB hn
    replace hS := hS.below hn
    clear hn
    go_upto_region 14 with fail
    generalize (u1.alloc _).alloc _ = W1 at *
    generalize u1.heap.size = G1 at *
    go_wp2_with fail
    refine (sameDev_yes ⟨0, 0, 0, 0, 0, []⟩ _ _ _ hS (isSt_nil _)).mono ?_; rintro e u3 ⟨rfl, hb⟩; replace hB := thenB hB hb; replace hQx := AnsWalk.resB hQx hb; clear hb
    go_wp2_with (go_at_call 12; refine (num_any _ _).mono ?_; rintro e w' ⟨rfl, rfl⟩)
    go_ret
    exact ⟨rfl, hB⟩
  · have C1 := hide fun v w' h => StsAwake.none_got (f := F) (d := ⟨1, -(D : Int), 1, 32, 0, sentL⟩) (no_both (by show ¬ (_ ∧ _ ∧ _ ∧ _); dsimp only; omega)) v w' h
    dsimp only at C1
    go_enter Try.func4, Try.ntmps4
    go_upto_region 4 with (go_at_call 14; refine (StsAwake.awake_any _).mono ?_; rintro e w' ⟨rfl, hb⟩; replace hB := thenB hB hb; clear hb)
    go_wp2_with (go_at_call 15; refine (CB.out _).mono ?_; rintro e w' ⟨rfl, hb⟩; replace hB := thenB hB hb; clear hb)
    refine (TicSent.sent19_any _).mono ?_; rintro e u4 ⟨a4, c4, rfl, hK, hb⟩; replace hB := thenB hB hb; clear hb
    have hD := resM u4 (.int .i64 1) (.int .i64 0) (.int .i64 1) (.int .i64 32) (.int .i64 0) (.slice a4 11 c4) 24
    have hP := hal u4 (.cells #[.int .i64 1, .int .i64 0, .int .i64 1, .int .i64 32, .int .i64 0, .slice a4 11 c4] 24)
    have hG : w.heap.size ≤ u4.heap.size := hB.size
    replace hB := thenB hB hP
    go_upto_region 5 with fail
    generalize u4.alloc _ = W4 at *
    generalize eG : u4.heap.size = G4 at *
    have HE := hide eG
    have HB := hide hB
    have HP := hide hP
    have HK := hide hK
    have HL := hide hG
    clear hB hP hK eG hG
    go_upto_region 13 with fail
    replace hD := res1 hD (.int .i64 (-(D : Int)))
    have hB := HB.out.setCell (p := ⟨G4, 1, none⟩) HL.out (.int .i64 (-(D : Int)))
    have hP := HP.out.setCell (p := ⟨G4, 1, none⟩) (Nat.le_refl _) (.int .i64 (-(D : Int)))
    clear HB HP
    generalize W4.setCell _ _ = W5 at *
    have hK := HK.out.below (by rw [HE.out]; exact hP)
    clear hP HK HE HL
    go_wp2_with fail
    refine (C1.out _ _ hK).mono ?_; rintro e u1 ⟨p1, q1, rfl, hS, hb⟩; replace hB := thenB hB hb; clear hb hD hK C1
    obtain ⟨hQ, hQx, hn, _⟩ := StsAwake.two_made u1 (.int .i64 0) (.int .i64 0) (.int .i64 0) (.int .i64 0) (.int .i64 0) (.slice p1 0 q1) (.int .i64 0) (.int .i64 0) (.int .i64 0)
    replace hB := thenB hB hn
    replace hS := hS.below hn
    clear hn
    go_upto_region 14 with fail
    generalize (u1.alloc _).alloc _ = W1 at *
    generalize u1.heap.size = G1 at *
    go_wp2_with fail
    refine (sameDev_yes ⟨0, 0, 0, 0, 0, []⟩ _ _ _ hS (isSt_nil _)).mono ?_; rintro e u3 ⟨rfl, hb⟩; replace hB := thenB hB hb; replace hQx := AnsWalk.resB hQx hb; clear hb
    go_wp2_with (go_at_call 12; refine (num_any _ _).mono ?_; rintro e w' ⟨rfl, rfl⟩)
    go_ret
    exact ⟨rfl, hB⟩
  · have C1 := hide fun v w' h => StsAwake.none_got (f := F) (d := ⟨1, 0, 1, 32, -(D : Int), sentL⟩) (no_both (by show ¬ (_ ∧ _ ∧ _ ∧ _); dsimp only; omega)) v w' h
    dsimp only at C1
    go_enter Try.func4, Try.ntmps4
    go_upto_region 4 with (go_at_call 14; refine (StsAwake.awake_any _).mono ?_; rintro e w' ⟨rfl, hb⟩; replace hB := thenB hB hb; clear hb)
    go_wp2_with (go_at_call 15; refine (CB.out _).mono ?_; rintro e w' ⟨rfl, hb⟩; replace hB := thenB hB hb; clear hb)
    refine (TicSent.sent19_any _).mono ?_; rintro e u4 ⟨a4, c4, rfl, hK, hb⟩; replace hB := thenB hB hb; clear hb
    have hD := resM u4 (.int .i64 1) (.int .i64 0) (.int .i64 1) (.int .i64 32) (.int .i64 0) (.slice a4 11 c4) 24
    have hP := hal u4 (.cells #[.int .i64 1, .int .i64 0, .int .i64 1, .int .i64 32, .int .i64 0, .slice a4 11 c4] 24)
    have hG : w.heap.size ≤ u4.heap.size := hB.size
    replace hB := thenB hB hP
    go_upto_region 5 with fail
    generalize u4.alloc _ = W4 at *
    generalize eG : u4.heap.size = G4 at *
    have HE := hide eG
    have HB := hide hB
    have HP := hide hP
    have HK := hide hK
    have HL := hide hG
    clear hB hP hK eG hG
    go_upto_region 13 with fail
    replace hD := res4 hD (.int .i64 (-(D : Int)))
    have hB := HB.out.setCell (p := ⟨G4, 4, none⟩) HL.out (.int .i64 (-(D : Int)))
    have hP := HP.out.setCell (p := ⟨G4, 4, none⟩) (Nat.le_refl _) (.int .i64 (-(D : Int)))
    clear HB HP
    generalize W4.setCell _ _ = W5 at *
    have hK := HK.out.below (by rw [HE.out]; exact hP)
    clear hP HK HE HL
    go_wp2_with fail
    refine (C1.out _ _ hK).mono ?_; rintro e u1 ⟨p1, q1, rfl, hS, hb⟩; replace hB := thenB hB hb; clear hb hD hK C1
    obtain ⟨hQ, hQx, hn, _⟩ := StsAwake.two_made u1 (.int .i64 0) (.int .i64 0) (.int .i64 0) (.int .i64 0) (.int .i64 0) (.slice p1 0 q1) (.int .i64 0) (.int .i64 0) (.int .i64 0)
    replace hB := thenB hB hn
    replace hS := hS.below hn
    clear hn
    go_upto_region 14 with fail
    generalize (u1.alloc _).alloc _ = W1 at *
    generalize u1.heap.size = G1 at *
    go_wp2_with fail
    refine (sameDev_yes ⟨0, 0, 0, 0, 0, []⟩ _ _ _ hS (isSt_nil _)).mono ?_; rintro e u3 ⟨rfl, hb⟩; replace hB := thenB hB hb; replace hQx := AnsWalk.resB hQx hb; clear hb
    go_wp2_with (go_at_call 12; refine (num_any _ _).mono ?_; rintro e w' ⟨rfl, rfl⟩)
    go_ret
    exact ⟨rfl, hB⟩

set_option maxRecDepth 100000 in
theorem lifted (os : Os) (started : os.Started) (H : Type) (enc : TypeId × Value → H) :
    ReturnsInHanded {} Try.checked os 4 .any (Rows.statusFormsSpec.pre6 enc Try.prog Try.f4 Rows.statusFormsRow.domain false) (Rows.statusFormsSpec.post enc Try.prog Try.f4 false true false false) := by
  refine returnsInHanded_of_change (C := Try.checked) own started (by kernel_rfl) Try.func4
    (ChangeSpec.witness6 (enc := enc) (C := Try.checked) false ⟨#[], #[.int .i64 0, .int .i64 0], []⟩ 8 (by kernel_rfl) (by kernel_rfl) (by kernel_rfl) (by kernel_rfl)) ?_
  intro W base args ds gs before hval0 hW hcnd _
  have hval : ∀ (j : Nat) t v, Try.f4.params[j]? = some t → args[j]? = some v → Value.okWide Try.prog W .any base t v := hval0
  have hW' := hW
  obtain ⟨p, q, hA0, hV, rfl, hfz, hnd⟩ := hW
  have hA : DataW.TrodAll enc Try.prog W 0 (fun _ => true) true Try.f4.params.toList args.toList ds p := hA0
  rw [Try.params4] at hA hval
  obtain ⟨v0, vs0, d0, ds0, p0, q0, hargs, rfl, rfl, h0, r0⟩ := trodAll_cons hA
  obtain ⟨v1, vs1, d1, ds1, p1, q1, rfl, rfl, rfl, h1, r1⟩ := trodAll_cons r0
  obtain ⟨rfl, rfl, rfl⟩ := trodAll_nil r1
  obtain rfl : args = #[v0, v1] := by cases args; simp_all
  obtain ⟨rfl, rfl⟩ := trodVars_none hV
  obtain ⟨a0, rfl, rfl, rfl, w0⟩ := open_int Try.underlying3 (hval 0 3 v0 rfl rfl) h0
  obtain ⟨a1, rfl, rfl, rfl, w1⟩ := open_int Try.underlying3 (hval 1 3 v1 rfl rfl) h1
  clear hA0 hval0
  refine (walk a0 a1 w0 w1 W).mono fun e W' ⟨he, bel⟩ => ?_
  subst he
  exact ⟨_, rfl, _, _, _, [], _, [], hW', (trodAll_cons_mk (shut_bool Try.underlying4 _) trodAll_mk0), (trodAll_cons_mk (shut_int Try.underlying3 w0) (trodAll_cons_mk (shut_int Try.underlying3 w1) trodAll_mk0)), rfl, bel.frame _, fun h => by cases h⟩

theorem over : Rows.statusFormsRow.holds Try.pinned (OpenSpec.ofChange Rows.statusFormsSpec) :=
  OpenClaim.holds_of_wide 4 Try.f4 rfl rfl rfl rfl rfl rfl rfl ⟨rfl, rfl, rfl, rfl, rfl⟩ rfl rfl rfl rfl rfl (by kernel_rfl) Try.func4 (by kernel_rfl)
    (of_decide_eq_true (by kernel_rfl)) (by unfold Func.isWrapper; first | (rw [if_pos (by decide +kernel)]; kernel_rfl) | (rw [if_neg (by decide +kernel)]; exact ⟨rfl, rfl⟩))
    (fun os started H enc _ => lifted os started H enc)

theorem proved : Rows.StatusFormsSaid :=
  over
#print axioms proved
end Go.Proofs.Ythdnpgkoanfijaa.statusForms
