/- Whatever the two numbers: the law ControlForms returns true (a flash that is none, devices that may not be are refused), and the arguments read as they did; the variable 'skiff/table.allowed' reads as the program's text lays it (a tied card). -/
import Derived.Test.YtmlfkbkpkgaefaaDoorRows
import Derived.Test.YtmlfkbkpkgaefaaDoorBagNor
import Derived.Test.YtmlfkbkpkgaefaaDoorWhich
import Derived.Test.YtmlfkbkpkgaefaaDoorBagDev
import Derived.Test.YtmlfkbkpkgaefaaDoorBagDnl
import Derived.Test.YtmlfkbkpkgaefaaDoorBagTab
import Derived.Test.YtmlfkbkpkgaefaaDoorBagCtl
import Derived.Test.YtmlfkbkpkgaefaaDoorCtlAwake
import Derived.Deep.Cut
import Derived.WalkKit
import Derived.ProofKit
import Derived.OpenShut
import Derived.ShutString
import Derived.ChangeOld
import Derived.Below
import Derived.Test.YtmlfkbkpkgaefaaDoorCards
import Derived.Test.YtmlfkbkpkgaefaaDoorTie
import Derived.LaidMore
import Derived.Handed
import Derived.LaidLaws
namespace Go.Proofs.YtmlfkbkpkgaefaaDoor.controlForms
open Go.ChangeShapes Go.WideShapes Go.ChangeAt Go.RowKit
open Go.ChangeMaps (open_string shut_string)
set_option linter.unusedVariables false

open Go.Proofs.YtmlfkbkpkgaefaaDoor.Bytes
open Go.Proofs.YtmlfkbkpkgaefaaDoor.Jou
open Go.Proofs.YtmlfkbkpkgaefaaDoor.Dev
open Go.Proofs.YtmlfkbkpkgaefaaDoor.DevRow
open Go.Proofs.YtmlfkbkpkgaefaaDoor.DevHelp
open Go.Proofs.YtmlfkbkpkgaefaaDoor.DevAwake
open Go.Proofs.YtmlfkbkpkgaefaaDoor.Dnl
open Go.Proofs.YtmlfkbkpkgaefaaDoor.Tic
open Go.Proofs.YtmlfkbkpkgaefaaDoor.Sup
open Go.Proofs.YtmlfkbkpkgaefaaDoor.TabLaid
open Go.Proofs.YtmlfkbkpkgaefaaDoor.Ctl
open Go.Proofs.YtmlfkbkpkgaefaaDoor.CtlAwake
theorem own : ownKnob Tryd.prog.godebug = none := by kernel_rfl
theorem laidOut : laidOutB Tryd.prog = true := by kernel_rfl
theorem door_met (os : Os) (args : Array Value) : laidMetH Tryd.prog Rows.controlFormsRow.laid ((World.doorLaid Tryd.prog 22 os).forCall (fun _ _ => 0) ⟨#[], args, []⟩).memory :=
  laidMetH_of_parts3 (fuel := 8) (laidMet_of_run' 8 (by kernel_rfl) (by kernel_rfl)) (by kernel_rfl) (by kernel_rfl)

theorem no_both {f : ByteArray} {d : FDev} (h : ¬ (f.size = 768 ∧ d.su ≤ 6 ∧ 0 ≤ d.gt ∧ d.sl ≤ 1)) : bothB f d = false := by
  cases hc : bothB f d with
  | false => rfl
  | true =>
    obtain ⟨h1, h2⟩ := both_parts.1 hc
    obtain ⟨_, ⟨g0, _⟩, ⟨_, s1⟩, _⟩ := dev_parts h2
    have h3 : d.su ≤ 6 := by
      unfold devB at h2
      simp only [Bool.and_eq_true] at h2
      exact (Ans.stB_parts.1 h2.1.1.1.1.2).2
    exact absurd ⟨may_size h1, h3, g0, s1⟩ h
theorem no_hand {f s : ByteArray} {sa su nx gt sl : Int} (w : World) (hT : TabAt w) (h : ¬ (f.size = 768 ∧ su ≤ 6 ∧ 0 ≤ gt ∧ sl ≤ 1)) : Calls Tryd.prog 7 #[.string f, .agg #[.int .i64 sa, .int .i64 su, .int .i64 nx, .int .i64 gt, .int .i64 sl, .slice none 0 0], .string s, .string ⟨#[]⟩] w fun r w' => ∃ a c, r = .returned (.tuple #[.agg #[.int .i64 0, .int .i64 0, .int .i64 0, .int .i64 0, .int .i64 0, .slice a 0 c], .agg #[.bool false, .bool false, .string ⟨#[]⟩], .int .i64 2100]) ∧ IsSt w' (.slice a 0 c) [] ∧ Below w.heap.size w w' :=
  none_handed (d := ⟨sa, su, nx, gt, sl, []⟩) s ⟨#[]⟩ (no_both h) _ w (isSt_nil w) hT
theorem s0 : supB 5 0 0 = true := by decide
set_option maxRecDepth 100000 in
set_option maxHeartbeats 4000000 in
theorem walk (a0 : Int) (a1 : Int) (w0 : (Lit.int .i64 a0).wf = true) (w1 : (Lit.int .i64 a1).wf = true) (w : World) (hL : laidMetH Tryd.prog Rows.controlFormsRow.laid w) :
    Calls Tryd.prog 3 #[.int .i64 a0, .int .i64 a1] w fun e w' => e = .returned (.bool true) ∧ Below w.heap.size w w' := by
  have HT := hide (tab_of_laid hL (by kernel_rfl) (List.mem_singleton.2 rfl))
  have hB : Below w.heap.size w w := Below.refl _ _
  obtain ⟨d, hd, md⟩ : ∃ k : Nat, k ≤ 1023 ∧ bits .and .i64 a1 1023 = (k : Int) := mask_i64 a1 1023 (by omega)
  obtain ⟨m, hm, m1, m2, m3⟩ := Which.which4 a0
  clear m1 m2 hL
  have C1 := hide (fun w => NorRef.refBlank_any w)
  have P5 := hide (fun w => set_put s0 w)
  have br := DevWalk.build_d0
  have b2 := CtlWalk.build_p0
  have b5 := SetWalk.build_c
  have z1 : Hid (Nor.blankS.size = 768) := Nor.size_blankS
  generalize Nor.blankS = F at *
  generalize supS 5 0 0 = S at *
  have C5 := hide fun v w' h => sameDev_yes ⟨0, 0, 0, 0, 0, []⟩ v (.slice none 0 0) w' h (isSt_nil w')
  dsimp only at C5
  obtain rfl | rfl | rfl | rfl : m = 0 ∨ m = 1 ∨ m = 2 ∨ m = 3 := by omega
  all_goals
    clear hm
    go_enter Tryd.func3, Tryd.ntmps3
    go_wp2_with (first | (go_at_call 4; refine (CtlAwake.awake_any _ HT.out).mono ?_; rintro e u1 ⟨rfl, hb⟩; replace hB := thenB hB hb; clear hb) | (go_at_call 5; refine (C1.out _).mono ?_; rintro e u2 ⟨rfl, hb⟩; replace hB := thenB hB hb; clear hb) | (go_at_call 6; refine (P5.out _).mono ?_; rintro e u3 ⟨rfl, hb⟩; replace hB := thenB (thenB hB (hal _ _)) hb; have hX := resB (resM _ _ _ _ _ _ _ _) hb; clear hb))
    refine (no_hand _ (HT.out.below hB) ?_).mono ?_
    · have h1 := z1.out
      clear z1 C1 C5 P5 hB
      rintro ⟨p1, p2, p3, p4⟩
      first | omega | exact absurd p1 (by decide)
    rintro e u4 ⟨sa, sc, rfl, hI, hb⟩
    replace hB := thenB hB hb
    obtain ⟨hQ, hQr, hn⟩ := dev_reply u4 (.int .i64 0) (.int .i64 0) (.int .i64 0) (.int .i64 0) (.int .i64 0) (.slice sa 0 sc) (.bool false) (.bool false) (.string ⟨#[]⟩)
    replace hB := thenB hB hn
    replace hI := hI.below hn
    clear hn hb
    go_upto_region 15 with fail
    generalize (u4.alloc _).alloc _ = W2 at *
    generalize u4.heap.size = G2 at *
    go_wp2_with fail
    refine (C5.out _ _ hI).mono ?_; rintro e u5 ⟨rfl, hb⟩; replace hB := thenB hB hb; replace hQr := SetWalk.resB hQr hb; clear hb
    go_wp2_with (go_at_call 9; refine (num_any _ _).mono ?_; rintro e w' ⟨rfl, rfl⟩)
    go_ret
    exact ⟨rfl, hB⟩

set_option maxRecDepth 100000 in
theorem lifted (os : Os) (started : os.Started) (H : Type) (enc : TypeId × Value → H) :
    ReturnsInHanded {} Tryd.checked os 3 .any (fun w args => (Rows.controlFormsSpec.pre enc Tryd.prog Tryd.f3 Rows.controlFormsRow.domain false w args ∧ laidMetH Tryd.prog Rows.controlFormsRow.laid w) ∧ sizedMet enc Tryd.prog Tryd.f3 (OpenSpec.ofChange Rows.controlFormsSpec) false w args) (Rows.controlFormsSpec.post enc Tryd.prog Tryd.f3 false true false false) := by
  refine returnsInHanded_of_change_and (C := Tryd.checked) (X := fun w _ => laidMetH Tryd.prog Rows.controlFormsRow.laid w) (fun _ _ _ hh h => h.of_heap hh) own started (by kernel_rfl) Tryd.func3
    (ChangeSpec.witness_shaped (enc := enc) (C := Tryd.checked) (os := os) (X := fun w _ => laidMetH Tryd.prog Rows.controlFormsRow.laid w) false (World.doorLaid Tryd.prog 22 os) #[.int .i64 0, .int .i64 0] 8 rfl (World.shaped_of_RefB (by kernel_rfl) (by kernel_rfl)) (by kernel_rfl) (by kernel_rfl) (by kernel_rfl) (door_met os _)) ?_
  intro W base args ds gs before hval0 hW hcnd hsz0 hL _
  have hval : ∀ (j : Nat) t v, Tryd.f3.params[j]? = some t → args[j]? = some v → Value.okWide Tryd.prog W .any base t v := hval0
  have hW' := hW
  obtain ⟨p, q, hA0, hV, rfl, hfz, hnd⟩ := hW
  have hA : DataW.TrodAll enc Tryd.prog W 0 (fun _ => true) true Tryd.f3.params.toList args.toList ds p := hA0
  rw [Tryd.params3] at hA hval
  obtain ⟨v0, vs0, d0, ds0, p0, q0, hargs, rfl, rfl, h0, r0⟩ := trodAll_cons hA
  obtain ⟨v1, vs1, d1, ds1, p1, q1, rfl, rfl, rfl, h1, r1⟩ := trodAll_cons r0
  obtain ⟨rfl, rfl, rfl⟩ := trodAll_nil r1
  obtain rfl : args = #[v0, v1] := by cases args; simp_all
  obtain ⟨rfl, rfl⟩ := trodVars_none hV
  obtain ⟨a0, rfl, rfl, rfl, w0⟩ := open_int Tryd.underlying3 (hval 0 3 v0 rfl rfl) h0
  obtain ⟨a1, rfl, rfl, rfl, w1⟩ := open_int Tryd.underlying3 (hval 1 3 v1 rfl rfl) h1
  clear hA0 hval0
  refine (walk a0 a1 w0 w1 W hL).mono fun e W' ⟨he, bel⟩ => ?_
  subst he
  exact ⟨_, rfl, _, _, _, [], _, [], hW', (trodAll_cons_mk (shut_bool Tryd.underlying4 _) trodAll_mk0), (trodAll_cons_mk (shut_int Tryd.underlying3 w0) (trodAll_cons_mk (shut_int Tryd.underlying3 w1) trodAll_mk0)), rfl, bel.frame _, fun h => by cases h⟩

theorem over : Rows.controlFormsRow.holds Tryd.pinned (OpenSpec.ofChange Rows.controlFormsSpec) :=
  OpenClaim.holds_of_wide 3 Tryd.f3 rfl rfl rfl rfl rfl rfl rfl ⟨rfl, rfl, rfl, rfl, rfl⟩ rfl rfl rfl rfl rfl (by kernel_rfl) Tryd.func3 (by kernel_rfl)
    (of_decide_eq_true (by kernel_rfl)) (by unfold Func.isWrapper; first | (rw [if_pos (by decide +kernel)]; kernel_rfl) | (rw [if_neg (by decide +kernel)]; exact ⟨rfl, rfl⟩))
    (fun os started H enc _ => lifted os started H enc)

theorem plain (f : FuncId) (fn : Func) (hf : Tryd.pinned.checked.prog.funcNamed "skiff/skifflaw21.ControlForms" = some f) (hfn : Tryd.pinned.checked.prog.funcs[f]? = some fn) :
    false = Tryd.pinned.checked.prog.looks [] ∧ ∀ (j : Nat) t, fn.params[j]? = some t → Tryd.pinned.checked.prog.wantsStandIn t = false := by
  obtain rfl : f = 3 := Option.some.inj ((show Tryd.prog.funcNamed "skiff/skifflaw21.ControlForms" = some 3 by kernel_rfl).symm.trans hf) |>.symm
  obtain rfl : fn = Tryd.f3 := (Option.some.inj (Tryd.func3.symm.trans hfn)).symm
  refine ⟨by kernel_rfl, fun j t ht => ?_⟩
  rw [Tryd.params3] at ht
  rcases j with _ | _ | j
  · obtain rfl : 3 = t := by simpa using ht
    exact (show Tryd.prog.wantsStandIn 3 = false by kernel_rfl)
  · obtain rfl : 3 = t := by simpa using ht
    exact (show Tryd.prog.wantsStandIn 3 = false by kernel_rfl)
  · simp at ht
theorem proved : Rows.ControlFormsCardSaid :=
  Claim7.holds_tied_plain_at .later [] _ _ _ _ over (fun _ h => by cases h) (by kernel_rfl) (fun _ h => by cases h) controlForms_row_tie rfl ⟨rfl, rfl⟩ (by kernel_rfl) rfl plain (by kernel_rfl)
#print axioms proved
end Go.Proofs.YtmlfkbkpkgaefaaDoor.controlForms
