/- Whatever the number: the law TableWays returns true (in each state the state may be asked, and some way leads on), and the argument reads as it did; the variable 'skiff/table.allowed' reads as the program's text lays it (a tied card). -/
import Derived.Test.YtnlhjpkhhkfijaaDoorRows
import Derived.Test.YtnlhjpkhhkfijaaDoorNorMath
import Derived.Test.YtnlhjpkhhkfijaaDoorBytes
import Derived.Test.YtnlhjpkhhkfijaaDoorNorWalk
import Derived.Test.YtnlhjpkhhkfijaaDoorOpsMath
import Derived.Test.YtnlhjpkhhkfijaaDoorOpsRow
import Derived.Test.YtnlhjpkhhkfijaaDoorCrcMath
import Derived.Test.YtnlhjpkhhkfijaaDoorEntMath
import Derived.Test.YtnlhjpkhhkfijaaDoorEntRow
import Derived.Test.YtnlhjpkhhkfijaaDoorEntLow
import Derived.Test.YtnlhjpkhhkfijaaDoorEntWalk
import Derived.Test.YtnlhjpkhhkfijaaDoorSufMath
import Derived.Test.YtnlhjpkhhkfijaaDoorSetMath
import Derived.Test.YtnlhjpkhhkfijaaDoorSetWalk
import Derived.Test.YtnlhjpkhhkfijaaDoorAnsMath
import Derived.Test.YtnlhjpkhhkfijaaDoorAnsWalk
import Derived.Test.YtnlhjpkhhkfijaaDoorTabMath
import Derived.Test.YtnlhjpkhhkfijaaDoorTabLaid
import Derived.Test.YtnlhjpkhhkfijaaDoorTabWalk
import Derived.Test.YtnlhjpkhhkfijaaDoorTabAwake
import Derived.WalkKit
import Derived.ProofKit
import Derived.OpenShut
import Derived.ShutString
import Derived.ChangeOld
import Derived.Below
import Derived.Test.YtnlhjpkhhkfijaaDoorCards
import Derived.Test.YtnlhjpkhhkfijaaDoorTie
import Derived.LaidMore
import Derived.Handed
import Derived.LaidLaws
namespace Go.Proofs.YtnlhjpkhhkfijaaDoor.tableWays
open Go.ChangeShapes Go.WideShapes Go.ChangeAt Go.RowKit
open Go.ChangeMaps (open_string shut_string)
set_option linter.unusedVariables false

open Go.Proofs.YtnlhjpkhhkfijaaDoor.Bytes
open Go.Proofs.YtnlhjpkhhkfijaaDoor.Tab
open Go.Proofs.YtnlhjpkhhkfijaaDoor.TabLaid
open Go.Proofs.YtnlhjpkhhkfijaaDoor.TabWalk
open Go.Proofs.YtnlhjpkhhkfijaaDoor.TabAwake
theorem own : ownKnob Tryd.prog.godebug = none := by kernel_rfl
theorem laidOut : laidOutB Tryd.prog = true := by kernel_rfl
theorem door_met (os : Os) (args : Array Value) : laidMetH Tryd.prog Rows.tableWaysRow.laid ((World.doorLaid Tryd.prog 22 os).forCall (fun _ _ => 0) ⟨#[], args, []⟩).memory :=
  laidMetH_of_parts3 (fuel := 8) (laidMet_of_run' 8 (by kernel_rfl) (by kernel_rfl)) (by kernel_rfl) (by kernel_rfl)

/-- How many of the first requests may be asked. -/
def waysTo (s : Int) : Nat → Nat
  | 0 => 0
  | n + 1 => waysTo s n + (if tabB s (n : Int) = true then 1 else 0)
theorem ways_t {s : Int} {n : Nat} (h : tabB s (n : Int) = true) : waysTo s (n + 1) = waysTo s n + 1 := by rw [waysTo, if_pos h]
theorem ways_f {s : Int} {n : Nat} (h : tabB s (n : Int) = false) : waysTo s (n + 1) = waysTo s n := by rw [waysTo, h]; rfl
theorem ways_le (s : Int) (n : Nat) : waysTo s n ≤ n := by
  induction n with
  | zero => exact Nat.le_refl 0
  | succ n ih => rw [waysTo]; split <;> omega
theorem tok_in (m n : Nat) (hm : m ≤ 7) (hn : n < 7) : tokB (m : Int) (n : Int) = true := tok_parts.2 (by omega)
theorem tab_35 (m n : Nat) (hm : m ≤ 7) (h : n = 3 ∨ n = 5) : tabB (m : Int) (n : Int) = true := by
  unfold tabB
  rw [tok_in m n hm (by omega)]
  rcases h with rfl | rfl <;> rfl
theorem tab_0 (m : Nat) : tabB (m : Int) ((0 : Nat) : Int) = false := by
  unfold tabB
  have : liB (m : Int) ((0 : Nat) : Int) = false := by simp [liB, inTo, tabL]
  rw [this]
  simp [alB]
set_option maxRecDepth 100000 in
set_option maxHeartbeats 4000000 in
theorem walk (a0 : Int) (w0 : (Lit.int .i64 a0).wf = true) (w : World) (hL : laidMetH Tryd.prog Rows.tableWaysRow.laid w) :
    Calls Tryd.prog 5 #[.int .i64 a0] w fun e w' => e = .returned (.bool true) ∧ Below w.heap.size w w' := by
  have HT := hide (tab_of_laid hL (by kernel_rfl) (List.mem_singleton.2 rfl))
  have hB := Below.refl w.heap.size w
  obtain ⟨m, hm, mm⟩ : ∃ k : Nat, k ≤ 7 ∧ bits .and .i64 a0 7 = (k : Int) := mask_i64 a0 7 (by omega)
  clear hL
  go_enter Tryd.func5, Tryd.ntmps5
  go_upto_region 6 with (go_at_call 9; refine (awake_any _ HT.out).mono ?_; rintro e u1 ⟨rfl, hb⟩; replace hB := thenB hB hb; clear hb)
  clear mm
  go_loopw [4, 5] (fun x y wr => ∃ n : Nat, n ≤ 7 ∧ x = .int .i64 (waysTo (m : Int) n : Int) ∧ y = .int .i64 (n : Int) ∧ Below w.heap.size w wr) (fun _ y _ => 7 - (intOf y).toNat)
  case atStart => exact ⟨0, by omega, rfl, rfl, hB⟩
  case round =>
    clear hB
    obtain ⟨n, hn, rfl, rfl, hB⟩ := hrel
    by_cases hlt : n < 7
    · have HA := hide fun w h => allowed_any (m : Int) (n : Int) w h
      rw [tok_in m n hm hlt, errT_t] at HA
      have HM := hide hm
      obtain ⟨K, HK⟩ : ∃ K : Nat, Hid (waysTo (m : Int) n = K) := ⟨_, rfl⟩
      rw [HK.out]
      have hK : K ≤ 7 := by have := ways_le (m : Int) n; rw [HK.out] at this; omega
      clear hn hm
      rcases (by omega : n = 0 ∨ n = 1 ∨ n = 2 ∨ n = 3 ∨ n = 4 ∨ n = 5 ∨ n = 6) with rfl | rfl | rfl | rfl | rfl | rfl | rfl
      · rw [tab_0] at HA
        have HS := hide (ways_f (tab_0 m))
        clear hlt
        go_wp2_with (first | (go_at_call 6; refine (HA.out _ (HT.out.below hB)).mono ?_; rintro e u3 ⟨rfl, hb⟩; replace hB := thenB hB hb; clear hb) | (go_at_call 8; refine (num_any _ _).mono ?_; rintro e u4 ⟨rfl, rfl⟩))
        exact ⟨⟨0 + 1, by omega, by rw [HS.out, HK.out], by go_num, hB⟩, by simp [intOf]⟩
      · cases hA : tabB (m : Int) ((1 : Nat) : Int) with
        | false =>
          have HS := hide (ways_f hA)
          rw [hA] at HA
          clear hlt hA
          go_wp2_with (first | (go_at_call 6; refine (HA.out _ (HT.out.below hB)).mono ?_; rintro e u3 ⟨rfl, hb⟩; replace hB := thenB hB hb; clear hb) | (go_at_call 8; refine (num_any _ _).mono ?_; rintro e u4 ⟨rfl, rfl⟩))
          exact ⟨⟨1 + 1, by omega, by rw [HS.out, HK.out], by go_num, hB⟩, by simp [intOf]⟩
        | true =>
          have HS := hide (ways_t hA)
          rw [hA] at HA
          clear hlt hA
          go_wp2_with (first | (go_at_call 6; refine (HA.out _ (HT.out.below hB)).mono ?_; rintro e u3 ⟨rfl, hb⟩; replace hB := thenB hB hb; clear hb) | (go_at_call 8; refine (num_any _ _).mono ?_; rintro e u4 ⟨rfl, rfl⟩))
          exact ⟨⟨1 + 1, by omega, by rw [HS.out, HK.out]; go_num, by go_num, hB⟩, by simp [intOf]⟩
      · cases hA : tabB (m : Int) ((2 : Nat) : Int) with
        | false =>
          have HS := hide (ways_f hA)
          rw [hA] at HA
          clear hlt hA
          go_wp2_with (first | (go_at_call 6; refine (HA.out _ (HT.out.below hB)).mono ?_; rintro e u3 ⟨rfl, hb⟩; replace hB := thenB hB hb; clear hb) | (go_at_call 8; refine (num_any _ _).mono ?_; rintro e u4 ⟨rfl, rfl⟩))
          exact ⟨⟨2 + 1, by omega, by rw [HS.out, HK.out], by go_num, hB⟩, by simp [intOf]⟩
        | true =>
          have HS := hide (ways_t hA)
          rw [hA] at HA
          clear hlt hA
          go_wp2_with (first | (go_at_call 6; refine (HA.out _ (HT.out.below hB)).mono ?_; rintro e u3 ⟨rfl, hb⟩; replace hB := thenB hB hb; clear hb) | (go_at_call 8; refine (num_any _ _).mono ?_; rintro e u4 ⟨rfl, rfl⟩))
          exact ⟨⟨2 + 1, by omega, by rw [HS.out, HK.out]; go_num, by go_num, hB⟩, by simp [intOf]⟩
      · have HS := hide (ways_t (tab_35 m 3 HM.out (by omega)))
        rw [tab_35 m 3 HM.out (by omega)] at HA
        clear hlt
        go_wp2_with (first | (go_at_call 6; refine (HA.out _ (HT.out.below hB)).mono ?_; rintro e u3 ⟨rfl, hb⟩; replace hB := thenB hB hb; clear hb) | (go_at_call 8; refine (num_any _ _).mono ?_; rintro e u4 ⟨rfl, rfl⟩))
        exact ⟨⟨3 + 1, by omega, by rw [HS.out, HK.out]; go_num, by go_num, hB⟩, by simp [intOf]⟩
      · cases hA : tabB (m : Int) ((4 : Nat) : Int) with
        | false =>
          have HS := hide (ways_f hA)
          rw [hA] at HA
          clear hlt hA
          go_wp2_with (first | (go_at_call 6; refine (HA.out _ (HT.out.below hB)).mono ?_; rintro e u3 ⟨rfl, hb⟩; replace hB := thenB hB hb; clear hb) | (go_at_call 8; refine (num_any _ _).mono ?_; rintro e u4 ⟨rfl, rfl⟩))
          exact ⟨⟨4 + 1, by omega, by rw [HS.out, HK.out], by go_num, hB⟩, by simp [intOf]⟩
        | true =>
          have HS := hide (ways_t hA)
          rw [hA] at HA
          clear hlt hA
          go_wp2_with (first | (go_at_call 6; refine (HA.out _ (HT.out.below hB)).mono ?_; rintro e u3 ⟨rfl, hb⟩; replace hB := thenB hB hb; clear hb) | (go_at_call 8; refine (num_any _ _).mono ?_; rintro e u4 ⟨rfl, rfl⟩))
          exact ⟨⟨4 + 1, by omega, by rw [HS.out, HK.out]; go_num, by go_num, hB⟩, by simp [intOf]⟩
      · have HS := hide (ways_t (tab_35 m 5 HM.out (by omega)))
        rw [tab_35 m 5 HM.out (by omega)] at HA
        clear hlt
        go_wp2_with (first | (go_at_call 6; refine (HA.out _ (HT.out.below hB)).mono ?_; rintro e u3 ⟨rfl, hb⟩; replace hB := thenB hB hb; clear hb) | (go_at_call 8; refine (num_any _ _).mono ?_; rintro e u4 ⟨rfl, rfl⟩))
        exact ⟨⟨5 + 1, by omega, by rw [HS.out, HK.out]; go_num, by go_num, hB⟩, by simp [intOf]⟩
      · cases hA : tabB (m : Int) ((6 : Nat) : Int) with
        | false =>
          have HS := hide (ways_f hA)
          rw [hA] at HA
          clear hlt hA
          go_wp2_with (first | (go_at_call 6; refine (HA.out _ (HT.out.below hB)).mono ?_; rintro e u3 ⟨rfl, hb⟩; replace hB := thenB hB hb; clear hb) | (go_at_call 8; refine (num_any _ _).mono ?_; rintro e u4 ⟨rfl, rfl⟩))
          exact ⟨⟨6 + 1, by omega, by rw [HS.out, HK.out], by go_num, hB⟩, by simp [intOf]⟩
        | true =>
          have HS := hide (ways_t hA)
          rw [hA] at HA
          clear hlt hA
          go_wp2_with (first | (go_at_call 6; refine (HA.out _ (HT.out.below hB)).mono ?_; rintro e u3 ⟨rfl, hb⟩; replace hB := thenB hB hb; clear hb) | (go_at_call 8; refine (num_any _ _).mono ?_; rintro e u4 ⟨rfl, rfl⟩))
          exact ⟨⟨6 + 1, by omega, by rw [HS.out, HK.out]; go_num, by go_num, hB⟩, by simp [intOf]⟩
    · obtain rfl : n = 7 := by omega
      clear hn hlt
      rcases (by omega : m = 0 ∨ m = 1 ∨ m = 2 ∨ m = 3 ∨ m = 4 ∨ m = 5 ∨ m = 6 ∨ m = 7) with rfl | rfl | rfl | rfl | rfl | rfl | rfl | rfl
      · rw [show waysTo ((0 : Nat) : Int) 7 = 5 from by decide]
        go_wp2
        go_ret
        exact ⟨rfl, hB⟩
      · rw [show waysTo ((1 : Nat) : Int) 7 = 2 from by decide]
        go_wp2
        go_ret
        exact ⟨rfl, hB⟩
      · rw [show waysTo ((2 : Nat) : Int) 7 = 2 from by decide]
        go_wp2
        go_ret
        exact ⟨rfl, hB⟩
      · rw [show waysTo ((3 : Nat) : Int) 7 = 4 from by decide]
        go_wp2
        go_ret
        exact ⟨rfl, hB⟩
      · rw [show waysTo ((4 : Nat) : Int) 7 = 2 from by decide]
        go_wp2
        go_ret
        exact ⟨rfl, hB⟩
      · rw [show waysTo ((5 : Nat) : Int) 7 = 2 from by decide]
        go_wp2
        go_ret
        exact ⟨rfl, hB⟩
      · rw [show waysTo ((6 : Nat) : Int) 7 = 4 from by decide]
        go_wp2
        go_ret
        exact ⟨rfl, hB⟩
      · rw [show waysTo ((7 : Nat) : Int) 7 = 3 from by decide]
        go_wp2
        go_ret
        exact ⟨rfl, hB⟩

set_option maxRecDepth 100000 in
theorem lifted (os : Os) (started : os.Started) (H : Type) (enc : TypeId × Value → H) :
    ReturnsInHanded {} Tryd.checked os 5 .any (fun w args => (Rows.tableWaysSpec.pre enc Tryd.prog Tryd.f5 Rows.tableWaysRow.domain false w args ∧ laidMetH Tryd.prog Rows.tableWaysRow.laid w) ∧ sizedMet enc Tryd.prog Tryd.f5 (OpenSpec.ofChange Rows.tableWaysSpec) false w args) (Rows.tableWaysSpec.post enc Tryd.prog Tryd.f5 false true false false) := by
  refine returnsInHanded_of_change_and (C := Tryd.checked) (X := fun w _ => laidMetH Tryd.prog Rows.tableWaysRow.laid w) (fun _ _ _ hh h => h.of_heap hh) own started (by kernel_rfl) Tryd.func5
    (ChangeSpec.witness_shaped (enc := enc) (C := Tryd.checked) (os := os) (X := fun w _ => laidMetH Tryd.prog Rows.tableWaysRow.laid w) false (World.doorLaid Tryd.prog 22 os) #[.int .i64 0] 8 rfl (World.shaped_of_RefB (by kernel_rfl) (by kernel_rfl)) (by kernel_rfl) (by kernel_rfl) (by kernel_rfl) (door_met os _)) ?_
  intro W base args ds gs before hval0 hW hcnd hsz0 hL _
  have hval : ∀ (j : Nat) t v, Tryd.f5.params[j]? = some t → args[j]? = some v → Value.okWide Tryd.prog W .any base t v := hval0
  have hW' := hW
  obtain ⟨p, q, hA0, hV, rfl, hfz, hnd⟩ := hW
  have hA : DataW.TrodAll enc Tryd.prog W 0 (fun _ => true) true Tryd.f5.params.toList args.toList ds p := hA0
  rw [Tryd.params5] at hA hval
  obtain ⟨v0, vs0, d0, ds0, p0, q0, hargs, rfl, rfl, h0, r0⟩ := trodAll_cons hA
  obtain ⟨rfl, rfl, rfl⟩ := trodAll_nil r0
  obtain rfl : args = #[v0] := by cases args; simp_all
  obtain ⟨rfl, rfl⟩ := trodVars_none hV
  obtain ⟨a0, rfl, rfl, rfl, w0⟩ := open_int Tryd.underlying3 (hval 0 3 v0 rfl rfl) h0
  clear hA0 hval0
  refine (walk a0 w0 W hL).mono fun e W' ⟨he, bel⟩ => ?_
  subst he
  exact ⟨_, rfl, _, _, _, [], _, [], hW', (trodAll_cons_mk (shut_bool Tryd.underlying4 _) trodAll_mk0), (trodAll_cons_mk (shut_int Tryd.underlying3 w0) trodAll_mk0), rfl, bel.frame _, fun h => by cases h⟩

theorem over : Rows.tableWaysRow.holds Tryd.pinned (OpenSpec.ofChange Rows.tableWaysSpec) :=
  OpenClaim.holds_of_wide 5 Tryd.f5 rfl rfl rfl rfl rfl rfl rfl ⟨rfl, rfl, rfl, rfl, rfl⟩ rfl rfl rfl rfl rfl (by kernel_rfl) Tryd.func5 (by kernel_rfl)
    (of_decide_eq_true (by kernel_rfl)) (by unfold Func.isWrapper; first | (rw [if_pos (by decide +kernel)]; kernel_rfl) | (rw [if_neg (by decide +kernel)]; exact ⟨rfl, rfl⟩))
    (fun os started H enc _ => lifted os started H enc)

theorem plain (f : FuncId) (fn : Func) (hf : Tryd.pinned.checked.prog.funcNamed "skiff/skifflaw15.TableWays" = some f) (hfn : Tryd.pinned.checked.prog.funcs[f]? = some fn) :
    false = Tryd.pinned.checked.prog.looks [] ∧ ∀ (j : Nat) t, fn.params[j]? = some t → Tryd.pinned.checked.prog.wantsStandIn t = false := by
  obtain rfl : f = 5 := Option.some.inj ((show Tryd.prog.funcNamed "skiff/skifflaw15.TableWays" = some 5 by kernel_rfl).symm.trans hf) |>.symm
  obtain rfl : fn = Tryd.f5 := (Option.some.inj (Tryd.func5.symm.trans hfn)).symm
  refine ⟨by kernel_rfl, fun j t ht => ?_⟩
  rw [Tryd.params5] at ht
  rcases j with _ | j
  · obtain rfl : 3 = t := by simpa using ht
    exact (show Tryd.prog.wantsStandIn 3 = false by kernel_rfl)
  · simp at ht
theorem proved : Rows.TableWaysCardSaid :=
  Claim7.holds_tied_plain_at .later [] _ _ _ _ over (fun _ h => by cases h) (by kernel_rfl) (fun _ h => by cases h) tableWays_row_tie rfl ⟨rfl, rfl⟩ (by kernel_rfl) rfl plain (by kernel_rfl)
#print axioms proved
end Go.Proofs.YtnlhjpkhhkfijaaDoor.tableWays
