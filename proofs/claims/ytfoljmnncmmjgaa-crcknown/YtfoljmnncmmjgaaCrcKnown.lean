/- Whatever the number: the law CrcKnown returns true (the five sums that are known are what crc.Sum gives), and its argument reads as it did; no condition. -/
import Derived.Test.YtfoljmnncmmjgaaRows
import Derived.Test.YtfoljmnncmmjgaaCrcMath
import Derived.Test.YtfoljmnncmmjgaaCrcSum
import Derived.Test.YtfoljmnncmmjgaaCrcAwake
import Derived.Deep.QuietTactic
import Derived.BigQuiet
import Derived.WalkKit
import Derived.ProofKit
import Derived.OpenShut
import Derived.ShutString
namespace Go.Proofs.Ytfoljmnncmmjgaa.crcKnown
open Go.ChangeShapes Go.WideShapes Go.ChangeAt Go.RowKit
open Go.ChangeMaps (open_string shut_string)
set_option linter.unusedVariables false

open Go.Proofs.Ytfoljmnncmmjgaa.CrcSum
open Go.Proofs.Ytfoljmnncmmjgaa.CrcAwake
theorem own : ownKnob Try.prog.godebug = none := by kernel_rfl

theorem five (a : Int) : wrap64 ((IntKind.u64.wrap a).tmod 5) = 0 ∨ wrap64 ((IntKind.u64.wrap a).tmod 5) = 1 ∨ wrap64 ((IntKind.u64.wrap a).tmod 5) = 2 ∨ wrap64 ((IntKind.u64.wrap a).tmod 5) = 3 ∨ wrap64 ((IntKind.u64.wrap a).tmod 5) = 4 := by
  have e : IntKind.u64.wrap a = a % 18446744073709551616 := by simp [IntKind.wrap, IntKind.bits, IntKind.signed]
  rw [e, Int.tmod_eq_emod_of_nonneg (by omega)]
  unfold wrap64
  omega
theorem k1 : ((Crc.sum [97] : Nat) : Int) = 3904355907 := by decide +kernel
theorem k2 : ((Crc.sum [97, 98, 99] : Nat) : Int) = 891568578 := by decide +kernel
theorem k3 : ((Crc.sum [0, 0, 0, 0] : Nat) : Int) = 558161692 := by decide +kernel
theorem k4 : ((Crc.sum [255, 255, 255, 255] : Nat) : Int) = 4294967295 := by decide +kernel
theorem k5 : ((Crc.sum [84, 104, 101, 32, 113, 117, 105, 99, 107, 32, 98, 114, 111, 119, 110, 32, 102, 111, 120, 32, 106, 117, 109, 112, 115, 32, 111, 118, 101, 114, 32, 116, 104, 101, 32, 108, 97, 122, 121, 32, 100, 111, 103] : Nat) : Int) = 1095738169 := by decide +kernel

set_option maxHeartbeats 1000000 in
theorem walk (a0 : Int) (w0 : (Lit.int .i64 a0).wf = true) (w : World) :
    Calls Try.prog 5 #[.int .i64 a0] w fun e w' => e = .returned (.bool true) ∧ Grown w w' := by
  have h1 := k1
  have h2 := k2
  have h3 := k3
  have h4 := k4
  have h5 := k5
  rcases five a0 with h | h | h | h | h
  all_goals
    go_enter Try.func5, Try.ntmps5
    go_wp2_with (first | (go_at_call 11; refine (awake_any _).mono ?_; rintro e w' ⟨rfl, rfl⟩))
    go_quiet ((first | (go_at_call 8; exact Calls.quiet_of_same (num_any _ _)) | (go_at_call 9; exact Calls.quiet_of_same (sum_any _ _ (by decide)))))
    go_wp2
    go_ret
    exact ⟨rfl, by repeat (first | exact Grown.refl _ | apply Grown.drew | apply Grown.alloc)⟩

set_option maxRecDepth 100000 in
theorem lifted (os : Os) (started : os.Started) (H : Type) (enc : TypeId × Value → H) :
    ReturnsInHanded {} Try.checked os 5 .any (Rows.crcKnownSpec.pre6 enc Try.prog Try.f5 Rows.crcKnownRow.domain false) (Rows.crcKnownSpec.post enc Try.prog Try.f5 false true false false) := by
  refine returnsInHanded_of_change (C := Try.checked) own started (by kernel_rfl) Try.func5
    (ChangeSpec.witness6 (enc := enc) (C := Try.checked) false ⟨#[], #[.int .i64 0], []⟩ 8 (by kernel_rfl) (by kernel_rfl) (by kernel_rfl) (by kernel_rfl)) ?_
  intro W base args ds gs before hval0 hW hcnd _
  have hval : ∀ (j : Nat) t v, Try.f5.params[j]? = some t → args[j]? = some v → Value.okWide Try.prog W .any base t v := hval0
  have hW' := hW
  obtain ⟨p, q, hA0, hV, rfl, hfz, hnd⟩ := hW
  have hA : DataW.TrodAll enc Try.prog W 0 (fun _ => true) true Try.f5.params.toList args.toList ds p := hA0
  rw [Try.params5] at hA hval
  obtain ⟨v0, vs0, d0, ds0, p0, q0, hargs, rfl, rfl, h0, r0⟩ := trodAll_cons hA
  obtain ⟨rfl, rfl, rfl⟩ := trodAll_nil r0
  obtain rfl : args = #[v0] := by cases args; simp_all
  obtain ⟨rfl, rfl⟩ := trodVars_none hV
  obtain ⟨a0, rfl, rfl, rfl, w0⟩ := open_int Try.underlying3 (hval 0 3 v0 rfl rfl) h0
  clear hA0 hval0
  simp only [List.append_nil] at hW'
  refine (walk a0 w0 W).mono fun e W' ⟨he, hg⟩ => ?_
  subst he
  exact ⟨_, rfl, post_of_same (pa := []) (pv := []) hW' (fun _ _ _ => (trodAll_cons_mk (shut_bool Try.underlying4 _) trodAll_mk0)) (fun sp _ => (trodAll_cons_mk (shut_int Try.underlying3 w0) trodAll_mk0)) (fun _ _ => rfl) rfl
    (hg.frame _) hg.2.1 (ok_one (by kernel_rfl) rfl (okWide_bool_mk Try.underlying4 _))⟩

theorem over : Rows.crcKnownRow.holds Try.pinned (OpenSpec.ofChange Rows.crcKnownSpec) :=
  OpenClaim.holds_of_wide 5 Try.f5 rfl rfl rfl rfl rfl rfl rfl ⟨rfl, rfl, rfl, rfl, rfl⟩ rfl rfl rfl rfl rfl (by kernel_rfl) Try.func5 (by kernel_rfl)
    (of_decide_eq_true (by kernel_rfl)) (by unfold Func.isWrapper; first | (rw [if_pos (by decide +kernel)]; kernel_rfl) | (rw [if_neg (by decide +kernel)]; exact ⟨rfl, rfl⟩))
    (fun os started H enc _ => lifted os started H enc)

theorem proved : Rows.CrcKnownSaid :=
  over
#print axioms proved
end Go.Proofs.Ytfoljmnncmmjgaa.crcKnown
