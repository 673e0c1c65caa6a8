/- Whatever the two numbers: the law UploadRow returns true (a block out of its row makes the device fail, and tells no byte; the one that is due is told, and the device is new), and the arguments read as they did; no condition. -/
import Derived.Test.YthcknngmpcepfaaRows
import Derived.Test.YthcknngmpcepfaaBagNor
import Derived.Test.YthcknngmpcepfaaBagDev
import Derived.Test.YthcknngmpcepfaaBagDnl
import Derived.Test.YthcknngmpcepfaaUplMath
import Derived.Test.YthcknngmpcepfaaUplGive
import Derived.Test.YthcknngmpcepfaaUplAwake
import Derived.Deep.Cut
import Derived.ChangeOld
import Derived.Below
import Derived.WalkKit
import Derived.ProofKit
import Derived.OpenShut
import Derived.ShutString
namespace Go.Proofs.Ythcknngmpcepfaa.uploadRow
open Go.ChangeShapes Go.WideShapes Go.ChangeAt Go.RowKit
open Go.ChangeMaps (open_string shut_string)
set_option linter.unusedVariables false

open Go.Proofs.Ythcknngmpcepfaa.Bytes
open Go.Proofs.Ythcknngmpcepfaa.Held
open Go.Proofs.Ythcknngmpcepfaa.Dev
open Go.Proofs.Ythcknngmpcepfaa.DevRow
open Go.Proofs.Ythcknngmpcepfaa.DevHelp
open Go.Proofs.Ythcknngmpcepfaa.DevAwake
open Go.Proofs.Ythcknngmpcepfaa.Dnl
open Go.Proofs.Ythcknngmpcepfaa.Upl
open Go.Proofs.Ythcknngmpcepfaa.UplAwake
theorem own : ownKnob Try.prog.godebug = none := by kernel_rfl

theorem build_sn (x n : Int) (w : World) : (Instr.build 24 #[(0, .int .i64 x), (2, .int .i64 n)]).run Try.prog w = .ok (.agg #[.int .i64 x, .int .i64 0, .int .i64 n, .int .i64 0, .int .i64 0, .slice none 0 0]) w := run_build w 24 _ _ (by kernel_rfl)
theorem up_may (k : Nat) (h : k ≤ 16) : devB ⟨6, 0, k, 0, 0, []⟩ = true := by
  unfold devB
  rw [show upB (k : Int) 16 = true from upB_iff.2 ⟨by omega, by omega⟩]
  rfl
theorem up_ok (k b : Nat) (h : k ≤ 16) (hb : b ≤ 65535) : okU heldS ⟨6, 0, k, 0, 0, []⟩ b 32 = true :=
  okU_parts.2 ⟨held_may, up_may k h, .inr rfl, ⟨by show (0 : Int) ≤ b; omega, by show (b : Int) ≤ 65535; omega⟩, by decide, by decide⟩
theorem other (k b : Nat) (h : k ≤ 16) (hb : b ≤ 65535) (hn : ¬ b = k) (w : World) : Calls Try.prog 10 #[.string heldS, .agg #[.int .i64 6, .int .i64 0, .int .i64 (k : Int), .int .i64 0, .int .i64 0, .slice none 0 0], .int .i64 (b : Int), .int .i64 32] w fun r w' => ∃ a c, r = .returned (.tuple #[.agg #[.int .i64 7, .int .i64 4, .int .i64 0, .int .i64 0, .int .i64 0, .slice a 0 c], .string ⟨#[]⟩, .int .i64 0]) ∧ IsSt w' (.slice a 0 c) [] ∧ Below w.heap.size w w' := by
  have hx : ¬ (b : Int) = nextU ⟨6, 0, k, 0, 0, []⟩ := by show ¬ (b : Int) = (k : Int); omega
  exact given (d := ⟨6, 0, k, 0, 0, []⟩) (D := failedD 4) (s := ⟨#[]⟩) (up_ok k b h hb) (told_other 32 held_err hx).1 (told_other 32 held_err hx).2 rfl _ w (isSt_nil w)
theorem size_up (k : Nat) : (pieceN ab k 32).size < 32 := by
  rw [size_pieceN]
  have : ab.size = 12 := size_ab
  omega
theorem due (k : Nat) (h : k ≤ 16) (s : ByteArray) (hs : pieceN ab k 32 = s) (w : World) : Calls Try.prog 10 #[.string heldS, .agg #[.int .i64 6, .int .i64 0, .int .i64 (k : Int), .int .i64 0, .int .i64 0, .slice none 0 0], .int .i64 (k : Int), .int .i64 32] w fun r w' => ∃ a c, r = .returned (.tuple #[.agg #[.int .i64 0, .int .i64 0, .int .i64 0, .int .i64 0, .int .i64 0, .slice a 0 c], .string s, .int .i64 0]) ∧ IsSt w' (.slice a 0 c) [] ∧ Below w.heap.size w w' := by
  have hx : (k : Int) = nextU ⟨6, 0, k, 0, 0, []⟩ := rfl
  have hd : dataS heldS ⟨6, 0, k, 0, 0, []⟩ 32 = s := by unfold dataS; rw [held_actS, ← hs]; rfl
  obtain ⟨h1, h2⟩ := told_is (f := heldS) 32 held_err hx
  rw [hd] at h1 h2
  have h3 : behindD (begunD ⟨6, 0, k, 0, 0, []⟩) s.size = newD := by unfold behindD; rw [if_pos (by rw [← hs]; exact size_up k)]
  exact given (d := ⟨6, 0, k, 0, 0, []⟩) (D := newD) (s := s) (up_ok k k h (by omega)) (h1.trans h3) h2 rfl _ w (isSt_nil w)
theorem first_is : pieceN ab 0 32 = ⟨#[97, 98, 97, 98, 97, 98, 97, 98, 97, 98, 97, 98]⟩ := by decide +kernel
theorem none_is (k : Nat) (h : 1 ≤ k) : pieceN ab k 32 = ⟨#[]⟩ := by
  apply DnlWalk.text_none
  rw [size_pieceN]
  have : ab.size = 12 := size_ab
  omega
set_option maxRecDepth 100000 in
set_option maxHeartbeats 4000000 in
theorem walk (a0 : Int) (a1 : Int) (w0 : (Lit.int .i64 a0).wf = true) (w1 : (Lit.int .i64 a1).wf = true) (w : World) :
    Calls Try.prog 6 #[.int .i64 a0, .int .i64 a1] w fun e w' => e = .returned (.bool true) ∧ Below w.heap.size w w' := by
  have hB : Below w.heap.size w w := Below.refl _ _
  obtain ⟨k, hk, mk⟩ : ∃ k : Nat, k < 9 ∧ wrap64 ((IntKind.u64.wrap a0).tmod 9) = (k : Int) := mod_u64 a0 9 (by omega) (by omega)
  obtain ⟨b, hb0, mb⟩ : ∃ k : Nat, k ≤ 15 ∧ bits .and .i64 a1 15 = (k : Int) := mask_i64 a1 15 (by omega)
  have C1 := hide (fun w => HeldCalls.held20_any w)
  have br := DevWalk.build_d0
  have bs := build_sn
  have C5 := hide fun v w' h => sameDev_yes ⟨0, 0, 0, 0, 0, []⟩ v (.slice none 0 0) w' h (isSt_nil w')
  dsimp only at C5
  by_cases hn : b = k
  · subst hn
    obtain ⟨s, hs⟩ : ∃ s, pieceN ab b 32 = s := ⟨_, rfl⟩
    have G := hide (fun w => due b (by omega) s hs w)
    by_cases h0 : b = 0
    · obtain rfl : s = ⟨#[97, 98, 97, 98, 97, 98, 97, 98, 97, 98, 97, 98]⟩ := by rw [← hs, h0]; exact first_is
      subst h0
      clear hs
      generalize heldS = F at *
      go_enter Try.func6, Try.ntmps6
      go_wp2_with (first | (go_at_call 15; refine (UplAwake.awake_any _).mono ?_; rintro e w' ⟨rfl, hb⟩; replace hB := hB.trans (hb.mono hB.size); clear hb) | (go_at_call 16; refine (C1.out _).mono ?_; rintro e w' ⟨rfl, hb⟩; replace hB := hB.trans (hb.mono hB.size); clear hb))
      refine (G.out _).mono ?_
      rintro e u2 ⟨sa, sc, rfl, hI, hb⟩
      replace hB := thenB hB hb
      have hQ := resM u2 (.int .i64 0) (.int .i64 0) (.int .i64 0) (.int .i64 0) (.int .i64 0) (.slice sa 0 sc) 24
      have hn := hal u2 (.cells #[.int .i64 0, .int .i64 0, .int .i64 0, .int .i64 0, .int .i64 0, .slice sa 0 sc] 24)
      replace hB := thenB hB hn
      replace hI := hI.below hn
      clear hn hb
      go_upto_region 5 with fail
      generalize u2.alloc _ = W2 at *
      generalize u2.heap.size = G2 at *
      go_wp2_with (go_at_call 13; refine (num_any _ _).mono ?_; rintro e w' ⟨rfl, rfl⟩)
      refine (C5.out _ _ hI).mono ?_; rintro e u3 ⟨rfl, hb⟩; replace hB := thenB hB hb; clear hb
      go_wp2_with fail
      go_ret
      exact ⟨rfl, hB⟩
    · obtain rfl : s = ⟨#[]⟩ := by rw [← hs]; exact none_is b (by omega)
      have h1 : ((b : Int) == 0) = false := DnlWalk.eq_f (by omega)
      have h2 : ((b : Int) != (b : Int)) = false := bne_self_eq_false _
      clear hs
      generalize heldS = F at *
      go_enter Try.func6, Try.ntmps6
      go_wp2_with (first | (go_at_call 15; refine (UplAwake.awake_any _).mono ?_; rintro e w' ⟨rfl, hb⟩; replace hB := hB.trans (hb.mono hB.size); clear hb) | (go_at_call 16; refine (C1.out _).mono ?_; rintro e w' ⟨rfl, hb⟩; replace hB := hB.trans (hb.mono hB.size); clear hb))
      refine (G.out _).mono ?_
      rintro e u2 ⟨sa, sc, rfl, hI, hb⟩
      replace hB := thenB hB hb
      have hQ := resM u2 (.int .i64 0) (.int .i64 0) (.int .i64 0) (.int .i64 0) (.int .i64 0) (.slice sa 0 sc) 24
      have hn := hal u2 (.cells #[.int .i64 0, .int .i64 0, .int .i64 0, .int .i64 0, .int .i64 0, .slice sa 0 sc] 24)
      replace hB := thenB hB hn
      replace hI := hI.below hn
      clear hn hb
      go_upto_region 5 with fail
      generalize u2.alloc _ = W2 at *
      generalize u2.heap.size = G2 at *
      go_wp2_with (go_at_call 13; refine (num_any _ _).mono ?_; rintro e w' ⟨rfl, rfl⟩)
      refine (C5.out _ _ hI).mono ?_; rintro e u3 ⟨rfl, hb⟩; replace hB := thenB hB hb; clear hb
      go_wp2_with fail
      go_ret
      exact ⟨rfl, hB⟩
  · have G := hide (fun w => other k b (by omega) (by omega) hn w)
    have h2 : ((b : Int) != (k : Int)) = true := DnlWalk.ne_t (by omega)
    clear hn C5
    generalize heldS = F at *
    go_enter Try.func6, Try.ntmps6
    go_wp2_with (first | (go_at_call 15; refine (UplAwake.awake_any _).mono ?_; rintro e w' ⟨rfl, hb⟩; replace hB := hB.trans (hb.mono hB.size); clear hb) | (go_at_call 16; refine (C1.out _).mono ?_; rintro e w' ⟨rfl, hb⟩; replace hB := hB.trans (hb.mono hB.size); clear hb))
    refine (G.out _).mono ?_
    rintro e u2 ⟨sa, sc, rfl, hI, hb⟩
    replace hB := thenB hB hb
    have hQ := resM u2 (.int .i64 7) (.int .i64 4) (.int .i64 0) (.int .i64 0) (.int .i64 0) (.slice sa 0 sc) 24
    have hn := hal u2 (.cells #[.int .i64 7, .int .i64 4, .int .i64 0, .int .i64 0, .int .i64 0, .slice sa 0 sc] 24)
    replace hB := thenB hB hn
    clear hn hb hI
    go_upto_region 5 with fail
    generalize u2.alloc _ = W2 at *
    generalize u2.heap.size = G2 at *
    go_wp2_with (go_at_call 13; refine (num_any _ _).mono ?_; rintro e w' ⟨rfl, rfl⟩)
    go_ret
    exact ⟨rfl, hB⟩

set_option maxRecDepth 100000 in
theorem lifted (os : Os) (started : os.Started) (H : Type) (enc : TypeId × Value → H) :
    ReturnsInHanded {} Try.checked os 6 .any (Rows.uploadRowSpec.pre6 enc Try.prog Try.f6 Rows.uploadRowRow.domain false) (Rows.uploadRowSpec.post enc Try.prog Try.f6 false true false false) := by
  refine returnsInHanded_of_change (C := Try.checked) own started (by kernel_rfl) Try.func6
    (ChangeSpec.witness6 (enc := enc) (C := Try.checked) false ⟨#[], #[.int .i64 0, .int .i64 0], []⟩ 8 (by kernel_rfl) (by kernel_rfl) (by kernel_rfl) (by kernel_rfl)) ?_
  intro W base args ds gs before hval0 hW hcnd _
  have hval : ∀ (j : Nat) t v, Try.f6.params[j]? = some t → args[j]? = some v → Value.okWide Try.prog W .any base t v := hval0
  have hW' := hW
  obtain ⟨p, q, hA0, hV, rfl, hfz, hnd⟩ := hW
  have hA : DataW.TrodAll enc Try.prog W 0 (fun _ => true) true Try.f6.params.toList args.toList ds p := hA0
  rw [Try.params6] at hA hval
  obtain ⟨v0, vs0, d0, ds0, p0, q0, hargs, rfl, rfl, h0, r0⟩ := trodAll_cons hA
  obtain ⟨v1, vs1, d1, ds1, p1, q1, rfl, rfl, rfl, h1, r1⟩ := trodAll_cons r0
  obtain ⟨rfl, rfl, rfl⟩ := trodAll_nil r1
  obtain rfl : args = #[v0, v1] := by cases args; simp_all
  obtain ⟨rfl, rfl⟩ := trodVars_none hV
  obtain ⟨a0, rfl, rfl, rfl, w0⟩ := open_int Try.underlying3 (hval 0 3 v0 rfl rfl) h0
  obtain ⟨a1, rfl, rfl, rfl, w1⟩ := open_int Try.underlying3 (hval 1 3 v1 rfl rfl) h1
  clear hA0 hval0
  refine (walk a0 a1 w0 w1 W).mono fun e W' ⟨he, bel⟩ => ?_
  subst he
  exact ⟨_, rfl, _, _, _, [], _, [], hW', (trodAll_cons_mk (shut_bool Try.underlying4 _) trodAll_mk0), (trodAll_cons_mk (shut_int Try.underlying3 w0) (trodAll_cons_mk (shut_int Try.underlying3 w1) trodAll_mk0)), rfl, bel.frame _, fun h => by cases h⟩

theorem over : Rows.uploadRowRow.holds Try.pinned (OpenSpec.ofChange Rows.uploadRowSpec) :=
  OpenClaim.holds_of_wide 6 Try.f6 rfl rfl rfl rfl rfl rfl rfl ⟨rfl, rfl, rfl, rfl, rfl⟩ rfl rfl rfl rfl rfl (by kernel_rfl) Try.func6 (by kernel_rfl)
    (of_decide_eq_true (by kernel_rfl)) (by unfold Func.isWrapper; first | (rw [if_pos (by decide +kernel)]; kernel_rfl) | (rw [if_neg (by decide +kernel)]; exact ⟨rfl, rfl⟩))
    (fun os started H enc _ => lifted os started H enc)

theorem proved : Rows.UploadRowSaid :=
  over
#print axioms proved
end Go.Proofs.Ythcknngmpcepfaa.uploadRow
