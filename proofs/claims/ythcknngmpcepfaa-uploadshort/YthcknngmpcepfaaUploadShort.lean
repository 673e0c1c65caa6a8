/- Whatever the number: the law UploadShort returns true (fewer bytes than a block has end the reading back, however many were asked for), and the argument reads as it did; no condition. -/
import Derived.Test.YthcknngmpcepfaaRows
import Derived.Test.YthcknngmpcepfaaBagNor
import Derived.Test.YthcknngmpcepfaaBagDev
import Derived.Test.YthcknngmpcepfaaBagDnl
import Derived.Test.YthcknngmpcepfaaUplMath
import Derived.Test.YthcknngmpcepfaaUplGive
import Derived.Test.YthcknngmpcepfaaUplAwake
import Derived.Deep.Cut
import Derived.ChangeOld
import Derived.Below
import Derived.WalkKit
import Derived.ProofKit
import Derived.OpenShut
import Derived.ShutString
namespace Go.Proofs.Ythcknngmpcepfaa.uploadShort
open Go.ChangeShapes Go.WideShapes Go.ChangeAt Go.RowKit
open Go.ChangeMaps (open_string shut_string)
set_option linter.unusedVariables false

open Go.Proofs.Ythcknngmpcepfaa.Bytes
open Go.Proofs.Ythcknngmpcepfaa.Held
open Go.Proofs.Ythcknngmpcepfaa.Dev
open Go.Proofs.Ythcknngmpcepfaa.DevRow
open Go.Proofs.Ythcknngmpcepfaa.DevHelp
open Go.Proofs.Ythcknngmpcepfaa.DevAwake
open Go.Proofs.Ythcknngmpcepfaa.Dnl
open Go.Proofs.Ythcknngmpcepfaa.Upl
open Go.Proofs.Ythcknngmpcepfaa.UplAwake
theorem own : ownKnob Try.prog.godebug = none := by kernel_rfl

theorem build_sn (x n : Int) (w : World) : (Instr.build 24 #[(0, .int .i64 x), (2, .int .i64 n)]).run Try.prog w = .ok (.agg #[.int .i64 x, .int .i64 0, .int .i64 n, .int .i64 0, .int .i64 0, .slice none 0 0]) w := run_build w 24 _ _ (by kernel_rfl)
theorem ask_few (b k : Nat) (hb : b ≤ 65535) (hk : k ≤ 32) : (0 ≤ (b : Int) ∧ (b : Int) ≤ 65535) ∧ 0 ≤ (k : Int) ∧ (k : Int) ≤ 32 := by omega
/-- An idle device asked for the first block. -/
theorem idle (k q : Nat) (hk : k ≤ 32) (hq : q = min 12 k) (w : World) : Calls Try.prog 10 #[.string heldS, .agg #[.int .i64 0, .int .i64 0, .int .i64 0, .int .i64 0, .int .i64 0, .slice none 0 0], .int .i64 0, .int .i64 (k : Int)] w fun r w' => ∃ a c, r = .returned (.tuple #[.agg #[.int .i64 0, .int .i64 0, .int .i64 0, .int .i64 0, .int .i64 0, .slice a 0 c], .string ((⟨#[97, 98, 97, 98, 97, 98, 97, 98, 97, 98, 97, 98]⟩ : ByteArray).extract 0 q), .int .i64 0]) ∧ IsSt w' (.slice a 0 c) [] ∧ Below w.heap.size w w' := by
  obtain ⟨h1, h2⟩ := told_held k (by omega)
  have h3 : pieceN ab 0 (k : Int).toNat = (⟨#[97, 98, 97, 98, 97, 98, 97, 98, 97, 98, 97, 98]⟩ : ByteArray).extract 0 q := by
    have he : endN ab 0 (k : Int).toNat = q := by unfold endN fromN; rw [show ab.size = 12 from size_ab]; omega
    have hf : fromN ab 0 = 0 := by unfold fromN; omega
    unfold pieceN
    rw [he, hf]
    rfl
  exact given (d := newD) (D := newD) (okU_parts.2 ⟨held_may, rfl, .inl rfl, ask_few 0 k (by omega) hk⟩) h1 (h2.trans h3) rfl _ w (isSt_nil w)
/-- One that waits for the block behind the last one. -/
theorem behind (k : Nat) (hk : k ≤ 32) (w : World) : Calls Try.prog 10 #[.string heldS, .agg #[.int .i64 6, .int .i64 0, .int .i64 1, .int .i64 0, .int .i64 0, .slice none 0 0], .int .i64 1, .int .i64 (k : Int)] w fun r w' => ∃ a c, r = .returned (.tuple #[.agg #[.int .i64 0, .int .i64 0, .int .i64 0, .int .i64 0, .int .i64 0, .slice a 0 c], .string ⟨#[]⟩, .int .i64 0]) ∧ IsSt w' (.slice a 0 c) [] ∧ Below w.heap.size w w' := by
  have hx : (1 : Int) = nextU ⟨6, 0, 1, 0, 0, []⟩ := rfl
  have hs : (dataS heldS ⟨6, 0, 1, 0, 0, []⟩ k).size = 0 := by
    unfold dataS
    rw [held_actS, size_pieceN, show ab.size = 12 from size_ab]
    show min _ (12 - 1 * 32) = 0
    omega
  have hd : dataS heldS ⟨6, 0, 1, 0, 0, []⟩ k = ⟨#[]⟩ := DnlWalk.text_none hs
  obtain ⟨h1, h2⟩ := told_is (f := heldS) (k : Int) held_err hx
  have h3 : behindD (begunD ⟨6, 0, 1, 0, 0, []⟩) (dataS heldS ⟨6, 0, 1, 0, 0, []⟩ k).size = newD := by unfold behindD; rw [if_pos (by omega)]
  exact given (d := ⟨6, 0, 1, 0, 0, []⟩) (D := newD) (s := ⟨#[]⟩) (okU_parts.2 ⟨held_may, rfl, .inr rfl, ask_few 1 k (by omega) hk⟩) (h1.trans h3) (h2.trans hd) rfl _ w (isSt_nil w)
set_option maxRecDepth 100000 in
set_option maxHeartbeats 4000000 in
theorem walk (a0 : Int) (w0 : (Lit.int .i64 a0).wf = true) (w : World) :
    Calls Try.prog 7 #[.int .i64 a0] w fun e w' => e = .returned (.bool true) ∧ Below w.heap.size w w' := by
  have hB : Below w.heap.size w w := Below.refl _ _
  obtain ⟨k, hk, mk⟩ : ∃ k : Nat, k < 33 ∧ wrap64 ((IntKind.u64.wrap a0).tmod 33) = (k : Int) := mod_u64 a0 33 (by omega) (by omega)
  obtain ⟨q, hq⟩ : ∃ q : Nat, q = min 12 k := ⟨_, rfl⟩
  have C1 := hide (fun w => HeldCalls.held20_any w)
  have C2 := hide (fun w => idle k q (by omega) hq w)
  have C3 := hide (fun w => behind k (by omega) w)
  have C5 := hide fun v w' h => sameDev_yes ⟨0, 0, 0, 0, 0, []⟩ v (.slice none 0 0) w' h (isSt_nil w')
  dsimp only at C5
  have br := DevWalk.build_d0
  have bs := build_sn
  have hmn := fun ts t w => UplWalk.run_min2 (P := Try.prog) 12 (k : Int) (q : Int) (by omega) ts t w
  have hq1 : q ≤ 12 := by omega
  clear hq hk
  generalize heldS = F at *
  go_enter Try.func7, Try.ntmps7
  go_wp2_with (first | (go_at_call 15; refine (UplAwake.awake_any _).mono ?_; rintro e w' ⟨rfl, hb⟩; replace hB := hB.trans (hb.mono hB.size); clear hb) | (go_at_call 16; refine (C1.out _).mono ?_; rintro e w' ⟨rfl, hb⟩; replace hB := hB.trans (hb.mono hB.size); clear hb))
  refine (C2.out _).mono ?_
  rintro e u2 ⟨sa, sc, rfl, hI, hb⟩
  replace hB := thenB hB hb
  have hQ := resM u2 (.int .i64 0) (.int .i64 0) (.int .i64 0) (.int .i64 0) (.int .i64 0) (.slice sa 0 sc) 24
  have hn := hal u2 (.cells #[.int .i64 0, .int .i64 0, .int .i64 0, .int .i64 0, .int .i64 0, .slice sa 0 sc] 24)
  replace hB := thenB hB hn
  replace hI := hI.below hn
  clear hn hb C2
  go_upto_region 5 with fail
  generalize u2.alloc _ = W2 at *
  generalize u2.heap.size = G2 at *
  go_wp2_with fail
  refine (C1.out _).mono ?_
  rintro e u3 ⟨rfl, hb⟩
  replace hB := thenB hB hb
  replace hI := hI.below hb
  replace hQ := resB hQ hb
  clear hb
  go_wp2_with fail
  refine (C3.out _).mono ?_
  rintro e u4 ⟨ta, tc, rfl, hJ, hb⟩
  replace hB := thenB hB hb
  replace hI := hI.below hb
  replace hQ := resB hQ hb
  have hR := resM u4 (.int .i64 0) (.int .i64 0) (.int .i64 0) (.int .i64 0) (.int .i64 0) (.slice ta 0 tc) 24
  have hn := hal u4 (.cells #[.int .i64 0, .int .i64 0, .int .i64 0, .int .i64 0, .int .i64 0, .slice ta 0 tc] 24)
  replace hB := thenB hB hn
  replace hI := hI.below hn
  replace hJ := hJ.below hn
  replace hQ := resB hQ hn
  clear hn hb C3 C1
  go_upto_region 6 with fail
  generalize u4.alloc _ = W4 at *
  generalize u4.heap.size = G4 at *
  go_upto_region 8 with fail
  generalize (⟨#[97, 98, 97, 98, 97, 98, 97, 98, 97, 98, 97, 98]⟩ : ByteArray).extract 0 q = T at *
  have f2 : (T.toList == T.toList) = true := beq_self_eq_true _
  go_wp2_with (go_at_call 13; refine (num_any _ _).mono ?_; rintro e w' ⟨rfl, rfl⟩)
  refine (C5.out _ _ hI).mono ?_; rintro e u5 ⟨rfl, hb⟩; replace hB := thenB hB hb; replace hR := resB hR hb; replace hJ := hJ.below hb; clear hb
  go_wp2_with (go_at_call 13; refine (num_any _ _).mono ?_; rintro e w' ⟨rfl, rfl⟩)
  refine (C5.out _ _ hJ).mono ?_; rintro e u6 ⟨rfl, hb⟩; replace hB := thenB hB hb; clear hb
  go_wp2_with fail
  go_ret
  exact ⟨rfl, hB⟩

set_option maxRecDepth 100000 in
theorem lifted (os : Os) (started : os.Started) (H : Type) (enc : TypeId × Value → H) :
    ReturnsInHanded {} Try.checked os 7 .any (Rows.uploadShortSpec.pre6 enc Try.prog Try.f7 Rows.uploadShortRow.domain false) (Rows.uploadShortSpec.post enc Try.prog Try.f7 false true false false) := by
  refine returnsInHanded_of_change (C := Try.checked) own started (by kernel_rfl) Try.func7
    (ChangeSpec.witness6 (enc := enc) (C := Try.checked) false ⟨#[], #[.int .i64 0], []⟩ 8 (by kernel_rfl) (by kernel_rfl) (by kernel_rfl) (by kernel_rfl)) ?_
  intro W base args ds gs before hval0 hW hcnd _
  have hval : ∀ (j : Nat) t v, Try.f7.params[j]? = some t → args[j]? = some v → Value.okWide Try.prog W .any base t v := hval0
  have hW' := hW
  obtain ⟨p, q, hA0, hV, rfl, hfz, hnd⟩ := hW
  have hA : DataW.TrodAll enc Try.prog W 0 (fun _ => true) true Try.f7.params.toList args.toList ds p := hA0
  rw [Try.params7] at hA hval
  obtain ⟨v0, vs0, d0, ds0, p0, q0, hargs, rfl, rfl, h0, r0⟩ := trodAll_cons hA
  obtain ⟨rfl, rfl, rfl⟩ := trodAll_nil r0
  obtain rfl : args = #[v0] := by cases args; simp_all
  obtain ⟨rfl, rfl⟩ := trodVars_none hV
  obtain ⟨a0, rfl, rfl, rfl, w0⟩ := open_int Try.underlying3 (hval 0 3 v0 rfl rfl) h0
  clear hA0 hval0
  refine (walk a0 w0 W).mono fun e W' ⟨he, bel⟩ => ?_
  subst he
  exact ⟨_, rfl, _, _, _, [], _, [], hW', (trodAll_cons_mk (shut_bool Try.underlying4 _) trodAll_mk0), (trodAll_cons_mk (shut_int Try.underlying3 w0) trodAll_mk0), rfl, bel.frame _, fun h => by cases h⟩

theorem over : Rows.uploadShortRow.holds Try.pinned (OpenSpec.ofChange Rows.uploadShortSpec) :=
  OpenClaim.holds_of_wide 7 Try.f7 rfl rfl rfl rfl rfl rfl rfl ⟨rfl, rfl, rfl, rfl, rfl⟩ rfl rfl rfl rfl rfl (by kernel_rfl) Try.func7 (by kernel_rfl)
    (of_decide_eq_true (by kernel_rfl)) (by unfold Func.isWrapper; first | (rw [if_pos (by decide +kernel)]; kernel_rfl) | (rw [if_neg (by decide +kernel)]; exact ⟨rfl, rfl⟩))
    (fun os started H enc _ => lifted os started H enc)

theorem proved : Rows.UploadShortSaid :=
  over
#print axioms proved
end Go.Proofs.Ythcknngmpcepfaa.uploadShort
