/- Whatever the flash: the law UploadAll returns true (blocks asked for in their row are the active image's bytes, and its end; where none is active the device fails), and the argument reads as it did; no condition. -/
import Derived.Test.YthcknngmpcepfaaRows
import Derived.Test.YthcknngmpcepfaaBagNor
import Derived.Test.YthcknngmpcepfaaBagAct
import Derived.Test.YthcknngmpcepfaaBagDev
import Derived.Test.YthcknngmpcepfaaBagDnl
import Derived.Test.YthcknngmpcepfaaUplMath
import Derived.Test.YthcknngmpcepfaaUplGive
import Derived.Test.YthcknngmpcepfaaUplAwake
import Derived.Deep.Cut
import Derived.ChangeOld
import Derived.Below
import Derived.WalkKit
import Derived.ProofKit
import Derived.OpenShut
import Derived.ShutString
namespace Go.Proofs.Ythcknngmpcepfaa.uploadAll
open Go.ChangeShapes Go.WideShapes Go.ChangeAt Go.RowKit
open Go.ChangeMaps (open_string shut_string)
set_option linter.unusedVariables false

open Go.Proofs.Ythcknngmpcepfaa.Bytes
open Go.Proofs.Ythcknngmpcepfaa.Act
open Go.Proofs.Ythcknngmpcepfaa.ActRef
open Go.Proofs.Ythcknngmpcepfaa.ActNext
open Go.Proofs.Ythcknngmpcepfaa.JouRow
open Go.Proofs.Ythcknngmpcepfaa.Jou
open Go.Proofs.Ythcknngmpcepfaa.Dev
open Go.Proofs.Ythcknngmpcepfaa.DevRow
open Go.Proofs.Ythcknngmpcepfaa.DevSet
open Go.Proofs.Ythcknngmpcepfaa.DevHelp
open Go.Proofs.Ythcknngmpcepfaa.DevAwake
open Go.Proofs.Ythcknngmpcepfaa.Dnl
open Go.Proofs.Ythcknngmpcepfaa.Tic
open Go.Proofs.Ythcknngmpcepfaa.Upl
open Go.Proofs.Ythcknngmpcepfaa.UplAwake
theorem own : ownKnob Try.prog.godebug = none := by kernel_rfl

/-- The state of a device that has given so many blocks. -/
def stAt (j : Nat) : Int := if j = 0 then 0 else 6
theorem stAt_succ (j : Nat) : stAt (j + 1) = 6 := by unfold stAt; rw [if_neg (by omega)]
theorem at_may (j : Nat) (h : j ≤ 16) : devB ⟨stAt j, 0, j, 0, 0, []⟩ = true := by
  unfold devB
  rw [show upB (j : Int) 16 = true from upB_iff.2 ⟨by omega, by omega⟩]
  unfold stAt
  split <;> rfl
theorem at_next (j : Nat) : nextU ⟨stAt j, 0, j, 0, 0, []⟩ = (j : Int) := by
  unfold nextU stAt
  by_cases h : j = 0
  · subst h; rfl
  · rw [if_neg h]; rfl
theorem at_ok {f : ByteArray} (he : errA f = 0) (j : Nat) (h : j ≤ 16) : okU f ⟨stAt j, 0, j, 0, 0, []⟩ j 32 = true := by
  refine okU_parts.2 ⟨mayF_t (imgOk_parts.1 (act_img he)).1, at_may j h, ?_, ⟨by show (0 : Int) ≤ j; omega, by show (j : Int) ≤ 65535; omega⟩, by decide, by decide⟩
  show stAt j = 0 ∨ stAt j = 6
  unfold stAt
  split
  · exact .inl rfl
  · exact .inr rfl
theorem at_data (f : ByteArray) (j : Nat) : dataS f ⟨stAt j, 0, j, 0, 0, []⟩ 32 = pieceN (actS f) j 32 := by
  unfold dataS
  rw [at_next]
  rfl
theorem at_begun (j : Nat) : begunD ⟨stAt j, 0, j, 0, 0, []⟩ = ⟨stAt j, 0, j, 0, 0, []⟩ := by
  unfold begunD
  rw [at_next]
theorem piece_join (t : ByteArray) (j : Nat) (hj : 32 * j ≤ t.size) : t.extract 0 (32 * j) ++ pieceN t j 32 = t.extract 0 (min (32 * (j + 1)) t.size) := by
  have h1 : fromN t j = 32 * j := by unfold fromN; omega
  have h2 : endN t j 32 = min (32 * (j + 1)) t.size := by unfold endN; rw [h1]; omega
  unfold pieceN
  rw [h1, h2, ByteArray.extract_append_extract, show min 0 (32 * j) = 0 from by omega, show max (32 * j) (min (32 * (j + 1)) t.size) = min (32 * (j + 1)) t.size from by omega]
/-- One round. -/
theorem round {f : ByteArray} (he : errA f = 0) {j : Nat} (h9 : j ≤ 9) (hj : 32 * j ≤ (actS f).size) (v : Value) (w : World) (hv : IsSt w v []) : Calls Try.prog 10 #[.string f, .agg #[.int .i64 (stAt j), .int .i64 0, .int .i64 (j : Int), .int .i64 0, .int .i64 0, v], .int .i64 (j : Int), .int .i64 32] w fun r w' => ∃ T a c, ((T.size < 32 ∧ (actS f).extract 0 (32 * j) ++ T = actS f ∧ r = .returned (.tuple #[.agg #[.int .i64 0, .int .i64 0, .int .i64 0, .int .i64 0, .int .i64 0, .slice a 0 c], .string T, .int .i64 0])) ∨ (T.size = 32 ∧ 32 * (j + 1) ≤ (actS f).size ∧ (actS f).extract 0 (32 * j) ++ T = (actS f).extract 0 (32 * (j + 1)) ∧ r = .returned (.tuple #[.agg #[.int .i64 6, .int .i64 0, .int .i64 ((j : Int) + 1), .int .i64 0, .int .i64 0, .slice a 0 c], .string T, .int .i64 0]))) ∧ IsSt w' (.slice a 0 c) [] ∧ Below w.heap.size w w' := by
  obtain ⟨h1, h2⟩ := told_is (f := f) (d := ⟨stAt j, 0, j, 0, 0, []⟩) 32 he (at_next j).symm
  rw [at_data] at h1 h2
  rw [at_begun] at h1
  have hz := size_pieceN (actS f) j 32
  have hjoin := piece_join (actS f) j hj
  have hs := size_actS f
  by_cases hsh : (pieceN (actS f) j 32).size < 32
  · have h3 : behindD ⟨stAt j, 0, j, 0, 0, []⟩ (pieceN (actS f) j 32).size = newD := by unfold behindD; rw [if_pos hsh]
    refine (given (d := ⟨stAt j, 0, j, 0, 0, []⟩) (D := newD) (at_ok he j (by omega)) (h1.trans h3) h2 rfl v w hv).mono ?_
    rintro r w' ⟨a, c, rfl, hI, hb⟩
    refine ⟨_, a, c, .inl ⟨hsh, ?_, rfl⟩, hI, hb⟩
    rw [hjoin, Nat.min_eq_right (by omega), ByteArray.extract_zero_size]
  · have h3 : behindD ⟨stAt j, 0, j, 0, 0, []⟩ (pieceN (actS f) j 32).size = ⟨6, 0, (j : Int) + 1, 0, 0, []⟩ := by
      unfold behindD
      rw [if_neg hsh]
      show (⟨6, 0, min ((j : Int) + 1) 16, 0, 0, []⟩ : FDev) = _
      rw [Int.min_eq_left (by omega)]
    refine (given (d := ⟨stAt j, 0, j, 0, 0, []⟩) (D := ⟨6, 0, (j : Int) + 1, 0, 0, []⟩) (at_ok he j (by omega)) (h1.trans h3) h2 rfl v w hv).mono ?_
    rintro r w' ⟨a, c, rfl, hI, hb⟩
    refine ⟨_, a, c, .inr ⟨by omega, by omega, ?_, rfl⟩, hI, hb⟩
    rw [hjoin, Nat.min_eq_left (by omega)]
theorem none_ok (f : ByteArray) (h : mayF f = false) : okU f newD 0 32 = false := by
  unfold okU bothB
  rw [h]
  rfl
theorem no_flash (f : ByteArray) (h : mayF f = false) (w : World) : Calls Try.prog 10 #[.string f, .agg #[.int .i64 0, .int .i64 0, .int .i64 0, .int .i64 0, .int .i64 0, .slice none 0 0], .int .i64 0, .int .i64 32] w fun r w' => ∃ a c, r = .returned (.tuple #[.agg #[.int .i64 0, .int .i64 0, .int .i64 0, .int .i64 0, .int .i64 0, .slice a 0 c], .string ⟨#[]⟩, .int .i64 2000]) ∧ IsSt w' (.slice a 0 c) [] ∧ Below w.heap.size w w' :=
  none_given (d := newD) (none_ok f h) _ w (isSt_nil w)
theorem no_active (f : ByteArray) (h : mayF f = true) (he : ¬ errA f = 0) (w : World) : Calls Try.prog 10 #[.string f, .agg #[.int .i64 0, .int .i64 0, .int .i64 0, .int .i64 0, .int .i64 0, .slice none 0 0], .int .i64 0, .int .i64 32] w fun r w' => ∃ a c, r = .returned (.tuple #[.agg #[.int .i64 7, .int .i64 2, .int .i64 0, .int .i64 0, .int .i64 0, .slice a 0 c], .string ⟨#[]⟩, .int .i64 0]) ∧ IsSt w' (.slice a 0 c) [] ∧ Below w.heap.size w w' :=
  given (d := newD) (D := failedD 2) (s := ⟨#[]⟩) (okU_parts.2 ⟨h, rfl, .inl rfl, by decide, by decide⟩) (told_none newD 0 32 he).1 (told_none newD 0 32 he).2 rfl _ w (isSt_nil w)
/-- No flash, none active, or one that is. -/
theorem three_ways (f : ByteArray) : (mayF f = false ∧ errA f = 700) ∨ (mayF f = true ∧ errA f = 701) ∨ errA f = 0 := by
  unfold errA
  cases mayF f with
  | false => exact .inl ⟨rfl, rfl⟩
  | true =>
    cases actO f with
    | none => exact .inr (.inl ⟨rfl, rfl⟩)
    | some p => exact .inr (.inr rfl)
set_option maxRecDepth 100000 in
set_option maxHeartbeats 4000000 in
theorem walk (a0 : ByteArray) (w0 : a0.size ≤ maxLen) (w : World) :
    Calls Try.prog 5 #[.string a0] w fun e w' => e = .returned (.bool true) ∧ Below w.heap.size w w' := by
  have hB : Below w.heap.size w w := Below.refl _ _
  have C1 := hide (fun w => refActive_any a0 w)
  have C2 := hide (fun w => refImage_any a0 (actV a0).pq (actV a0).pt (actV a0).pz (actV a0).pm w)
  have hSA : imgS a0 (actV a0).pq (actV a0).pt (actV a0).pz (actV a0).pm = actS a0 := rfl
  rw [hSA] at C2
  clear hSA
  have CN := hide (fun w => DevRef.newRef_any w)
  have br := DevWalk.build_d0
  rcases three_ways a0 with ⟨h0, he⟩ | ⟨h0, he⟩ | he
  · have G := hide (fun w => no_flash a0 h0 w)
    rw [he] at C1
    clear h0 he
    generalize errI (imgOk a0 (actV a0).pq (actV a0).pt (actV a0).pz (actV a0).pm) = E at *
    generalize actS a0 = S at *
    generalize actV a0 = P at *
    go_enter Try.func5, Try.ntmps5
    go_wp2_with (go_at_call 15; refine (UplAwake.awake_any _).mono ?_; rintro e w' ⟨rfl, hb⟩; replace hB := hB.trans (hb.mono hB.size); clear hb)
    refine (C1.out _).mono ?_; rintro e w1 ⟨rfl, hb⟩; replace hB := thenB hB hb; clear hb
    have hX := box5M w1 (.int .i64 P.pa) (.int .i64 P.pq) (.int .i64 P.pt) (.int .i64 P.pz) (.int .i64 P.pm) 43
    replace hB := thenB hB (hal w1 (.cells #[.int .i64 P.pa, .int .i64 P.pq, .int .i64 P.pt, .int .i64 P.pz, .int .i64 P.pm] 43))
    unfold Box5 at hX
    go_wp2_with fail
    refine (C2.out _).mono ?_; rintro e w2 ⟨rfl, hb⟩; replace hB := thenB hB hb; clear hb hX
    go_wp2_with fail
    refine (CN.out _).mono ?_; rintro e w3 ⟨rfl, hb⟩; replace hB := thenB hB hb; clear hb
    have hD := resM w3 (.int .i64 0) (.int .i64 0) (.int .i64 0) (.int .i64 0) (.int .i64 0) (.slice none 0 0) 24
    replace hB := thenB hB (hal w3 (.cells #[.int .i64 0, .int .i64 0, .int .i64 0, .int .i64 0, .int .i64 0, .slice none 0 0] 24))
    go_upto_region 6 with fail
    generalize w3.alloc _ = W3 at *
    generalize w3.heap.size = G3 at *
    go_wp2
    go_loopw [8, 9] (fun s x wr => s = .string ⟨#[]⟩ ∧ x = .int .i64 0 ∧ wr = W3) (fun _ _ _ => 0)
    case atStart => exact ⟨rfl, rfl, rfl⟩
    case round =>
      obtain ⟨rfl, rfl, rfl⟩ := hrel
      go_wp2_with fail
      refine (G.out _).mono ?_; rintro e w4 ⟨sa, sc, rfl, _, hb⟩; replace hB := thenB hB hb; clear hb
      replace hB := thenB hB (hal w4 (.cells #[.int .i64 0, .int .i64 0, .int .i64 0, .int .i64 0, .int .i64 0, .slice sa 0 sc] 24))
      go_wp2_with (go_at_call 13; refine (num_any _ _).mono ?_; rintro e w' ⟨rfl, rfl⟩)
      go_ret
      exact ⟨rfl, hB⟩
  · have G := hide (fun w => no_active a0 h0 (by omega) w)
    rw [he] at C1
    clear h0 he
    generalize errI (imgOk a0 (actV a0).pq (actV a0).pt (actV a0).pz (actV a0).pm) = E at *
    generalize actS a0 = S at *
    generalize actV a0 = P at *
    go_enter Try.func5, Try.ntmps5
    go_wp2_with (go_at_call 15; refine (UplAwake.awake_any _).mono ?_; rintro e w' ⟨rfl, hb⟩; replace hB := hB.trans (hb.mono hB.size); clear hb)
    refine (C1.out _).mono ?_; rintro e w1 ⟨rfl, hb⟩; replace hB := thenB hB hb; clear hb
    have hX := box5M w1 (.int .i64 P.pa) (.int .i64 P.pq) (.int .i64 P.pt) (.int .i64 P.pz) (.int .i64 P.pm) 43
    replace hB := thenB hB (hal w1 (.cells #[.int .i64 P.pa, .int .i64 P.pq, .int .i64 P.pt, .int .i64 P.pz, .int .i64 P.pm] 43))
    unfold Box5 at hX
    go_wp2_with fail
    refine (C2.out _).mono ?_; rintro e w2 ⟨rfl, hb⟩; replace hB := thenB hB hb; clear hb hX
    go_wp2_with fail
    refine (CN.out _).mono ?_; rintro e w3 ⟨rfl, hb⟩; replace hB := thenB hB hb; clear hb
    have hD := resM w3 (.int .i64 0) (.int .i64 0) (.int .i64 0) (.int .i64 0) (.int .i64 0) (.slice none 0 0) 24
    replace hB := thenB hB (hal w3 (.cells #[.int .i64 0, .int .i64 0, .int .i64 0, .int .i64 0, .int .i64 0, .slice none 0 0] 24))
    go_upto_region 6 with fail
    generalize w3.alloc _ = W3 at *
    generalize w3.heap.size = G3 at *
    go_wp2
    go_loopw [8, 9] (fun s x wr => s = .string ⟨#[]⟩ ∧ x = .int .i64 0 ∧ wr = W3) (fun _ _ _ => 0)
    case atStart => exact ⟨rfl, rfl, rfl⟩
    case round =>
      obtain ⟨rfl, rfl, rfl⟩ := hrel
      go_wp2_with fail
      refine (G.out _).mono ?_; rintro e w4 ⟨sa, sc, rfl, _, hb⟩; replace hB := thenB hB hb; clear hb
      have hQ := resM w4 (.int .i64 7) (.int .i64 2) (.int .i64 0) (.int .i64 0) (.int .i64 0) (.slice sa 0 sc) 24
      replace hB := thenB hB (hal w4 (.cells #[.int .i64 7, .int .i64 2, .int .i64 0, .int .i64 0, .int .i64 0, .slice sa 0 sc] 24))
      go_wp2_with (go_at_call 13; refine (num_any _ _).mono ?_; rintro e w' ⟨rfl, rfl⟩)
      go_ret
      exact ⟨rfl, hB⟩
  · have HR := hide fun (j : Nat) (h9 : j ≤ 9) (hj : 32 * j ≤ (actS a0).size) v w hv => round he h9 hj v w hv
    have hz := size_actS a0
    rw [he] at C1
    clear he
    have hS0 : Hid ((actS a0).extract 0 (32 * 0) = ⟨#[]⟩) := DnlWalk.text_none (by rw [ByteArray.size_extract]; omega)
    generalize errI (imgOk a0 (actV a0).pq (actV a0).pt (actV a0).pz (actV a0).pm) = E at *
    generalize actS a0 = S at *
    generalize actV a0 = P at *
    have C5 := hide fun v w' h => sameDev_yes ⟨0, 0, 0, 0, 0, []⟩ v (.slice none 0 0) w' h (isSt_nil w')
    dsimp only at C5
    go_enter Try.func5, Try.ntmps5
    go_wp2_with (go_at_call 15; refine (UplAwake.awake_any _).mono ?_; rintro e w' ⟨rfl, hb⟩; replace hB := hB.trans (hb.mono hB.size); clear hb)
    refine (C1.out _).mono ?_; rintro e w1 ⟨rfl, hb⟩; replace hB := thenB hB hb; clear hb
    have hX := box5M w1 (.int .i64 P.pa) (.int .i64 P.pq) (.int .i64 P.pt) (.int .i64 P.pz) (.int .i64 P.pm) 43
    replace hB := thenB hB (hal w1 (.cells #[.int .i64 P.pa, .int .i64 P.pq, .int .i64 P.pt, .int .i64 P.pz, .int .i64 P.pm] 43))
    unfold Box5 at hX
    go_wp2_with fail
    refine (C2.out _).mono ?_; rintro e w2 ⟨rfl, hb⟩; replace hB := thenB hB hb; clear hb hX
    go_wp2_with fail
    refine (CN.out _).mono ?_; rintro e w3 ⟨rfl, hb⟩; replace hB := thenB hB hb; clear hb
    have hD := resM w3 (.int .i64 0) (.int .i64 0) (.int .i64 0) (.int .i64 0) (.int .i64 0) (.slice none 0 0) 24
    have hG : w.heap.size ≤ w3.heap.size := hB.size
    replace hB := thenB hB (hal w3 (.cells #[.int .i64 0, .int .i64 0, .int .i64 0, .int .i64 0, .int .i64 0, .slice none 0 0] 24))
    clear C1 C2 CN
    go_upto_region 6 with fail
    generalize w3.alloc _ = W3 at *
    generalize w3.heap.size = G3 at *
    go_wp2
    go_loopw [8, 9] (fun s x wr => ∃ j : Nat, j ≤ 9 ∧ 32 * j ≤ S.size ∧ x = .int .i64 j ∧ s = .string (S.extract 0 (32 * j)) ∧ Below w.heap.size w wr ∧ ∃ a c, Res wr G3 (.int .i64 (stAt j)) (.int .i64 0) (.int .i64 j) (.int .i64 0) (.int .i64 0) (.slice a 0 c) ∧ IsSt wr (.slice a 0 c) []) (fun _ x _ => 9 - (intOf x).toNat)
    case atStart => exact ⟨0, by omega, by omega, rfl, by rw [hS0.out], hB, none, 0, hD, isSt_nil _⟩
    case round =>
      obtain ⟨j, hj, hj2, rfl, rfl, hbel, a, c, hR, hI⟩ := hrel
      have HJ := HR.out j hj hj2
      have h12 : (j : Int) < 12 := by omega
      have hsz : (S.extract 0 (32 * j)).size ≤ 288 := by rw [ByteArray.size_extract]; omega
      have hN : Hid (stAt (j + 1) = 6) := stAt_succ j
      generalize stAt j = Y at *
      clear hB hD hS0 HR
      go_wp2_with fail
      refine (HJ _ _ hI).mono ?_
      rintro e w4 ⟨T, a4, c4, hcase, hI4, hb⟩
      replace hbel := thenB hbel hb
      replace hR := resB hR hb
      clear hb HJ hI
      rcases hcase with ⟨h1, h2, rfl⟩ | ⟨h1, h2, h3, rfl⟩
      · have hQ := resM w4 (.int .i64 0) (.int .i64 0) (.int .i64 0) (.int .i64 0) (.int .i64 0) (.slice a4 0 c4) 24
        have hn := hal w4 (.cells #[.int .i64 0, .int .i64 0, .int .i64 0, .int .i64 0, .int .i64 0, .slice a4 0 c4] 24)
        replace hbel := thenB hbel hn
        replace hI4 := hI4.below hn
        clear hn hR
        go_upto_region 11 with fail
        generalize w4.alloc _ = W4 at *
        generalize w4.heap.size = G4 at *
        have q1 : ¬ 9223372036854775807 < (S.extract 0 (32 * j)).size + T.size := by omega
        have t1 : decide ((32 : Int) < (T.size : Int)) = false := decide_eq_false (by omega)
        have t2 : decide ((T.size : Int) < 32) = true := decide_eq_true (by omega)
        have t3 : ((T.size : Int) == 32) = false := DnlWalk.eq_f (by omega)
        have e1 : ((S.extract 0 (32 * j) ++ T).toList == S.toList) = true := by rw [h2]; exact beq_self_eq_true _
        clear h1 h2 hN
        generalize S.extract 0 (32 * j) = GJ at *
        go_wp2_with (go_at_call 13; refine (num_any _ _).mono ?_; rintro e w' ⟨rfl, rfl⟩)
        refine (C5.out _ _ hI4).mono ?_; rintro e w5 ⟨rfl, hb⟩; replace hbel := thenB hbel hb; clear hb
        go_wp2_with fail
        go_ret
        exact ⟨rfl, hbel⟩
      · have hQ := resM w4 (.int .i64 6) (.int .i64 0) (.int .i64 ((j : Int) + 1)) (.int .i64 0) (.int .i64 0) (.slice a4 0 c4) 24
        have hn := hal w4 (.cells #[.int .i64 6, .int .i64 0, .int .i64 ((j : Int) + 1), .int .i64 0, .int .i64 0, .slice a4 0 c4] 24)
        replace hbel := thenB hbel hn
        replace hI4 := hI4.below hn
        replace hR := resB hR hn
        clear hn
        go_upto_region 11 with fail
        generalize w4.alloc _ = W4 at *
        generalize w4.heap.size = G4 at *
        have q1 : ¬ 9223372036854775807 < (S.extract 0 (32 * j)).size + T.size := by omega
        have t1 : decide ((32 : Int) < (T.size : Int)) = false := decide_eq_false (by omega)
        have t2 : decide ((T.size : Int) < 32) = false := decide_eq_false (by omega)
        have t3 : ((T.size : Int) == 32) = true := beq_iff_eq.2 (by omega)
        have HX := hide h3
        have hj3 : j + 1 ≤ 9 := by omega
        have HB := hide hbel
        have HI := hide hI4
        clear h1 h3 hbel hI4
        generalize S.extract 0 (32 * j) = GJ at *
        go_wp2_with (go_at_call 13; refine (num_any _ _).mono ?_; rintro e w' ⟨rfl, rfl⟩)
        refine ⟨⟨j + 1, hj3, h2, by go_num, by rw [HX.out], set6 HB.out hG, a4, c4, ?_, ?_⟩, by simp [intOf]; omega⟩
        · rw [hN.out, show ((j + 1 : Nat) : Int) = (j : Int) + 1 from rfl]
          exact res6 hR _ _ _ _ _ _
        · exact isSt_any HI.out

set_option maxRecDepth 100000 in
theorem lifted (os : Os) (started : os.Started) (H : Type) (enc : TypeId × Value → H) :
    ReturnsInHanded {} Try.checked os 5 .any (Rows.uploadAllSpec.pre6 enc Try.prog Try.f5 Rows.uploadAllRow.domain false) (Rows.uploadAllSpec.post enc Try.prog Try.f5 false true false false) := by
  refine returnsInHanded_of_change (C := Try.checked) own started (by kernel_rfl) Try.func5
    (ChangeSpec.witness6 (enc := enc) (C := Try.checked) false ⟨#[], #[.string ByteArray.empty], []⟩ 8 (by kernel_rfl) (by kernel_rfl) (by kernel_rfl) (by kernel_rfl)) ?_
  intro W base args ds gs before hval0 hW hcnd _
  have hval : ∀ (j : Nat) t v, Try.f5.params[j]? = some t → args[j]? = some v → Value.okWide Try.prog W .any base t v := hval0
  have hW' := hW
  obtain ⟨p, q, hA0, hV, rfl, hfz, hnd⟩ := hW
  have hA : DataW.TrodAll enc Try.prog W 0 (fun _ => true) true Try.f5.params.toList args.toList ds p := hA0
  rw [Try.params5] at hA hval
  obtain ⟨v0, vs0, d0, ds0, p0, q0, hargs, rfl, rfl, h0, r0⟩ := trodAll_cons hA
  obtain ⟨rfl, rfl, rfl⟩ := trodAll_nil r0
  obtain rfl : args = #[v0] := by cases args; simp_all
  obtain ⟨rfl, rfl⟩ := trodVars_none hV
  obtain ⟨a0, rfl, rfl, rfl, w0⟩ := open_string Try.underlying9 (hval 0 9 v0 rfl rfl) h0
  clear hA0 hval0
  refine (walk a0 w0 W).mono fun e W' ⟨he, bel⟩ => ?_
  subst he
  exact ⟨_, rfl, _, _, _, [], _, [], hW', (trodAll_cons_mk (shut_bool Try.underlying4 _) trodAll_mk0), (trodAll_cons_mk (shut_string Try.underlying9 w0) trodAll_mk0), rfl, bel.frame _, fun h => by cases h⟩

theorem over : Rows.uploadAllRow.holds Try.pinned (OpenSpec.ofChange Rows.uploadAllSpec) :=
  OpenClaim.holds_of_wide 5 Try.f5 rfl rfl rfl rfl rfl rfl rfl ⟨rfl, rfl, rfl, rfl, rfl⟩ rfl rfl rfl rfl rfl (by kernel_rfl) Try.func5 (by kernel_rfl)
    (of_decide_eq_true (by kernel_rfl)) (by unfold Func.isWrapper; first | (rw [if_pos (by decide +kernel)]; kernel_rfl) | (rw [if_neg (by decide +kernel)]; exact ⟨rfl, rfl⟩))
    (fun os started H enc _ => lifted os started H enc)

theorem proved : Rows.UploadAllSaid :=
  over
#print axioms proved
end Go.Proofs.Ythcknngmpcepfaa.uploadAll
