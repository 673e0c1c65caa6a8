/- Whatever the flash, the state, the place and the text: the law TickAll returns true (as many ticks as there are steps do all of them, in their row, and then it goes on), and the arguments read as they did; no condition. -/
import Derived.Test.YtmbgdidelbkdgaaRows
import Derived.Test.YtmbgdidelbkdgaaBagNor
import Derived.Test.YtmbgdidelbkdgaaBagOps
import Derived.Test.YtmbgdidelbkdgaaBagDev
import Derived.Test.YtmbgdidelbkdgaaTicMath
import Derived.Test.YtmbgdidelbkdgaaTicRow
import Derived.Test.YtmbgdidelbkdgaaTicStep
import Derived.Test.YtmbgdidelbkdgaaTicCut
import Derived.Test.YtmbgdidelbkdgaaTicDoes
import Derived.Test.YtmbgdidelbkdgaaTicAwake
import Derived.Deep.Cut
import Derived.ChangeOld
import Derived.Below
import Derived.WalkKit
import Derived.ProofKit
import Derived.OpenShut
import Derived.ShutString
namespace Go.Proofs.Ytmbgdidelbkdgaa.tickAll
open Go.ChangeShapes Go.WideShapes Go.ChangeAt Go.RowKit
open Go.ChangeMaps (open_string shut_string)
set_option linter.unusedVariables false

open Go.Proofs.Ytmbgdidelbkdgaa.Bytes
open Go.Proofs.Ytmbgdidelbkdgaa.Ops
open Go.Proofs.Ytmbgdidelbkdgaa.Jou
open Go.Proofs.Ytmbgdidelbkdgaa.Held
open Go.Proofs.Ytmbgdidelbkdgaa.Dev
open Go.Proofs.Ytmbgdidelbkdgaa.DevRow
open Go.Proofs.Ytmbgdidelbkdgaa.DevSet
open Go.Proofs.Ytmbgdidelbkdgaa.DevHelp
open Go.Proofs.Ytmbgdidelbkdgaa.DevAwake
open Go.Proofs.Ytmbgdidelbkdgaa.Dnl
open Go.Proofs.Ytmbgdidelbkdgaa.DnlDoes
open Go.Proofs.Ytmbgdidelbkdgaa.Tic
open Go.Proofs.Ytmbgdidelbkdgaa.TicRow
theorem own : ownKnob Try.prog.godebug = none := by kernel_rfl

theorem build_sog (s g : Int) (a : Option Addr) (n c : Nat) (w : World) : (Instr.build 24 #[(0, .int .i64 s), (5, .slice a n c), (3, .int .i64 g)]).run Try.prog w = .ok (.agg #[.int .i64 s, .int .i64 0, .int .i64 0, .int .i64 g, .int .i64 0, .slice a n c]) w := run_build w 24 _ _ (by kernel_rfl)
theorem build_sg (s g : Int) (w : World) : (Instr.build 24 #[(0, .int .i64 s), (3, .int .i64 g)]).run Try.prog w = .ok (.agg #[.int .i64 s, .int .i64 0, .int .i64 0, .int .i64 g, .int .i64 0, .slice none 0 0]) w := run_build w 24 _ _ (by kernel_rfl)
/-- One round: the document's Do and the tick. -/
theorem round {s : Int} (hs : s = 2 ∨ s = 5) {L : List FOp} (hm : mayAll L = true) (hl : L.length ≤ 768) {f : ByteArray} (hf : f.size = 768) {j : Nat} (hj : j < L.length) :
    (∀ w : World, Calls Try.prog 20 #[.string (doL f (L.take j)), .agg #[.bool L[j].er, .int .i64 L[j].pl, .string L[j].tx]] w fun r w' => ∃ e, r = .returned (.tuple #[.string (doL f (L.take (j + 1))), .int .i64 e]) ∧ Below w.heap.size w w') ∧
    (∀ v w, IsSt w v (L.drop j) → Calls Try.prog 10 #[.string (doL f (L.take j)), .agg #[.int .i64 s, .int .i64 0, .int .i64 0, .int .i64 5, .int .i64 0, v]] w fun r w' => ∃ D : FDev, (j + 1 < L.length → D = ⟨s, 0, 0, 5, 0, L.drop (j + 1)⟩) ∧ (¬ j + 1 < L.length → D = setD ⟨s, 0, 0, 5, 0, []⟩) ∧ ∃ u, r = .returned (.tuple #[.string (doL f (L.take (j + 1))), .agg #[.int .i64 D.sa, .int .i64 D.su, .int .i64 D.nx, .int .i64 D.gt, .int .i64 D.sl, u], .int .i64 0]) ∧ OwnSt w' w.heap.size u D.ops ∧ Below w.heap.size w w') := by
  have hsz := do_size (L.take j) f hf (may_take hm j)
  have e := doL_take f L j hj
  obtain ⟨t1, t2, t3, t4, _⟩ := TicDoes.at_step (f := doL f (L.take j)) hs (g := 5) (by omega) (by omega) hm hl hsz hj
  refine ⟨fun w => ?_, fun v w hv => ?_⟩
  · rw [e]
    refine (OpsRef.refDo_any _ _ _ _ w).mono ?_
    rintro r w' ⟨rfl, hb⟩
    exact ⟨_, rfl, hb⟩
  · have g := TicCut.step_any (doL f (L.take j)) ⟨s, 0, 0, 5, 0, L.drop j⟩ v w hv
    rw [t1, t2, ← e] at g
    refine g.mono ?_
    rintro r w' ⟨u, rfl, ho, hb⟩
    exact ⟨_, t3, t4, u, rfl, ho, hb⟩
theorem ways (f t : ByteArray) (k : Int) : wordsOk k t = false ∨ (wordsOk k t = true ∧ ((f.size : Int) != 768) = true) ∨ (wordsOk k t = true ∧ f.size = 768 ∧ (wordsL k t).length = 0) ∨ (wordsOk k t = true ∧ f.size = 768 ∧ 1 ≤ (wordsL k t).length) := by
  cases hw : wordsOk k t with
  | false => exact .inl rfl
  | true =>
    by_cases hf : f.size = 768
    · by_cases hl : (wordsL k t).length = 0
      · exact .inr (.inr (.inl ⟨rfl, hf, hl⟩))
      · exact .inr (.inr (.inr ⟨rfl, hf, by omega⟩))
    · exact .inr (.inl ⟨rfl, bne_iff_ne.2 (by omega)⟩)
theorem few {k : Int} {t : ByteArray} (h : wordsOk k t = true) : (wordsL k t).length ≤ 192 := by
  rw [wordsL_ok h, length_wordsTo]
  have := wordsOk_parts.1 h
  unfold wordsN
  omega
set_option maxRecDepth 100000 in
set_option maxHeartbeats 4000000 in
theorem walk (a0 : ByteArray) (a1 : Bool) (a2 : Int) (a3 : ByteArray) (w0 : a0.size ≤ maxLen) (w2 : (Lit.int .i64 a2).wf = true) (w3 : a3.size ≤ maxLen) (w : World) :
    Calls Try.prog 5 #[.string a0, .bool a1, .int .i64 a2, .string a3] w fun e w' => e = .returned (.bool true) ∧ Below w.heap.size w w' := by
  have hB : Below w.heap.size w w := Below.refl _ _
  obtain ⟨k, hk, mk⟩ : ∃ k : Nat, k ≤ 1020 ∧ bits .and .i64 a2 1020 = (k : Int) := mask_i64 a2 1020 (by omega)
  have C0 := hide (fun w => OpsHelp.refWords_any (k : Int) a3 w)
  have e0 : errO true = 0 := rfl
  have e1 : errO false = 300 := rfl
  rcases ways a0 a3 (k : Int) with hw | ⟨hw, hf⟩ | ⟨hw, hf, hn⟩ | ⟨hw, hf, hn⟩
  iterate 2
    · rw [hw] at C0
      clear hw
      generalize wordsL (k : Int) a3 = L at *
      go_enter Try.func5, Try.ntmps5
      go_wp2_with (go_at_call 17; refine (TicAwake.awake_any _).mono ?_; rintro e w' ⟨rfl, hb⟩; replace hB := hB.trans (hb.mono hB.size); clear hb)
      refine (C0.out _).mono ?_; rintro e w1 ⟨v, rfl, hown, hb⟩; replace hB := thenB hB hb; clear hb
      obtain ⟨p1, q1, rfl⟩ := DnlCopy.owns_form hown
      go_wp2_with fail
      go_ret
      exact ⟨rfl, hB⟩
  · rw [hw] at C0
    clear hw
    generalize wordsL (k : Int) a3 = L at *
    rw [hn] at C0
    have hf1 : ((a0.size : Int) != 768) = false := by rw [hf]; rfl
    clear hf hn
    go_enter Try.func5, Try.ntmps5
    go_wp2_with (go_at_call 17; refine (TicAwake.awake_any _).mono ?_; rintro e w' ⟨rfl, hb⟩; replace hB := hB.trans (hb.mono hB.size); clear hb)
    refine (C0.out _).mono ?_; rintro e w1 ⟨v, rfl, hown, hb⟩; replace hB := thenB hB hb; clear hb
    obtain ⟨p1, q1, rfl⟩ := DnlCopy.owns_form hown
    go_wp2_with fail
    go_ret
    exact ⟨rfl, hB⟩
  have hfew := few hw
  have hm : mayAll (wordsL (k : Int) a3) = true := may_words
  rw [hw] at C0
  clear hw
  have hf1 : ((a0.size : Int) != 768) = false := by rw [hf]; rfl
  generalize wordsL (k : Int) a3 = L at *
  have HR := hide fun (s : Int) (hs : s = 2 ∨ s = 5) (j : Nat) (hj : j < L.length) => round hs hm (by omega) hf hj
  have G0 : doL a0 (L.take 0) = a0 := by rw [List.take_zero]; rfl
  have hD := fun j => List.length_drop (i := j) (l := L)
  obtain ⟨G, hG⟩ : ∃ G : Nat → ByteArray, ∀ j, doL a0 (L.take j) = G j := ⟨_, fun _ => rfl⟩
  simp only [hG] at HR G0
  have HD : Hid (∀ j, (L.drop j).length = L.length - j) := hD
  have HN : Hid (L.drop 0 = L) := List.drop_zero
  clear hf hm hG hD
  obtain ⟨n, hnn⟩ : ∃ n : Nat, L.length = n := ⟨_, rfl⟩
  rw [hnn] at C0 HD hn hfew
  have bs := build_sog
  have bg := build_sg
  have br := DevWalk.build_d0
  have hn1 : ((n : Int) == 0) = false := by rw [beq_eq_false_iff_ne]; omega
  have HL := hide hnn
  clear hnn
  cases a1
  · clear hk
    have C5 := hide fun v w' h => sameDev_yes ⟨1, 0, 0, 5, 0, []⟩ v (.slice none 0 0) w' h (isSt_nil w')
    dsimp only at C5
    go_enter Try.func5, Try.ntmps5
    go_wp2_with (go_at_call 17; refine (TicAwake.awake_any _).mono ?_; rintro e w' ⟨rfl, hb⟩; replace hB := hB.trans (hb.mono hB.size); clear hb)
    refine (C0.out _).mono ?_; rintro e w1 ⟨v, rfl, hown, hb⟩; replace hB := thenB hB hb; clear hb C0
    obtain ⟨b, cap, rfl, hc1, hc2⟩ := hown.form (by omega)
    obtain ⟨hq, hlt0, hin⟩ := OpsRow.owns_in hown
    clear hq
    have hIs := ownsS_is hown
    clear hown
    have hRB := resM w1 (.int .i64 2) (.int .i64 0) (.int .i64 0) (.int .i64 5) (.int .i64 0) (.slice (some ⟨b, 0, none⟩) n cap) 24
    have hn0 := hal w1 (.cells #[.int .i64 2, .int .i64 0, .int .i64 0, .int .i64 5, .int .i64 0, .slice (some ⟨b, 0, none⟩) n cap] 24)
    have hI0 := hIs.below hn0
    clear hIs
    go_upto_region 10 with fail
    clear e0 e1 bs hf1 hn1
    have HB := hide hB
    clear hB
    generalize w1.alloc _ = W1 at *
    obtain ⟨B, hBB⟩ : ∃ B : Nat, w1.heap.size = B := ⟨_, rfl⟩
    rw [hBB] at hRB hn0 hlt0 ⊢
    have hBl := Nat.le_of_eq hBB.symm
    have HBB := hide hBB
    clear hBB
    go_wp2_with fail
    go_loopw [0, 12, 13] (fun s0 s12 x wr => ∃ j : Nat, j ≤ n ∧ x = .int .i64 j ∧ s0 = .string (G j) ∧ s12 = .string (G j) ∧ Below B w1 wr ∧ ((j < n ∧ ∃ a c, Res wr B (.int .i64 2) (.int .i64 0) (.int .i64 0) (.int .i64 5) (.int .i64 0) (.slice a (n - j) c) ∧ IsSt wr (.slice a (n - j) c) (L.drop j)) ∨ (j = n ∧ ∃ a c, Res wr B (.int .i64 1) (.int .i64 0) (.int .i64 0) (.int .i64 5) (.int .i64 0) (.slice a 0 c) ∧ IsSt wr (.slice a 0 c) []))) (fun _ _ x _ => n - (intOf x).toNat)
    case atStart => exact ⟨0, Nat.zero_le _, rfl, by rw [G0], by rw [G0], hn0, .inl ⟨by omega, _, _, hRB, by rw [HN.out]; exact hI0⟩⟩
    case round =>
      obtain ⟨j, hj, rfl, rfl, rfl, hbel, hcase⟩ := hrel
      clear hRB hI0 hn0 G0
      by_cases hlt : j < n
      · rcases hcase with ⟨_, a, c, hX, hI⟩ | ⟨h, _⟩
        · obtain ⟨r1, r2⟩ := HR.out 2 (by omega) j (by rw [HL.out]; exact hlt)
          have hinw := hin.below (B := B) hbel (by omega)
          have q0 := hinw.er j (by rw [HL.out]; exact hlt)
          have q1 := hinw.pl j (by rw [HL.out]; exact hlt)
          have q2 := hinw.tx j (by rw [HL.out]; exact hlt)
          generalize (L[j]'(by rw [HL.out]; exact hlt)).er = E at *
          generalize (L[j]'(by rw [HL.out]; exact hlt)).pl = A at *
          generalize (L[j]'(by rw [HL.out]; exact hlt)).tx = T at *
          have R1 := hide r1
          have R2 := hide r2
          clear r1 r2 hin hinw HR
          have hsB := Nat.le_of_lt hX.1
          go_wp2_with fail
          refine (R1.out _).mono ?_; rintro e u2 ⟨ee, rfl, hb⟩; replace hbel := hbel.trans (hb.mono hsB); replace hX := resB hX hb; replace hI := hI.below hb; clear hb R1 q0 q1 q2
          have hlt2 : B < u2.heap.size := hX.1
          go_upto_region 14 with fail
          go_wp2_with fail
          refine (R2.out _ _ hI).mono ?_; rintro e u3 ⟨D, hD1, hD2, u, rfl, ho, hb⟩; replace hbel := hbel.trans (hb.mono (Nat.le_of_lt hlt2)); replace hX := resB hX hb; clear hb hI R2
          by_cases h1 : j + 1 < n
          · obtain rfl := hD1 (by rw [HL.out]; exact h1)
            clear hD1 hD2
            dsimp only at ho ⊢
            obtain ⟨m, hmm⟩ : ∃ m : Nat, n - (j + 1) = m := ⟨_, rfl⟩
            obtain ⟨p2, q2, hv⟩ := ho.form
            rw [HD.out (j + 1), hmm] at hv
            subst hv
            have hm1 : ((m : Int) != (n : Int) - 1 - (j : Int)) = false := by rw [bne_eq_false_iff_eq]; omega
            have hg1 : (j : Int) < (n : Int) - 1 := by omega
            have HM := hide hmm
            clear hmm
            have hA := resM u3 (.int .i64 2) (.int .i64 0) (.int .i64 0) (.int .i64 5) (.int .i64 0) (.slice p2 m q2) 24
            have hn0 := hal u3 (.cells #[.int .i64 2, .int .i64 0, .int .i64 0, .int .i64 5, .int .i64 0, .slice p2 m q2] 24)
            replace hbel := hbel.trans (hn0.mono (Nat.le_of_lt hX.1))
            replace hX := resB hX hn0
            replace ho := ho.below hn0
            clear hn0
            go_upto_region 15 with fail
            generalize u3.alloc _ = W3 at *
            generalize u3.heap.size = G3 at *
            have HO := hide ho
            have HE := hide hbel
            clear ho hbel
            go_wp2_with (go_at_call 15; refine (num_any _ _).mono ?_; rintro e w' ⟨rfl, rfl⟩)
            exact ⟨⟨j + 1, by omega, by go_num, rfl, rfl, set6 HE.out (Nat.le_refl B), .inl ⟨h1, p2, q2, by rw [HM.out]; exact res6 hX (.int .i64 2) (.int .i64 0) (.int .i64 0) (.int .i64 5) (.int .i64 0) (.slice p2 m q2), by rw [HM.out]; exact (HO.out.set6 hlt2 (.int .i64 2) (.int .i64 0) (.int .i64 0) (.int .i64 5) (.int .i64 0) (.slice p2 m q2)).is⟩⟩, by simp [intOf]; omega⟩
          · have hE := hD2 (by rw [HL.out]; exact h1)
            rw [TicDoes.set2] at hE
            skip
            subst hE
            clear hD1 hD2
            dsimp only at ho ⊢
            obtain ⟨p2, q2, hv⟩ := ho.form
            rw [show ([] : List FOp).length = 0 from rfl] at hv
            subst hv
            have hm1 : ((0 : Int) != (n : Int) - 1 - (j : Int)) = false := by rw [bne_eq_false_iff_eq]; omega
            have hg1 : decide ((j : Int) < (n : Int) - 1) = false := decide_eq_false (by omega)
            have hA := resM u3 (.int .i64 1) (.int .i64 0) (.int .i64 0) (.int .i64 5) (.int .i64 0) (.slice p2 0 q2) 24
            have hn0 := hal u3 (.cells #[.int .i64 1, .int .i64 0, .int .i64 0, .int .i64 5, .int .i64 0, .slice p2 0 q2] 24)
            replace hbel := hbel.trans (hn0.mono (Nat.le_of_lt hX.1))
            replace hX := resB hX hn0
            replace ho := ho.below hn0
            clear hn0
            go_upto_region 15 with fail
            generalize u3.alloc _ = W3 at *
            generalize u3.heap.size = G3 at *
            have HO := hide ho
            have HE := hide hbel
            clear ho hbel
            go_wp2_with (go_at_call 15; refine (num_any _ _).mono ?_; rintro e w' ⟨rfl, rfl⟩)
            exact ⟨⟨j + 1, by omega, by go_num, rfl, rfl, set6 HE.out (Nat.le_refl B), .inr ⟨by omega, p2, q2, res6 hX (.int .i64 1) (.int .i64 0) (.int .i64 0) (.int .i64 5) (.int .i64 0) (.slice p2 0 q2), (HO.out.set6 hlt2 (.int .i64 1) (.int .i64 0) (.int .i64 0) (.int .i64 5) (.int .i64 0) (.slice p2 0 q2)).is⟩⟩, by simp [intOf]; omega⟩
        · omega
      · rcases hcase with ⟨h, _⟩ | ⟨rfl, a, c, hX, hI⟩
        · omega
        · clear HR hin
          go_wp2_with fail
          refine (C5.out _ _ hI).mono ?_; rintro e u6 ⟨rfl, hb⟩
          have hb1 : Below w1.heap.size w1 wr := by rw [HBB.out]; exact hbel
          have hb2 := thenB (thenB HB.out hb1) hb
          clear hb hbel hX hI
          go_wp2_with fail
          go_ret
          exact ⟨rfl, hb2⟩
  · clear hk
    have C5 := hide fun v w' h => sameDev_yes ⟨0, 0, 0, 0, 0, []⟩ v (.slice none 0 0) w' h (isSt_nil w')
    dsimp only at C5
    go_enter Try.func5, Try.ntmps5
    go_wp2_with (go_at_call 17; refine (TicAwake.awake_any _).mono ?_; rintro e w' ⟨rfl, hb⟩; replace hB := hB.trans (hb.mono hB.size); clear hb)
    refine (C0.out _).mono ?_; rintro e w1 ⟨v, rfl, hown, hb⟩; replace hB := thenB hB hb; clear hb C0
    obtain ⟨b, cap, rfl, hc1, hc2⟩ := hown.form (by omega)
    obtain ⟨hq, hlt0, hin⟩ := OpsRow.owns_in hown
    clear hq
    have hIs := ownsS_is hown
    clear hown
    have hRB := resM w1 (.int .i64 5) (.int .i64 0) (.int .i64 0) (.int .i64 5) (.int .i64 0) (.slice (some ⟨b, 0, none⟩) n cap) 24
    have hn0 := hal w1 (.cells #[.int .i64 5, .int .i64 0, .int .i64 0, .int .i64 5, .int .i64 0, .slice (some ⟨b, 0, none⟩) n cap] 24)
    have hI0 := hIs.below hn0
    clear hIs
    go_upto_region 10 with fail
    clear e0 e1 bs hf1 hn1
    have HB := hide hB
    clear hB
    generalize w1.alloc _ = W1 at *
    obtain ⟨B, hBB⟩ : ∃ B : Nat, w1.heap.size = B := ⟨_, rfl⟩
    rw [hBB] at hRB hn0 hlt0 ⊢
    have hBl := Nat.le_of_eq hBB.symm
    have HBB := hide hBB
    clear hBB
    go_wp2_with fail
    go_loopw [0, 12, 13] (fun s0 s12 x wr => ∃ j : Nat, j ≤ n ∧ x = .int .i64 j ∧ s0 = .string (G j) ∧ s12 = .string (G j) ∧ Below B w1 wr ∧ ((j < n ∧ ∃ a c, Res wr B (.int .i64 5) (.int .i64 0) (.int .i64 0) (.int .i64 5) (.int .i64 0) (.slice a (n - j) c) ∧ IsSt wr (.slice a (n - j) c) (L.drop j)) ∨ (j = n ∧ ∃ a c, Res wr B (.int .i64 0) (.int .i64 0) (.int .i64 0) (.int .i64 0) (.int .i64 0) (.slice a 0 c) ∧ IsSt wr (.slice a 0 c) []))) (fun _ _ x _ => n - (intOf x).toNat)
    case atStart => exact ⟨0, Nat.zero_le _, rfl, by rw [G0], by rw [G0], hn0, .inl ⟨by omega, _, _, hRB, by rw [HN.out]; exact hI0⟩⟩
    case round =>
      obtain ⟨j, hj, rfl, rfl, rfl, hbel, hcase⟩ := hrel
      clear hRB hI0 hn0 G0
      by_cases hlt : j < n
      · rcases hcase with ⟨_, a, c, hX, hI⟩ | ⟨h, _⟩
        · obtain ⟨r1, r2⟩ := HR.out 5 (by omega) j (by rw [HL.out]; exact hlt)
          have hinw := hin.below (B := B) hbel (by omega)
          have q0 := hinw.er j (by rw [HL.out]; exact hlt)
          have q1 := hinw.pl j (by rw [HL.out]; exact hlt)
          have q2 := hinw.tx j (by rw [HL.out]; exact hlt)
          generalize (L[j]'(by rw [HL.out]; exact hlt)).er = E at *
          generalize (L[j]'(by rw [HL.out]; exact hlt)).pl = A at *
          generalize (L[j]'(by rw [HL.out]; exact hlt)).tx = T at *
          have R1 := hide r1
          have R2 := hide r2
          clear r1 r2 hin hinw HR
          have hsB := Nat.le_of_lt hX.1
          go_wp2_with fail
          refine (R1.out _).mono ?_; rintro e u2 ⟨ee, rfl, hb⟩; replace hbel := hbel.trans (hb.mono hsB); replace hX := resB hX hb; replace hI := hI.below hb; clear hb R1 q0 q1 q2
          have hlt2 : B < u2.heap.size := hX.1
          go_upto_region 14 with fail
          go_wp2_with fail
          refine (R2.out _ _ hI).mono ?_; rintro e u3 ⟨D, hD1, hD2, u, rfl, ho, hb⟩; replace hbel := hbel.trans (hb.mono (Nat.le_of_lt hlt2)); replace hX := resB hX hb; clear hb hI R2
          by_cases h1 : j + 1 < n
          · obtain rfl := hD1 (by rw [HL.out]; exact h1)
            clear hD1 hD2
            dsimp only at ho ⊢
            obtain ⟨m, hmm⟩ : ∃ m : Nat, n - (j + 1) = m := ⟨_, rfl⟩
            obtain ⟨p2, q2, hv⟩ := ho.form
            rw [HD.out (j + 1), hmm] at hv
            subst hv
            have hm1 : ((m : Int) != (n : Int) - 1 - (j : Int)) = false := by rw [bne_eq_false_iff_eq]; omega
            have hg1 : (j : Int) < (n : Int) - 1 := by omega
            have HM := hide hmm
            clear hmm
            have hA := resM u3 (.int .i64 5) (.int .i64 0) (.int .i64 0) (.int .i64 5) (.int .i64 0) (.slice p2 m q2) 24
            have hn0 := hal u3 (.cells #[.int .i64 5, .int .i64 0, .int .i64 0, .int .i64 5, .int .i64 0, .slice p2 m q2] 24)
            replace hbel := hbel.trans (hn0.mono (Nat.le_of_lt hX.1))
            replace hX := resB hX hn0
            replace ho := ho.below hn0
            clear hn0
            go_upto_region 15 with fail
            generalize u3.alloc _ = W3 at *
            generalize u3.heap.size = G3 at *
            have HO := hide ho
            have HE := hide hbel
            clear ho hbel
            go_wp2_with (go_at_call 15; refine (num_any _ _).mono ?_; rintro e w' ⟨rfl, rfl⟩)
            exact ⟨⟨j + 1, by omega, by go_num, rfl, rfl, set6 HE.out (Nat.le_refl B), .inl ⟨h1, p2, q2, by rw [HM.out]; exact res6 hX (.int .i64 5) (.int .i64 0) (.int .i64 0) (.int .i64 5) (.int .i64 0) (.slice p2 m q2), by rw [HM.out]; exact (HO.out.set6 hlt2 (.int .i64 5) (.int .i64 0) (.int .i64 0) (.int .i64 5) (.int .i64 0) (.slice p2 m q2)).is⟩⟩, by simp [intOf]; omega⟩
          · have hE := hD2 (by rw [HL.out]; exact h1)
            rw [TicDoes.set5] at hE
            unfold newD at hE
            subst hE
            clear hD1 hD2
            dsimp only at ho ⊢
            obtain ⟨p2, q2, hv⟩ := ho.form
            rw [show ([] : List FOp).length = 0 from rfl] at hv
            subst hv
            have hm1 : ((0 : Int) != (n : Int) - 1 - (j : Int)) = false := by rw [bne_eq_false_iff_eq]; omega
            have hg1 : decide ((j : Int) < (n : Int) - 1) = false := decide_eq_false (by omega)
            have hA := resM u3 (.int .i64 0) (.int .i64 0) (.int .i64 0) (.int .i64 0) (.int .i64 0) (.slice p2 0 q2) 24
            have hn0 := hal u3 (.cells #[.int .i64 0, .int .i64 0, .int .i64 0, .int .i64 0, .int .i64 0, .slice p2 0 q2] 24)
            replace hbel := hbel.trans (hn0.mono (Nat.le_of_lt hX.1))
            replace hX := resB hX hn0
            replace ho := ho.below hn0
            clear hn0
            go_upto_region 15 with fail
            generalize u3.alloc _ = W3 at *
            generalize u3.heap.size = G3 at *
            have HO := hide ho
            have HE := hide hbel
            clear ho hbel
            go_wp2_with (go_at_call 15; refine (num_any _ _).mono ?_; rintro e w' ⟨rfl, rfl⟩)
            exact ⟨⟨j + 1, by omega, by go_num, rfl, rfl, set6 HE.out (Nat.le_refl B), .inr ⟨by omega, p2, q2, res6 hX (.int .i64 0) (.int .i64 0) (.int .i64 0) (.int .i64 0) (.int .i64 0) (.slice p2 0 q2), (HO.out.set6 hlt2 (.int .i64 0) (.int .i64 0) (.int .i64 0) (.int .i64 0) (.int .i64 0) (.slice p2 0 q2)).is⟩⟩, by simp [intOf]; omega⟩
        · omega
      · rcases hcase with ⟨h, _⟩ | ⟨rfl, a, c, hX, hI⟩
        · omega
        · clear HR hin
          go_wp2_with fail
          refine (C5.out _ _ hI).mono ?_; rintro e u6 ⟨rfl, hb⟩
          have hb1 : Below w1.heap.size w1 wr := by rw [HBB.out]; exact hbel
          have hb2 := thenB (thenB HB.out hb1) hb
          clear hb hbel hX hI
          go_wp2_with fail
          go_ret
          exact ⟨rfl, hb2⟩

set_option maxRecDepth 100000 in
theorem lifted (os : Os) (started : os.Started) (H : Type) (enc : TypeId × Value → H) :
    ReturnsInHanded {} Try.checked os 5 .any (Rows.tickAllSpec.pre6 enc Try.prog Try.f5 Rows.tickAllRow.domain false) (Rows.tickAllSpec.post enc Try.prog Try.f5 false true false false) := by
  refine returnsInHanded_of_change (C := Try.checked) own started (by kernel_rfl) Try.func5
    (ChangeSpec.witness6 (enc := enc) (C := Try.checked) false ⟨#[], #[.string ByteArray.empty, .bool false, .int .i64 0, .string ByteArray.empty], []⟩ 8 (by kernel_rfl) (by kernel_rfl) (by kernel_rfl) (by kernel_rfl)) ?_
  intro W base args ds gs before hval0 hW hcnd _
  have hval : ∀ (j : Nat) t v, Try.f5.params[j]? = some t → args[j]? = some v → Value.okWide Try.prog W .any base t v := hval0
  have hW' := hW
  obtain ⟨p, q, hA0, hV, rfl, hfz, hnd⟩ := hW
  have hA : DataW.TrodAll enc Try.prog W 0 (fun _ => true) true Try.f5.params.toList args.toList ds p := hA0
  rw [Try.params5] at hA hval
  obtain ⟨v0, vs0, d0, ds0, p0, q0, hargs, rfl, rfl, h0, r0⟩ := trodAll_cons hA
  obtain ⟨v1, vs1, d1, ds1, p1, q1, rfl, rfl, rfl, h1, r1⟩ := trodAll_cons r0
  obtain ⟨v2, vs2, d2, ds2, p2, q2, rfl, rfl, rfl, h2, r2⟩ := trodAll_cons r1
  obtain ⟨v3, vs3, d3, ds3, p3, q3, rfl, rfl, rfl, h3, r3⟩ := trodAll_cons r2
  obtain ⟨rfl, rfl, rfl⟩ := trodAll_nil r3
  obtain rfl : args = #[v0, v1, v2, v3] := by cases args; simp_all
  obtain ⟨rfl, rfl⟩ := trodVars_none hV
  obtain ⟨a0, rfl, rfl, rfl, w0⟩ := open_string Try.underlying9 (hval 0 9 v0 rfl rfl) h0
  obtain ⟨a1, rfl, rfl, rfl⟩ := open_bool Try.underlying4 (hval 1 4 v1 rfl rfl) h1
  obtain ⟨a2, rfl, rfl, rfl, w2⟩ := open_int Try.underlying3 (hval 2 3 v2 rfl rfl) h2
  obtain ⟨a3, rfl, rfl, rfl, w3⟩ := open_string Try.underlying9 (hval 3 9 v3 rfl rfl) h3
  clear hA0 hval0
  refine (walk a0 a1 a2 a3 w0 w2 w3 W).mono fun e W' ⟨he, bel⟩ => ?_
  subst he
  exact ⟨_, rfl, _, _, _, [], _, [], hW', (trodAll_cons_mk (shut_bool Try.underlying4 _) trodAll_mk0), (trodAll_cons_mk (shut_string Try.underlying9 w0) (trodAll_cons_mk (shut_bool Try.underlying4 _) (trodAll_cons_mk (shut_int Try.underlying3 w2) (trodAll_cons_mk (shut_string Try.underlying9 w3) trodAll_mk0)))), rfl, bel.frame _, fun h => by cases h⟩

theorem over : Rows.tickAllRow.holds Try.pinned (OpenSpec.ofChange Rows.tickAllSpec) :=
  OpenClaim.holds_of_wide 5 Try.f5 rfl rfl rfl rfl rfl rfl rfl ⟨rfl, rfl, rfl, rfl, rfl⟩ rfl rfl rfl rfl rfl (by kernel_rfl) Try.func5 (by kernel_rfl)
    (of_decide_eq_true (by kernel_rfl)) (by unfold Func.isWrapper; first | (rw [if_pos (by decide +kernel)]; kernel_rfl) | (rw [if_neg (by decide +kernel)]; exact ⟨rfl, rfl⟩))
    (fun os started H enc _ => lifted os started H enc)

theorem proved : Rows.TickAllSaid :=
  over
#print axioms proved
end Go.Proofs.Ytmbgdidelbkdgaa.tickAll
