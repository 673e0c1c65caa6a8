/- The contract of the laws' flash of one record: the call returns just that flash; of what was there nothing has turned. -/
import Derived.Test.YthcknngmpcepfaaBagImg
import Derived.Test.YthcknngmpcepfaaBagAct
import Derived.Test.YthcknngmpcepfaaBagOps
namespace Go.Proofs.Ythcknngmpcepfaa.HeldCalls
open Go.Proofs.Ythcknngmpcepfaa Go.RowKit Go.Proofs.Ythcknngmpcepfaa.Bytes Go.Proofs.Ythcknngmpcepfaa.NorWalk Go.Proofs.Ythcknngmpcepfaa.NorRef Go.Proofs.Ythcknngmpcepfaa.Ent Go.Proofs.Ythcknngmpcepfaa.EntRow Go.Proofs.Ythcknngmpcepfaa.EntWalk Go.Proofs.Ythcknngmpcepfaa.EntRef Go.Proofs.Ythcknngmpcepfaa.Jou Go.Proofs.Ythcknngmpcepfaa.JouRow Go.Proofs.Ythcknngmpcepfaa.JouWalk Go.Proofs.Ythcknngmpcepfaa.JouRef Go.Proofs.Ythcknngmpcepfaa.Ops Go.Proofs.Ythcknngmpcepfaa.Act Go.Proofs.Ythcknngmpcepfaa.ActRef Go.Proofs.Ythcknngmpcepfaa.ActNext Go.Proofs.Ythcknngmpcepfaa.ActApp Go.Proofs.Ythcknngmpcepfaa.Held

theorem words3 (w : World) : Calls Try.prog 37 #[.int .i64 192, .string ⟨#[97, 98, 97, 98, 97, 98, 97, 98, 97, 98, 97, 98]⟩] w fun e w' => ∃ g cap, e = .returned (.tuple #[.slice (some ⟨g, 0, none⟩) 3 cap, .int .i64 0]) ∧ 3 ≤ cap ∧ cap ≤ maxLen ∧ g < w'.heap.size ∧ OpsRow.OpsIn w' g (wordsL 192 ab) ∧ Below w.heap.size w w' := by
  refine (OpsHelp.refWords_any 192 ab w).mono ?_
  rintro e w' ⟨v, rfl, hown, hb⟩
  have hl : (wordsL 192 ab).length = 3 := by
    have h : wordsL 192 ab = wordsTo ((192 : Nat) : Int) ab 3 := wordsL_ok words_ab
    rw [h, length_wordsTo]
  rw [hl] at hown
  obtain ⟨g, cap, rfl, _, _⟩ := hown.form (by omega)
  obtain ⟨_, h1, h2⟩ := OpsRow.owns_in hown
  have hw : wordsOk 192 ab = true := words_ab
  rw [hw]
  rcases hown.2 with ⟨h0, _⟩ | ⟨g', cap', cur, hv, _, _, h3, h4, _⟩
  · cases h0
  · simp at hv
    exact ⟨g, cap, rfl, by omega, by omega, h1, h2, hb⟩
theorem rof_bare (w : World) : Calls Try.prog 39 #[.string bareS, .int .i64 0, .int .i64 12] w fun e w' => e = .returned (.tuple #[.agg #[.int .i64 1, .int .i64 0, .int .i64 12, .int .i64 sumAb], .int .i64 0]) ∧ Below w.heap.size w w' := by
  have h := refRof_any bareS 0 12 w
  obtain ⟨v1, v2, v3, v4, v5⟩ := bare_rof
  rw [v1, v2, v3, v4, v5] at h
  exact h
theorem app_bare (w : World) : Calls Try.prog 40 #[.string bareS, .agg #[.int .i64 1, .int .i64 0, .int .i64 12, .int .i64 sumAb]] w fun e w' => ∃ g cap, e = .returned (.tuple #[.slice (some ⟨g, 0, none⟩) 6 cap, .int .i64 0]) ∧ 6 ≤ cap ∧ cap ≤ maxLen ∧ g < w'.heap.size ∧ OpsRow.OpsIn w' g (appL bareS 1 0 12 sumAb) ∧ Below w.heap.size w w' := by
  refine (refApp_any bareS 1 0 12 sumAb w).mono ?_
  rintro e w' ⟨v, rfl, hown, hb⟩
  have hl : (appL bareS 1 0 12 sumAb).length = 6 := by rw [bare_app, length_wordsTo]
  rw [hl] at hown
  obtain ⟨g, cap, rfl, _, _⟩ := hown.form (by omega)
  obtain ⟨_, h1, h2⟩ := OpsRow.owns_in hown
  have hw : appOk bareS 1 0 12 sumAb = true := imgOk_parts.2 ⟨size_bareS, may_ab⟩
  rw [hw]
  rcases hown.2 with ⟨h0, _⟩ | ⟨g', cap', cur, hv, _, _, h3, h4, _⟩
  · cases h0
  · simp at hv
    exact ⟨g, cap, rfl, by omega, by omega, h1, h2, hb⟩
theorem len3 : (wordsL 192 ab).length = 3 := by
  have h : wordsL 192 ab = wordsTo ((192 : Nat) : Int) ab 3 := wordsL_ok words_ab
  rw [h, length_wordsTo]
theorem lenA : (appL bareS 1 0 12 sumAb).length = 6 := by rw [bare_app, length_wordsTo]
set_option maxRecDepth 100000 in
set_option maxHeartbeats 2000000 in
theorem held20_any (w : World) : Calls Try.prog 16 #[] w fun e w' => e = .returned (.string heldS) ∧ Below w.heap.size w w' := by
  have hB : Below w.heap.size w w := Below.refl _ _
  have HF := hide held_first
  have HS := hide held_second
  have hl3 := hide len3
  have hl6 := hide lenA
  have C1 := hide (fun w => refBlank_any w)
  have C2 := hide (fun w => words3 w)
  have C3 := hide (fun w => rof_bare w)
  have C4 := hide (fun w => app_bare w)
  generalize wordsL 192 ab = L1 at *
  generalize appL bareS 1 0 12 sumAb = L2 at *
  generalize sumAb = M at *
  generalize bareS = F1 at *
  generalize heldS = F2 at *
  generalize Nor.blankS = F0 at *
  go_enter Try.func16, Try.ntmps16
  go_wp2_with (go_at_call 36; refine (C1.out _).mono ?_; rintro e w' ⟨rfl, hb⟩; replace hB := hB.trans (hb.mono hB.size); clear hb)
  refine (C2.out _).mono ?_
  rintro e w2 ⟨g, cap, rfl, hc1, hc2, hg, hin, hb⟩
  replace hB := thenB hB hb
  clear hb
  go_wp2
  go_loopw [1, 4] (fun x y wr => ∃ (n : Nat) (F : ByteArray), n ≤ 3 ∧ x = .string F ∧ y = .int .i64 n ∧ Hid (F = doL F0 (L1.take n)) ∧ Below w2.heap.size w2 wr) (fun _ y _ => 3 - (intOf y).toNat)
  case atStart => exact ⟨0, _, Nat.zero_le _, rfl, rfl, rfl, Below.refl _ _⟩
  case round =>
    obtain ⟨n, F, hn, rfl, rfl, HX, hbel⟩ := hrel
    by_cases hlt : n < 3
    · have hlt2 : n < L1.length := by rw [hl3.out]; exact hlt
      have hin1 := hin.below hbel hg
      have c0 := hin1.er n hlt2
      have c1 := hin1.pl n hlt2
      have c2 := hin1.tx n hlt2
      have HX2 : Hid (cutS F L1[n].er L1[n].pl L1[n].tx 96 = doL F0 (L1.take (n + 1))) := by show _ = _; rw [doL_take _ _ n hlt2, ← HX.out]
      clear hin1
      generalize L1[n].er = E at *
      generalize L1[n].pl = A at *
      generalize L1[n].tx = T at *
      go_wp2_with (go_at_call 38; refine (OpsRef.refDo_any _ _ _ _ _).mono ?_; rintro e w3 ⟨rfl, hb⟩)
      exact ⟨⟨n + 1, _, by omega, rfl, by go_num, HX2, hbel.trans (hb.mono hbel.size)⟩, by simp [intOf]; omega⟩
    · have HX2 : F = F1 := by rw [HX.out, List.take_of_length_le (by rw [hl3.out]; omega)]; exact HF.out
      subst HX2
      replace hB := thenB hB hbel
      clear hin hbel hg HX
      go_wp2_with fail
      refine (C3.out _).mono ?_
      rintro e w4 ⟨rfl, hb⟩
      replace hB := thenB hB hb
      clear hb
      replace hB := hB.alloc hB.size (.cells #[.int .i64 1, .int .i64 0, .int .i64 12, .int .i64 M] 41)
      go_wp2_with fail
      refine (C4.out _).mono ?_
      rintro e w5 ⟨g2, cap2, rfl, hd1, hd2, hg, hin, hb⟩
      replace hB := thenB hB hb
      clear hb C1 C2 C3 C4 HF hl3 hn hlt
      go_wp2
      go_loopw [1, 7] (fun x y wr => ∃ (n : Nat) (G : ByteArray), n ≤ 6 ∧ x = .string G ∧ y = .int .i64 n ∧ Hid (G = doL F (L2.take n)) ∧ Below w5.heap.size w5 wr) (fun _ y _ => 6 - (intOf y).toNat)
      case atStart => exact ⟨0, _, Nat.zero_le _, rfl, rfl, rfl, Below.refl _ _⟩
      case round =>
        obtain ⟨m, G, hm, rfl, rfl, HX, hbel⟩ := hrel
        by_cases hlt : m < 6
        · have hlt2 : m < L2.length := by rw [hl6.out]; exact hlt
          have hin1 := hin.below hbel hg
          have c0 := hin1.er m hlt2
          have c1 := hin1.pl m hlt2
          have c2 := hin1.tx m hlt2
          have HX2 : Hid (cutS G L2[m].er L2[m].pl L2[m].tx 96 = doL F (L2.take (m + 1))) := by show _ = _; rw [doL_take _ _ m hlt2, ← HX.out]
          clear hin1
          generalize L2[m].er = E at *
          generalize L2[m].pl = A at *
          generalize L2[m].tx = T at *
          go_wp2_with (go_at_call 38; refine (OpsRef.refDo_any _ _ _ _ _).mono ?_; rintro e w3 ⟨rfl, hb⟩)
          exact ⟨⟨m + 1, _, by omega, rfl, by go_num, HX2, hbel.trans (hb.mono hbel.size)⟩, by simp [intOf]; omega⟩
        · have HX2 : Hid (G = F2) := by show G = F2; rw [HX.out, List.take_of_length_le (by rw [hl6.out]; omega)]; exact HS.out
          replace hB := thenB hB hbel
          clear hin hbel hg HX
          go_wp2
          go_ret
          exact ⟨ret_str HX2.out, hB⟩
end Go.Proofs.Ythcknngmpcepfaa.HeldCalls
