/- The contract of 'awake' of the laws over package status, which asks what is known of a few questions: it answers true. -/
import Derived.Test.YthdnpgkoanfijaaStsGet
import Derived.Test.YthdnpgkoanfijaaTicSent
import Derived.Test.YthdnpgkoanfijaaBagDnl
import Derived.Test.YthdnpgkoanfijaaBagDev
namespace Go.Proofs.Ythdnpgkoanfijaa.StsAwake
open Go.Proofs.Ythdnpgkoanfijaa Go.RowKit Go.Proofs.Ythdnpgkoanfijaa.Bytes Go.Proofs.Ythdnpgkoanfijaa.Nor Go.Proofs.Ythdnpgkoanfijaa.Ops Go.Proofs.Ythdnpgkoanfijaa.OpsRow Go.Proofs.Ythdnpgkoanfijaa.Jou Go.Proofs.Ythdnpgkoanfijaa.Act Go.Proofs.Ythdnpgkoanfijaa.Cho Go.Proofs.Ythdnpgkoanfijaa.Pla Go.Proofs.Ythdnpgkoanfijaa.Dev Go.Proofs.Ythdnpgkoanfijaa.DevRow Go.Proofs.Ythdnpgkoanfijaa.DevSet Go.Proofs.Ythdnpgkoanfijaa.Dnl Go.Proofs.Ythdnpgkoanfijaa.DnlMore Go.Proofs.Ythdnpgkoanfijaa.DnlAwake Go.Proofs.Ythdnpgkoanfijaa.Tic Go.Proofs.Ythdnpgkoanfijaa.TicRow Go.Proofs.Ythdnpgkoanfijaa.Sts Go.Proofs.Ythdnpgkoanfijaa.StsGet
open Go.Proofs.Ythdnpgkoanfijaa.DevWalk (build_d0)
open Go.Proofs.Ythdnpgkoanfijaa.DevAwake (hal same_bare)
theorem build_ta (n v : Int) (w : World) : (Instr.build 27 #[(2, .int .i64 n), (1, .int .i64 v)]).run Try.prog w = .ok (.agg #[.int .i64 0, .int .i64 v, .int .i64 n]) w := run_build w 27 _ _ (by kernel_rfl)
theorem sent_may : devB ⟨1, 0, 1, 32, 0, sentL⟩ = true := by decide +kernel
theorem blank_rof : errS blankS 0 32 = 0 := by
  have h : rofOk blankS 0 32 = true := rofOk_parts.2 ⟨size_blankS, by omega, by omega, by omega, by omega⟩
  exact (rof_yes h (by rw [blank_top]; omega)).2.2.2.2
theorem blank_free : freeIs blankS (homeI blankS) = true := by
  have hh : homeI blankS = 0 := by unfold homeI; rw [blank_act.2.1]; rfl
  rw [hh]
  exact (free_at (f := blankS) (s := 0) (j := 0) (freeOk_parts.2 ⟨size_blankS, by omega, by omega⟩) (fun i h1 h2 => by omega) (by decide +kernel) (by omega) (by omega)).2
theorem blank_len : (recL blankS 0 32).length = 6 := by
  have ho := (rof_good blank_rof).2.1
  unfold recL
  rw [app_ok ho, List.length_append, length_wordsTo]
  unfold appE
  rw [if_pos blank_free]
  rfl
/-- What Get gives, with its steps' number told. -/
theorem got {f : ByteArray} {d : FDev} {D : FDev} {n : Nat} {k : Int} (ho : bothB f d = true) (h : askD f d = D) (hn : D.ops.length = n) (hk : tkI D = k) (v : Value) (w : World) (hv : IsSt w v d.ops) : Calls Try.prog 9 #[.string f, .agg #[.int .i64 d.sa, .int .i64 d.su, .int .i64 d.nx, .int .i64 d.gt, .int .i64 d.sl, v]] w fun r w' => ∃ a c, r = .returned (.tuple #[.agg #[.int .i64 D.sa, .int .i64 D.su, .int .i64 D.nx, .int .i64 D.gt, .int .i64 D.sl, .slice a n c], .agg #[.int .i64 D.su, .int .i64 k, .int .i64 D.sa], .int .i64 0]) ∧ IsSt w' (.slice a n c) D.ops ∧ Below w.heap.size w w' := by
  have g := get_any f d v w hv
  rw [ho, get_ok ho, h, show errT true = 0 from rfl] at g
  refine g.mono ?_
  rintro e w' ⟨u, rfl, hO, hb⟩
  obtain ⟨a, c, rfl⟩ := hO.form
  rw [hk]
  have h2 := hO.is
  rw [hn] at h2 ⊢
  exact ⟨a, c, rfl, h2, hb⟩
theorem none_got {f : ByteArray} {d : FDev} (ho : bothB f d = false) (v : Value) (w : World) (hv : IsSt w v d.ops) : Calls Try.prog 9 #[.string f, .agg #[.int .i64 d.sa, .int .i64 d.su, .int .i64 d.nx, .int .i64 d.gt, .int .i64 d.sl, v]] w fun r w' => ∃ a c, r = .returned (.tuple #[.agg #[.int .i64 0, .int .i64 0, .int .i64 0, .int .i64 0, .int .i64 0, .slice a 0 c], .agg #[.int .i64 0, .int .i64 0, .int .i64 0], .int .i64 1900]) ∧ IsSt w' (.slice a 0 c) [] ∧ Below w.heap.size w w' := by
  have g := get_any f d v w hv
  rw [ho, get_no ho, show errT false = 1900 from rfl] at g
  refine g.mono ?_
  rintro e w' ⟨u, rfl, hO, hb⟩
  obtain ⟨a, c, rfl⟩ := hO.form
  exact ⟨a, c, rfl, hO.is, hb⟩
theorem k1 (v : Value) (w : World) (hv : IsSt w v sentL) : Calls Try.prog 9 #[.string blankS, .agg #[.int .i64 1, .int .i64 0, .int .i64 1, .int .i64 32, .int .i64 0, v]] w fun r w' => ∃ a c, r = .returned (.tuple #[.agg #[.int .i64 2, .int .i64 0, .int .i64 1, .int .i64 32, .int .i64 0, .slice a 11 c], .agg #[.int .i64 0, .int .i64 11, .int .i64 2], .int .i64 0]) ∧ IsSt w' (.slice a 11 c) sentL ∧ Below w.heap.size w w' :=
  got (d := ⟨1, 0, 1, 32, 0, sentL⟩) (D := ⟨2, 0, 1, 32, 0, sentL⟩) (both_parts.2 ⟨may_blank, sent_may⟩) (by rw [ask_sync rfl]; unfold syncI; rw [if_neg (by rw [sent_len]; decide)]) sent_len (by unfold tkI; rw [sent_len]; rfl) v w hv
theorem tk_6 {D : FDev} (h : D.ops.length = 6) : tkI D = 6 := by unfold tkI; rw [h]; rfl
theorem ask_b {f : ByteArray} (h : errS f 0 32 = 0) : askD f ⟨4, 0, 1, 32, 0, []⟩ = ⟨5, 0, 1, 32, 0, recL f 0 32⟩ := by
  have h1 : askD f ⟨4, 0, 1, 32, 0, []⟩ = maniD f ⟨4, 0, 1, 32, 0, []⟩ := ask_mani rfl
  rw [h1]
  exact mani_ok (f := f) (d := ⟨4, 0, 1, 32, 0, []⟩) h
theorem mani_may : devB ⟨4, 0, 1, 32, 0, []⟩ = true := by decide
theorem k2g {f : ByteArray} (h0 : bothB f ⟨4, 0, 1, 32, 0, []⟩ = true) (h1 : errS f 0 32 = 0) (h2 : (recL f 0 32).length = 6) (w : World) : Calls Try.prog 9 #[.string f, .agg #[.int .i64 4, .int .i64 0, .int .i64 1, .int .i64 32, .int .i64 0, .slice none 0 0]] w fun r w' => ∃ a c, r = .returned (.tuple #[.agg #[.int .i64 5, .int .i64 0, .int .i64 1, .int .i64 32, .int .i64 0, .slice a 6 c], .agg #[.int .i64 0, .int .i64 6, .int .i64 5], .int .i64 0]) ∧ IsSt w' (.slice a 6 c) (recL f 0 32) ∧ Below w.heap.size w w' :=
  got (d := ⟨4, 0, 1, 32, 0, []⟩) (D := ⟨5, 0, 1, 32, 0, recL f 0 32⟩) h0 (ask_b h1) h2 (tk_6 h2) _ w (isSt_nil w)
theorem k2 (w : World) : Calls Try.prog 9 #[.string blankS, .agg #[.int .i64 4, .int .i64 0, .int .i64 1, .int .i64 32, .int .i64 0, .slice none 0 0]] w fun r w' => ∃ a c, r = .returned (.tuple #[.agg #[.int .i64 5, .int .i64 0, .int .i64 1, .int .i64 32, .int .i64 0, .slice a 6 c], .agg #[.int .i64 0, .int .i64 6, .int .i64 5], .int .i64 0]) ∧ IsSt w' (.slice a 6 c) (recL blankS 0 32) ∧ Below w.heap.size w w' := k2g (both_parts.2 ⟨may_blank, mani_may⟩) blank_rof blank_len w
theorem k3 (w : World) : Calls Try.prog 9 #[.string blankS, .agg #[.int .i64 0, .int .i64 0, .int .i64 0, .int .i64 0, .int .i64 0, .slice none 0 0]] w fun r w' => ∃ a c, r = .returned (.tuple #[.agg #[.int .i64 0, .int .i64 0, .int .i64 0, .int .i64 0, .int .i64 0, .slice a 0 c], .agg #[.int .i64 0, .int .i64 0, .int .i64 0], .int .i64 0]) ∧ IsSt w' (.slice a 0 c) [] ∧ Below w.heap.size w w' :=
  got (d := newD) (D := newD) (both_parts.2 ⟨may_blank, rfl⟩) (ask_other (by decide) (by decide)) rfl rfl _ w (isSt_nil w)
theorem k4 (v : Value) (w : World) (hv : IsSt w v []) : Calls Try.prog 9 #[.string ⟨#[]⟩, .agg #[.int .i64 4, .int .i64 0, .int .i64 1, .int .i64 32, .int .i64 0, v]] w fun r w' => ∃ a c, r = .returned (.tuple #[.agg #[.int .i64 0, .int .i64 0, .int .i64 0, .int .i64 0, .int .i64 0, .slice a 0 c], .agg #[.int .i64 0, .int .i64 0, .int .i64 0], .int .i64 1900]) ∧ IsSt w' (.slice a 0 c) [] ∧ Below w.heap.size w w' :=
  none_got (f := ⟨#[]⟩) (d := ⟨4, 0, 1, 32, 0, []⟩) (by decide) v w hv
/-- A device and an answer that a call gave, in memory. -/
theorem two_made (w : World) (x0 x1 x2 x3 x4 x5 y0 y1 y2 : Value) : Res ((w.alloc (.cells #[x0, x1, x2, x3, x4, x5] 24)).alloc (.cells #[y0, y1, y2] 27)) w.heap.size x0 x1 x2 x3 x4 x5 ∧ (w.heap.size + 1 < ((w.alloc (.cells #[x0, x1, x2, x3, x4, x5] 24)).alloc (.cells #[y0, y1, y2] 27)).heap.size ∧ ((w.alloc (.cells #[x0, x1, x2, x3, x4, x5] 24)).alloc (.cells #[y0, y1, y2] 27)).cell? ⟨w.heap.size + 1, 0, none⟩ = some y0 ∧ ((w.alloc (.cells #[x0, x1, x2, x3, x4, x5] 24)).alloc (.cells #[y0, y1, y2] 27)).cell? ⟨w.heap.size + 1, 1, none⟩ = some y1 ∧ ((w.alloc (.cells #[x0, x1, x2, x3, x4, x5] 24)).alloc (.cells #[y0, y1, y2] 27)).cell? ⟨w.heap.size + 1, 2, none⟩ = some y2 ∧ ∀ i, ((w.alloc (.cells #[x0, x1, x2, x3, x4, x5] 24)).alloc (.cells #[y0, y1, y2] 27)).frozen? ⟨w.heap.size + 1, i, none⟩ = false) ∧ Below w.heap.size w ((w.alloc (.cells #[x0, x1, x2, x3, x4, x5] 24)).alloc (.cells #[y0, y1, y2] 27)) ∧ w.heap.size + 1 + 1 = ((w.alloc (.cells #[x0, x1, x2, x3, x4, x5] 24)).alloc (.cells #[y0, y1, y2] 27)).heap.size := by
  have hR := AnsWalk.resM (w.alloc (.cells #[x0, x1, x2, x3, x4, x5] 24)) y0 y1 y2 27
  rw [show (w.alloc (.cells #[x0, x1, x2, x3, x4, x5] 24)).heap.size = w.heap.size + 1 from by simp] at hR
  exact ⟨resB (resM w x0 x1 x2 x3 x4 x5 24) (hal _ _), hR, thenB (hal _ _) (hal _ _), by simp⟩
set_option maxRecDepth 100000 in
set_option maxHeartbeats 4000000 in
theorem awake_any (w : World) : Calls Try.prog 14 #[] w fun e w' => e = .returned (.bool true) ∧ Below w.heap.size w w' := by
  have b1 := build_d0
  have b2 := build_ta
  have b3 := AnsWalk.build_no
  have hB := Below.refl w.heap.size w
  go_enter Try.func14, Try.ntmps14
  go_wp2_with fail
  refine (NorRef.refBlank_any _).mono ?_; rintro e u1 ⟨rfl, hb⟩; replace hB := thenB hB hb; clear hb
  go_wp2_with fail
  refine (TicSent.sent19_any _).mono ?_; rintro e u2 ⟨a2, c2, rfl, hK, hb⟩; replace hB := thenB hB hb; clear hb
  go_wp2_with fail
  refine (k1 _ _ hK).mono ?_; rintro e u3 ⟨a3, c3, rfl, _, hb⟩; replace hB := thenB hB hb; clear hb hK
  obtain ⟨hA, hAx, hn, hs⟩ := two_made u3 (.int .i64 2) (.int .i64 0) (.int .i64 1) (.int .i64 32) (.int .i64 0) (.slice a3 11 c3) (.int .i64 0) (.int .i64 11) (.int .i64 2)
  replace hB := thenB hB hn
  clear hn
  go_upto_region 3 with fail
  generalize (u3.alloc _).alloc _ = W3 at *
  generalize u3.heap.size = G3 at *
  go_wp2_with fail
  refine (TicSent.sent19_any _).mono ?_; rintro e u4 ⟨a4, c4, rfl, _, hb⟩; replace hB := thenB hB hb; replace hA := resB hA hb; replace hAx := AnsWalk.resB hAx hb; clear hb
  have hD := resM u4 (.int .i64 1) (.int .i64 0) (.int .i64 1) (.int .i64 32) (.int .i64 0) (.slice a4 11 c4) 24
  have hG : w.heap.size ≤ u4.heap.size := hB.size
  have hn := hal u4 (.cells #[.int .i64 1, .int .i64 0, .int .i64 1, .int .i64 32, .int .i64 0, .slice a4 11 c4] 24)
  replace hB := thenB hB hn
  have hB4 : G3 + 1 < u4.heap.size := hAx.1
  have hB40 : w.heap.size ≤ u4.heap.size := hG
  replace hA := resB hA hn
  replace hAx := AnsWalk.resB hAx hn
  clear hn
  go_upto_region 4 with fail
  generalize u4.alloc _ = W4 at *
  generalize u4.heap.size = G4 at *
  have HB := hide hB
  have HA := hide hA
  have HX := hide hAx
  clear hB hA hAx
  go_upto_region 6 with fail
  have q0 : G4 ≠ G3 := by omega
  have q1 : G4 ≠ G3 + 1 := by omega
  replace hD := res5 (res0 hD (.int .i64 4)) (.slice none 0 0)
  have hA := resO (resO HA.out q0 0 (.int .i64 4)) q0 5 (.slice none 0 0)
  have hAx := ans_other (ans_other HX.out q1 0 (.int .i64 4)) q1 5 (.slice none 0 0)
  have hB := (HB.out.setCell (p := ⟨G4, 0, none⟩) hB40 (.int .i64 4)).setCell (p := ⟨G4, 5, none⟩) hB40 (.slice none 0 0)
  clear HB HA HX
  generalize (World.setCell _ _ _).setCell _ _ = W5 at *
  go_wp2_with fail
  refine (k2 _).mono ?_; rintro e u5 ⟨a5, c5, rfl, _, hb⟩; replace hB := thenB hB hb; replace hA := resB hA hb; replace hAx := AnsWalk.resB hAx hb; replace hD := resB hD hb; clear hb
  obtain ⟨hC, hCx, hn, _⟩ := two_made u5 (.int .i64 5) (.int .i64 0) (.int .i64 1) (.int .i64 32) (.int .i64 0) (.slice a5 6 c5) (.int .i64 0) (.int .i64 6) (.int .i64 5)
  replace hB := thenB hB hn; replace hA := resB hA hn; replace hAx := AnsWalk.resB hAx hn; replace hD := resB hD hn
  clear hn
  go_upto_region 7 with fail
  generalize (u5.alloc _).alloc _ = W6 at *
  generalize u5.heap.size = G5 at *
  go_wp2_with fail
  refine (k3 _).mono ?_; rintro e u6 ⟨a6, c6, rfl, hI, hb⟩; replace hB := thenB hB hb; replace hA := resB hA hb; replace hAx := AnsWalk.resB hAx hb; replace hD := resB hD hb; replace hC := resB hC hb; replace hCx := AnsWalk.resB hCx hb; clear hb
  obtain ⟨hE, hEx, hn, _⟩ := two_made u6 (.int .i64 0) (.int .i64 0) (.int .i64 0) (.int .i64 0) (.int .i64 0) (.slice a6 0 c6) (.int .i64 0) (.int .i64 0) (.int .i64 0)
  replace hB := thenB hB hn; replace hA := resB hA hn; replace hAx := AnsWalk.resB hAx hn; replace hD := resB hD hn; replace hC := resB hC hn; replace hCx := AnsWalk.resB hCx hn; replace hI := hI.below hn
  clear hn
  go_upto_region 8 with fail
  generalize (u6.alloc _).alloc _ = W7 at *
  generalize u6.heap.size = G6 at *
  go_wp2_with fail
  refine (k4 _ _ (isSt_nil _)).mono ?_; rintro e u7 ⟨a7, c7, rfl, _, hb⟩; replace hB := thenB hB hb; replace hA := resB hA hb; replace hAx := AnsWalk.resB hAx hb; replace hC := resB hC hb; replace hCx := AnsWalk.resB hCx hb; replace hE := resB hE hb; replace hEx := AnsWalk.resB hEx hb; replace hI := hI.below hb; clear hb hD
  obtain ⟨_, _, hn, _⟩ := two_made u7 (.int .i64 0) (.int .i64 0) (.int .i64 0) (.int .i64 0) (.int .i64 0) (.slice a7 0 c7) (.int .i64 0) (.int .i64 0) (.int .i64 0)
  replace hB := thenB hB hn; replace hA := resB hA hn; replace hAx := AnsWalk.resB hAx hn; replace hC := resB hC hn; replace hCx := AnsWalk.resB hCx hn; replace hE := resB hE hn; replace hEx := AnsWalk.resB hEx hn; replace hI := hI.below hn
  clear hn
  go_upto_region 9 with fail
  generalize (u7.alloc _).alloc _ = W8 at *
  generalize u7.heap.size = G7 at *
  go_wp2_with (go_at_call 12; refine (DevHelp.num_any _ _).mono ?_; rintro e w' ⟨rfl, rfl⟩)
  refine (DevHelp.sameDev_yes ⟨0, 0, 0, 0, 0, []⟩ _ _ _ hI (isSt_nil _)).mono ?_
  rintro e w9 ⟨rfl, hb⟩; replace hB := thenB hB hb; replace hEx := AnsWalk.resB hEx hb; clear hb hA hAx hC hCx hE hI
  go_wp2_with (go_at_call 12; refine (DevHelp.num_any _ _).mono ?_; rintro e w' ⟨rfl, rfl⟩)
  go_ret
  exact ⟨rfl, hB⟩
end Go.Proofs.Ythdnpgkoanfijaa.StsAwake
