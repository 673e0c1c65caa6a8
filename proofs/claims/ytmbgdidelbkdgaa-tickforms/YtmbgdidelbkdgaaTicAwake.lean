/- The contract of 'awake' of the laws over package tick, which asks what is known of a few ticks: it answers true. -/
import Derived.Test.YtmbgdidelbkdgaaTicSent
import Derived.Test.YtmbgdidelbkdgaaTicRefs
import Derived.Test.YtmbgdidelbkdgaaBagDnl
import Derived.Deep.RegionHeld3
namespace Go.Proofs.Ytmbgdidelbkdgaa.TicAwake
open Go.Proofs.Ytmbgdidelbkdgaa Go.RowKit Go.Proofs.Ytmbgdidelbkdgaa.Bytes Go.Proofs.Ytmbgdidelbkdgaa.Nor Go.Proofs.Ytmbgdidelbkdgaa.Ops Go.Proofs.Ytmbgdidelbkdgaa.OpsRow Go.Proofs.Ytmbgdidelbkdgaa.Jou Go.Proofs.Ytmbgdidelbkdgaa.Dev Go.Proofs.Ytmbgdidelbkdgaa.DevRow Go.Proofs.Ytmbgdidelbkdgaa.DevSet Go.Proofs.Ytmbgdidelbkdgaa.Dnl Go.Proofs.Ytmbgdidelbkdgaa.DnlMore Go.Proofs.Ytmbgdidelbkdgaa.DnlAwake Go.Proofs.Ytmbgdidelbkdgaa.Tic Go.Proofs.Ytmbgdidelbkdgaa.TicRow Go.Proofs.Ytmbgdidelbkdgaa.TicStep Go.Proofs.Ytmbgdidelbkdgaa.TicCut
open Go.Proofs.Ytmbgdidelbkdgaa.DevWalk (build_d0)
open Go.Proofs.Ytmbgdidelbkdgaa.DevAwake (hal same_bare)
theorem build_so (s : Int) (a : Option Addr) (n c : Nat) (w : World) : (Instr.build 24 #[(0, .int .i64 s), (5, .slice a n c)]).run Try.prog w = .ok (.agg #[.int .i64 s, .int .i64 0, .int .i64 0, .int .i64 0, .int .i64 0, .slice a n c]) w := run_build w 24 _ _ (by kernel_rfl)
def bus : List FOp := [⟨false, 192, abcd⟩]
theorem bus_may : devB ⟨2, 0, 0, 0, 0, bus⟩ = true := by decide
theorem both_bus : bothB blankS ⟨2, 0, 0, 0, 0, bus⟩ = true := both_parts.2 ⟨may_blank, bus_may⟩
theorem okA : cutOk blankS false 192 abcd 96 = true := by unfold cutOk; rw [size_blankS]; decide
theorem okB : cutOk blankS false 192 abcd 3 = true := by unfold cutOk; rw [size_blankS]; decide
theorem blank_l : blankS.data.toList = blankL := mk_toList _
theorem abcd_l : abcd.data.toList = [97, 98, 99, 100] := rfl
theorem step_f (f t : List UInt8) (p k : Nat) : stepL f t false p k = tornL f t p (min k 32) := rfl
theorem isA : (cutS blankS false 192 abcd 96).extract 192 196 = abcd := by
  apply ba_ext
  rw [list_extract, list_cutS okA, abcd_l, blank_l, show (192 : Int).toNat = 192 from rfl, show (96 : Int).toNat = 96 from rfl, step_f]
  show List.take 4 _ = _
  rw [word_tornL _ _ _ _ (by rw [length_blankL]; omega), word_blankL _ (by omega)]
  decide +kernel
theorem isB (h : 192 < (cutS blankS false 192 abcd 3).size) : (cutS blankS false 192 abcd 3)[192] = 249 := by
  have e := ba_get (cutS blankS false 192 abcd 3) 192 h
  rw [list_cutS okB, abcd_l, blank_l, show (192 : Int).toNat = 192 from rfl, show (3 : Int).toNat = 3 from rfl, step_f, get_tornL, get_blankL _ (by omega)] at e
  have e2 := (Option.some.inj e).symm
  rw [e2]
  decide +kernel
theorem k1 (v : Value) (w : World) (hv : IsSt w v bus) : Calls Try.prog 10 #[.string blankS, .agg #[.int .i64 2, .int .i64 0, .int .i64 0, .int .i64 0, .int .i64 0, v]] w fun r w' => ∃ F a c, r = .returned (.tuple #[.string F, .agg #[.int .i64 1, .int .i64 0, .int .i64 0, .int .i64 0, .int .i64 0, .slice a 0 c], .int .i64 0]) ∧ F.size = 768 ∧ F.extract 192 196 = abcd ∧ Below w.heap.size w w' := by
  have g := step_any blankS ⟨2, 0, 0, 0, 0, bus⟩ v w hv
  have e1 : tickD blankS ⟨2, 0, 0, 0, 0, bus⟩ = ⟨1, 0, 0, 0, 0, []⟩ := by unfold tickD; rw [both_bus]; rfl
  have e2 : tickF blankS ⟨2, 0, 0, 0, 0, bus⟩ = cutS blankS false 192 abcd 96 := by unfold tickF; rw [both_bus, if_pos rfl]; exact due_step (o := ⟨false, 192, abcd⟩) (l := []) rfl rfl
  rw [e1, e2, both_bus, show errK true = 0 from rfl] at g
  refine g.mono ?_
  rintro e w' ⟨u, rfl, hO, hb⟩
  obtain ⟨a, c, rfl⟩ := hO.form
  exact ⟨_, a, c, rfl, size_cutS okA, isA, hb⟩
theorem k2 (v : Value) (w : World) (hv : IsSt w v bus) : Calls Try.prog 12 #[.string blankS, .agg #[.int .i64 2, .int .i64 0, .int .i64 0, .int .i64 0, .int .i64 0, v], .int .i64 3] w fun r w' => ∃ F, r = .returned (.tuple #[.string F, .agg #[.int .i64 0, .int .i64 0, .int .i64 0, .int .i64 0, .int .i64 0, .slice none 0 0], .int .i64 0]) ∧ F.size = 768 ∧ (∀ h : 192 < F.size, F[192] = 249) ∧ Below w.heap.size w w' := by
  have g := cut_any blankS ⟨2, 0, 0, 0, 0, bus⟩ v 3 w hv
  have e0 : cutB blankS ⟨2, 0, 0, 0, 0, bus⟩ 3 = true := cut_parts.2 ⟨may_blank, bus_may, by omega, by omega⟩
  have e2 : cutF blankS ⟨2, 0, 0, 0, 0, bus⟩ 3 = cutS blankS false 192 abcd 3 := by unfold cutF; rw [e0, if_pos rfl]; exact due_step (o := ⟨false, 192, abcd⟩) (l := []) rfl rfl
  rw [e2, e0, show errK true = 0 from rfl] at g
  refine g.mono ?_
  rintro e w' ⟨rfl, hb⟩
  exact ⟨_, rfl, size_cutS okB, isB, hb⟩
theorem sent_may : devB ⟨1, 0, 1, 32, 0, sentL⟩ = true := by
  decide +kernel
theorem k3 (v : Value) (w : World) (hv : IsSt w v sentL) : Calls Try.prog 10 #[.string blankS, .agg #[.int .i64 1, .int .i64 0, .int .i64 1, .int .i64 32, .int .i64 0, v]] w fun r w' => ∃ a c, r = .returned (.tuple #[.string blankS, .agg #[.int .i64 1, .int .i64 0, .int .i64 1, .int .i64 32, .int .i64 0, .slice a 11 c], .int .i64 0]) ∧ IsSt w' (.slice a 11 c) sentL ∧ Below w.heap.size w w' := by
  have g := step_any blankS ⟨1, 0, 1, 32, 0, sentL⟩ v w hv
  have e0 : bothB blankS ⟨1, 0, 1, 32, 0, sentL⟩ = true := both_parts.2 ⟨may_blank, sent_may⟩
  have e1 : tickD blankS ⟨1, 0, 1, 32, 0, sentL⟩ = ⟨1, 0, 1, 32, 0, sentL⟩ := by unfold tickD; rw [e0]; rfl
  have e2 : tickF blankS ⟨1, 0, 1, 32, 0, sentL⟩ = blankS := by unfold tickF; rw [e0]; rfl
  rw [e1, e2, e0, show errK true = 0 from rfl] at g
  refine g.mono ?_
  rintro e w' ⟨u, rfl, hO, hb⟩
  obtain ⟨a, c, rfl⟩ := hO.form
  have h := hO.is
  dsimp only at h ⊢
  rw [sent_len] at h ⊢
  exact ⟨a, c, rfl, h, hb⟩
theorem k4 (v : Value) (w : World) (hv : IsSt w v bus) : Calls Try.prog 10 #[.string ⟨#[]⟩, .agg #[.int .i64 2, .int .i64 0, .int .i64 0, .int .i64 0, .int .i64 0, v]] w fun r w' => ∃ a c, r = .returned (.tuple #[.string ⟨#[]⟩, .agg #[.int .i64 0, .int .i64 0, .int .i64 0, .int .i64 0, .int .i64 0, .slice a 0 c], .int .i64 1800]) ∧ Below w.heap.size w w' := by
  have g := step_any ⟨#[]⟩ ⟨2, 0, 0, 0, 0, bus⟩ v w hv
  have e0 : bothB ⟨#[]⟩ ⟨2, 0, 0, 0, 0, bus⟩ = false := by decide
  have e1 : tickD ⟨#[]⟩ ⟨2, 0, 0, 0, 0, bus⟩ = newD := by unfold tickD; rw [e0]; rfl
  have e2 : tickF ⟨#[]⟩ ⟨2, 0, 0, 0, 0, bus⟩ = ⟨#[]⟩ := by unfold tickF; rw [e0]; rfl
  rw [e1, e2, e0, show errK false = 1800 from rfl] at g
  refine g.mono ?_
  rintro e w' ⟨u, rfl, hO, hb⟩
  obtain ⟨a, c, rfl⟩ := hO.form
  exact ⟨a, c, rfl, hb⟩
set_option maxRecDepth 100000 in
set_option maxHeartbeats 4000000 in
theorem awake_any (w : World) : Calls Try.prog 17 #[] w fun e w' => e = .returned (.bool true) ∧ Below w.heap.size w w' := by
  have b1 := build_d0
  have b2 := OpsWalk.build_at
  have b3 := build_so
  have hB := Below.refl w.heap.size w
  go_enter Try.func17, Try.ntmps17
  go_wp2_with fail
  refine (NorRef.refBlank_any _).mono ?_; rintro e u1 ⟨rfl, hb⟩; replace hB := thenB hB hb; clear hb
  have hM := madeS_is u1 bus 40 1 rfl (by decide)
  have hn := hal u1 (.cells #[.bool false, .int .i64 192, .string ⟨#[97, 98, 99, 100]⟩] 40)
  replace hB := thenB hB hn
  have hD := resM (u1.alloc (.cells #[.bool false, .int .i64 192, .string ⟨#[97, 98, 99, 100]⟩] 40)) (.int .i64 2) (.int .i64 0) (.int .i64 0) (.int .i64 0) (.int .i64 0) (.slice (some ⟨u1.heap.size, 0, none⟩) 1 1) 24
  rw [show (u1.alloc (.cells #[.bool false, .int .i64 192, .string ⟨#[97, 98, 99, 100]⟩] 40)).heap.size = u1.heap.size + 1 from by simp] at hD
  have hn2 := hal (u1.alloc (.cells #[.bool false, .int .i64 192, .string ⟨#[97, 98, 99, 100]⟩] 40)) (.cells #[.int .i64 2, .int .i64 0, .int .i64 0, .int .i64 0, .int .i64 0, .slice (some ⟨u1.heap.size, 0, none⟩) 1 1] 24)
  replace hM := hM.below hn2
  replace hB := thenB hB hn2
  clear hn hn2
  go_upto_region 3 with fail
  generalize (u1.alloc _).alloc _ = W2 at *
  generalize u1.heap.size = G2 at *
  clear b2 b3
  go_wp2_with fail
  refine (k1 _ _ hM).mono ?_; rintro e u2 ⟨F1, a1, c1, rfl, z1, x1, hb⟩; replace hB := thenB hB hb; replace hD := resB hD hb; replace hM := hM.below hb; clear hb
  have HZ1 := hide z1
  have HX1 := hide x1
  clear z1 x1
  have hA := resM u2 (.int .i64 1) (.int .i64 0) (.int .i64 0) (.int .i64 0) (.int .i64 0) (.slice a1 0 c1) 24
  have hn := hal u2 (.cells #[.int .i64 1, .int .i64 0, .int .i64 0, .int .i64 0, .int .i64 0, .slice a1 0 c1] 24)
  replace hB := thenB hB hn
  replace hD := resB hD hn
  replace hM := hM.below hn
  clear hn
  go_upto_region 4 with fail
  generalize u2.alloc _ = W3 at *
  generalize u2.heap.size = G3 at *
  go_wp2_with fail
  refine (k2 _ _ hM).mono ?_; rintro e u3 ⟨F2, rfl, z2, x2, hb⟩; replace hB := thenB hB hb; replace hD := resB hD hb; replace hA := resB hA hb; replace hM := hM.below hb; clear hb
  have HZ2 := hide z2
  have HX2 : Hid (∀ h : 192 < F2.size, F2[192] = 249) := x2
  clear z2 x2
  have hP := resM u3 (.int .i64 0) (.int .i64 0) (.int .i64 0) (.int .i64 0) (.int .i64 0) (.slice none 0 0) 24
  have hn := hal u3 (.cells #[.int .i64 0, .int .i64 0, .int .i64 0, .int .i64 0, .int .i64 0, .slice none 0 0] 24)
  replace hB := thenB hB hn
  replace hD := resB hD hn
  replace hA := resB hA hn
  replace hM := hM.below hn
  clear hn
  go_upto_region 5 with fail
  generalize u3.alloc _ = W4 at *
  generalize u3.heap.size = G4 at *
  go_wp2_with fail
  refine (TicSent.sent18_any _).mono ?_; rintro e u4 ⟨a4, c4, rfl, hK, hb⟩; replace hB := thenB hB hb; replace hD := resB hD hb; replace hA := resB hA hb; replace hP := resB hP hb; replace hM := hM.below hb; clear hb
  go_wp2_with fail
  refine (k3 _ _ hK).mono ?_; rintro e u5 ⟨a5, c5, rfl, hL, hb⟩; replace hB := thenB hB hb; replace hD := resB hD hb; replace hA := resB hA hb; replace hP := resB hP hb; replace hM := hM.below hb; clear hb hK
  have hC := resM u5 (.int .i64 1) (.int .i64 0) (.int .i64 1) (.int .i64 32) (.int .i64 0) (.slice a5 11 c5) 24
  have hn := hal u5 (.cells #[.int .i64 1, .int .i64 0, .int .i64 1, .int .i64 32, .int .i64 0, .slice a5 11 c5] 24)
  replace hB := thenB hB hn
  replace hD := resB hD hn
  replace hA := resB hA hn
  replace hP := resB hP hn
  replace hM := hM.below hn
  replace hL := hL.below hn
  clear hn
  go_upto_region 6 with fail
  generalize u5.alloc _ = W6 at *
  generalize u5.heap.size = G5 at *
  go_wp2_with fail
  refine (k4 _ _ hM).mono ?_; rintro e u6 ⟨a6, c6, rfl, hb⟩; replace hB := thenB hB hb; replace hA := resB hA hb; replace hP := resB hP hb; replace hC := resB hC hb; replace hL := hL.below hb; clear hb hM hD
  have hn := hal u6 (.cells #[.int .i64 0, .int .i64 0, .int .i64 0, .int .i64 0, .int .i64 0, .slice a6 0 c6] 24)
  replace hB := thenB hB hn
  replace hA := resB hA hn
  replace hP := resB hP hn
  replace hC := resB hC hn
  replace hL := hL.below hn
  clear hn
  have z1 := HZ1.out
  have z2 := HZ2.out
  go_upto_region 9 with fail
  generalize u6.alloc _ = W7 at *
  generalize u6.heap.size = G6 at *
  have y1 : (196 : Int) ≤ (F1.size : Int) := by omega
  have y2 : 192 < F2.size := by omega
  have y3 : (192 : Int) < (F2.size : Int) := by omega
  have x1 : F1.extract 192 196 = ⟨#[97, 98, 99, 100]⟩ := HX1.out
  have x2 := HX2.out y2
  clear z1 z2 HZ1 HZ2 HX1 HX2
  generalize hbs : blankS = BS at *
  clear hbs
  have x3 : (BS.toList == BS.toList) = true := beq_self_eq_true _
  have HS := hide (fun u v w h g => DevHelp.sameDev_yes ⟨1, 0, 1, 32, 0, sentL⟩ u v w h g)
  dsimp only at HS
  go_region_held3 (fun W => (W.cell? ⟨G3, 0, none⟩ = some (.int .i64 1) ∧ W.cell? ⟨G3, 5, none⟩ = some (.slice a1 0 c1)) ∧ (W.cell? ⟨G4, 0, none⟩ = some (.int .i64 0) ∧ W.cell? ⟨G4, 1, none⟩ = some (.int .i64 0) ∧ W.cell? ⟨G4, 2, none⟩ = some (.int .i64 0) ∧ W.cell? ⟨G4, 3, none⟩ = some (.int .i64 0) ∧ W.cell? ⟨G4, 4, none⟩ = some (.int .i64 0) ∧ W.cell? ⟨G4, 5, none⟩ = some (.slice none 0 0)) ∧ W.cell? ⟨G5, 0, none⟩ = some (.int .i64 1) ∧ W.cell? ⟨G5, 1, none⟩ = some (.int .i64 0) ∧ W.cell? ⟨G5, 2, none⟩ = some (.int .i64 1) ∧ W.cell? ⟨G5, 3, none⟩ = some (.int .i64 32) ∧ W.cell? ⟨G5, 4, none⟩ = some (.int .i64 0) ∧ W.cell? ⟨G5, 5, none⟩ = some (.slice a5 11 c5)) (go_keep) (first | (go_at_call 15; refine (DevHelp.num_any _ _).mono ?_; rintro e w' ⟨rfl, rfl⟩) | (go_at_call 14; with_reducible refine (same_bare _ _ _ _ _ _).mono ?_; rintro e w8 ⟨rfl, hb⟩; replace hB := thenD hb hB rfl rfl rfl rfl; replace hA := resD hb hA; replace hP := resD hb hP; replace hC := resD hb hC; replace hL := stD hb hL rfl; clear hb) | (go_at_call 21; refine (TicSent.sent18_any _).mono ?_; rintro e w9 ⟨a9, c9, rfl, hK, hb⟩; replace hB := thenD hb hB rfl rfl rfl rfl; replace hA := resD hb hA; replace hP := resD hb hP; replace hC := resD hb hC; replace hL := stD hb hL rfl; clear hb) | (go_at_call 14; refine (HS.out _ _ _ (by exact hL) (by exact hK)).mono ?_; rintro e w10 ⟨rfl, hb⟩; replace hB := thenD hb hB rfl rfl rfl rfl; replace hA := resD hb hA; replace hP := resD hb hP; replace hC := resD hb hC; clear hb hL hK))
  go_wp2_with fail
  go_ret
  exact ⟨rfl, hB⟩
end Go.Proofs.Ytmbgdidelbkdgaa.TicAwake
