/- The contracts of tick.Step and tick.Cut: whatever they are asked, the flash, the device and the error that the plain functions give. -/
import Derived.Test.YtmbgdidelbkdgaaTicWalk
namespace Go.Proofs.Ytmbgdidelbkdgaa.TicStep
open Go.Proofs.Ytmbgdidelbkdgaa Go.RowKit Go.Proofs.Ytmbgdidelbkdgaa.Bytes Go.Proofs.Ytmbgdidelbkdgaa.Ops Go.Proofs.Ytmbgdidelbkdgaa.OpsRow Go.Proofs.Ytmbgdidelbkdgaa.Jou Go.Proofs.Ytmbgdidelbkdgaa.Dev Go.Proofs.Ytmbgdidelbkdgaa.DevRow Go.Proofs.Ytmbgdidelbkdgaa.DevSet Go.Proofs.Ytmbgdidelbkdgaa.Dnl Go.Proofs.Ytmbgdidelbkdgaa.DnlCopy Go.Proofs.Ytmbgdidelbkdgaa.Tic Go.Proofs.Ytmbgdidelbkdgaa.TicRow Go.Proofs.Ytmbgdidelbkdgaa.TicWalk
open Go.Proofs.Ytmbgdidelbkdgaa.DevWalk (build_d0)
open Go.Proofs.Ytmbgdidelbkdgaa.ImgClone (clone_any)
open Go.Proofs.Ytmbgdidelbkdgaa.DnlWalk (dev_steps)
attribute [local go_sem ↓] Go.wp_at_zero Go.wp_at_succ
theorem bD {B : Nat} {a w : World} (h : Below B a w) : Below B a w.drew := ⟨h.os, h.tape, h.output, h.size, h.block⟩
/-- What a call to Step gives: a flash, a device whose steps lie in memory made since and may be written, an error. -/
def Ticked (w : World) (f : ByteArray) (d : FDev) (e : Int) (r : Ending) (w' : World) : Prop := ∃ u, r = .returned (.tuple #[.string f, .agg #[.int .i64 d.sa, .int .i64 d.su, .int .i64 d.nx, .int .i64 d.gt, .int .i64 d.sl, u], .int .i64 e]) ∧ OwnSt w' w.heap.size u d.ops ∧ Below w.heap.size w w'
theorem both_no {f : ByteArray} {d : FDev} (h : bothB f d = false) : mayF f = false ∨ (mayF f = true ∧ devB d = false) := by
  unfold bothB at h
  cases h1 : mayF f with
  | false => exact .inl rfl
  | true => rw [h1] at h; exact .inr ⟨rfl, by simpa using h⟩
set_option maxRecDepth 100000 in
set_option maxHeartbeats 2000000 in
theorem step_no (f : ByteArray) (d : FDev) (v : Value) (w : World) (hv : IsSt w v d.ops) (h : bothB f d = false) : Calls Try.prog 10 #[.string f, .agg #[.int .i64 d.sa, .int .i64 d.su, .int .i64 d.nx, .int .i64 d.gt, .int .i64 d.sl, v]] w (Ticked w ⟨#[]⟩ newD 1800) := by
  have HM := hide (fun w => NorWalk.may_any f w)
  have HD : Hid (∀ (w' : World), Below w.heap.size w w' → _) := fun w' hb => DevWalk.dmay_any d v w' (hv.below hb)
  obtain ⟨hX, hR, hB, hs⟩ := two_boxes w (.int .i64 d.sa) (.int .i64 d.su) (.int .i64 d.nx) (.int .i64 d.gt) (.int .i64 d.sl) v
  have b1 := build_d0
  have hmm : NorWalk.mayB f = mayF f := rfl
  rw [hmm] at HM
  clear hmm
  unfold newD
  obtain ⟨a, ca, rfl, _, _⟩ := hv
  rcases both_no h with h1 | ⟨h1, h2⟩
  · rw [h1] at HM
    clear h1 h
    go_enter Try.func10, Try.ntmps10
    go_wp2_with (go_at_call 25; refine (HM.out _).mono ?_; rintro e w' ⟨rfl, rfl⟩)
    exact bodyPost_ret (v := .tuple #[.string ⟨#[]⟩, .agg #[.int .i64 0, .int .i64 0, .int .i64 0, .int .i64 0, .int .i64 0, .slice none 0 0], .int .i64 1800]) (by simp [results, Try.results10, go_sem, hR]) rfl ⟨_, rfl, own_none _ _, hB⟩
  · rw [h1] at HM
    rw [h2] at HD
    clear h1 h2 h
    go_enter Try.func10, Try.ntmps10
    go_wp2_with (first | (go_at_call 25; refine (HM.out _).mono ?_; rintro e w' ⟨rfl, rfl⟩) | (go_at_call 26; refine (HD.out _ hB).mono ?_; rintro e w' ⟨rfl, hb⟩; replace hB := thenB hB hb; replace hX := resB hX hb; replace hR := resB hR hb; clear hb))
    exact bodyPost_ret (v := .tuple #[.string ⟨#[]⟩, .agg #[.int .i64 0, .int .i64 0, .int .i64 0, .int .i64 0, .int .i64 0, .slice none 0 0], .int .i64 1800]) (by simp [results, Try.results10, go_sem, hR]) rfl ⟨_, rfl, own_none _ _, set6 hB (Nat.le_succ _)⟩
set_option maxRecDepth 100000 in
set_option maxHeartbeats 2000000 in
theorem step_idle (f : ByteArray) (d : FDev) (v : Value) (w : World) (hv : IsSt w v d.ops) (h : bothB f d = true) (hd : dueB d = false) : Calls Try.prog 10 #[.string f, .agg #[.int .i64 d.sa, .int .i64 d.su, .int .i64 d.nx, .int .i64 d.gt, .int .i64 d.sl, v]] w (Ticked w f (setD d) 0) := by
  obtain ⟨h1, h2⟩ := both_parts.1 h
  have hf := may_size h1
  have hl := (dev_parts h2).2.2.2
  have hm := dev_steps h2
  have HM := hide (fun w => NorWalk.may_any f w)
  have HD : Hid (∀ (w' : World), Below w.heap.size w w' → _) := fun w' hb => DevWalk.dmay_any d v w' (hv.below hb)
  have HC := hide (fun w => clone_any f w (by omega))
  have HF : Hid (∀ (w' : World), Below w.heap.size w w' → _) := fun w' hb => fresh_any d v w' (hv.below hb) hm hl
  have HU := hide (fun u w' (hu : IsSt w' u d.ops) => dueN_any d u w' hu hd)
  have HS := hide (fun u w' base (hu : OwnSt w' base u d.ops) => settled_any d u w' base hu)
  obtain ⟨hX, hR, hB, hs⟩ := two_boxes w (.int .i64 d.sa) (.int .i64 d.su) (.int .i64 d.nx) (.int .i64 d.gt) (.int .i64 d.sl) v
  have hmm : NorWalk.mayB f = mayF f := rfl
  rw [hmm, h1] at HM
  rw [h2] at HD
  clear hmm h h1 h2 hd hm hl hf
  obtain ⟨a, ca, rfl, _, _⟩ := hv
  generalize setD d = D at *
  obtain ⟨xa, xu, xn, xg, xl, xo⟩ := D
  obtain ⟨sa, su, nx, gt, sl, l⟩ := d
  dsimp only at *
  go_enter Try.func10, Try.ntmps10
  go_upto_region 3 with (first | (go_at_call 25; refine (HM.out _).mono ?_; rintro e w' ⟨rfl, rfl⟩) | (go_at_call 26; refine (HD.out _ hB).mono ?_; rintro e w' ⟨rfl, hb⟩; replace hB := thenB hB hb; replace hX := resB hX hb; replace hR := resB hR hb; replace hs := Nat.le_trans (Nat.le_of_eq hs) hb.size; clear hb))
  clear HM HD
  go_cut [0] from 18 to 21 (fun s0 wx => s0 = .string f ∧ Below w.heap.size w wx ∧ Res wx (w.heap.size + 1) (.int .i64 0) (.int .i64 0) (.int .i64 0) (.int .i64 0) (.int .i64 0) (.slice none 0 0) ∧ ∃ a c, Res wx w.heap.size (.int .i64 sa) (.int .i64 su) (.int .i64 nx) (.int .i64 gt) (.int .i64 sl) (.slice a l.length c) ∧ OwnSt wx (w.heap.size + 1 + 1) (.slice a l.length c) l)
  case first =>
    go_region_with (first | (go_at_call 27; refine (HC.out _).mono ?_; rintro e w2 ⟨rfl, hb⟩; replace hB := thenD hb hB rfl rfl rfl rfl; replace hX := resD hb hX; replace hR := resD hb hR; replace hs := Nat.le_trans hs hb.size; clear hb) | (go_at_call 28; refine (HF.out _ (by first | exact hB | exact bD hB)).mono ?_; rintro e w3 ⟨u, rfl, hown, hb⟩; obtain ⟨a', c', rfl⟩ := owns_form hown; replace hB := thenD hb hB rfl rfl rfl rfl; replace hX := resD hb hX; replace hR := resD hb hR; have hO := (own_of hown).mono hs; clear hb hown))
    all_goals
      go_wp2_with fail
      go_meet
      exact ⟨rfl, set6 hB (Nat.le_refl _), resO6 hR (Nat.ne_of_lt (Nat.lt_succ_self _)) (.int .i64 sa) (.int .i64 su) (.int .i64 nx) (.int .i64 gt) (.int .i64 sl) (.slice a' l.length c'), a', c', res6 hX (.int .i64 sa) (.int .i64 su) (.int .i64 nx) (.int .i64 gt) (.int .i64 sl) (.slice a' l.length c'), hO.set6 (Nat.lt_succ_of_lt (Nat.lt_succ_self _)) (.int .i64 sa) (.int .i64 su) (.int .i64 nx) (.int .i64 gt) (.int .i64 sl) (.slice a' l.length c')⟩
  case rest =>
    clear hB hX hR hs
    obtain ⟨rfl, hB, hR, a2, c2, hX, hO⟩ := hcut
    go_wp2_with fail
    refine (HU.out _ _ hO.is).mono ?_
    rintro e w4 ⟨rfl, hb⟩
    have hn := hal w4 (.cells #[.bool false, .int .i64 0, .string ⟨#[]⟩] 40)
    replace hB := thenB (thenB hB hb) hn
    replace hR := resB (resB hR hb) hn
    replace hX := resB (resB hX hb) hn
    replace hO := (hO.below hb).below hn
    clear hb hn HU
    go_wp2_with fail
    refine (HS.out _ _ _ hO).mono ?_
    rintro e w5 ⟨u, rfl, hO2, hb⟩
    obtain ⟨a3, c3, rfl⟩ := hO2.form
    replace hB := thenB hB hb
    replace hR := resB hR hb
    clear hb hO hX HS
    go_wp2_with fail
    exact bodyPost_ret (v := .tuple #[.string f, .agg #[.int .i64 xa, .int .i64 xu, .int .i64 xn, .int .i64 xg, .int .i64 xl, .slice a3 xo.length c3], .int .i64 0]) (by simp [results, Try.results10, go_sem, hR]) rfl ⟨_, rfl, (hO2.set6 (Nat.lt_succ_self _) _ _ _ _ _ _).mono (by omega), set6 hB (Nat.le_succ _)⟩
set_option maxRecDepth 100000 in
set_option maxHeartbeats 2000000 in
theorem step_due (f : ByteArray) (d : FDev) (v : Value) (w : World) (hv : IsSt w v d.ops) (h : bothB f d = true) (o : FOp) (l : List FOp) (hw : workB d.sa = true) (hd : d.ops = o :: l) : Calls Try.prog 10 #[.string f, .agg #[.int .i64 d.sa, .int .i64 d.su, .int .i64 d.nx, .int .i64 d.gt, .int .i64 d.sl, v]] w (Ticked w (cutS f o.er o.pl o.tx 96) (setD ⟨d.sa, d.su, d.nx, d.gt, d.sl, l⟩) 0) := by
  obtain ⟨h1, h2⟩ := both_parts.1 h
  have hf := may_size h1
  have hl := (dev_parts h2).2.2.2
  have hm := dev_steps h2
  have HM := hide (fun w => NorWalk.may_any f w)
  have HD : Hid (∀ (w' : World), Below w.heap.size w w' → _) := fun w' hb => DevWalk.dmay_any d v w' (hv.below hb)
  have HC := hide (fun w => clone_any f w (by omega))
  have HF : Hid (∀ (w' : World), Below w.heap.size w w' → _) := fun w' hb => fresh_any d v w' (hv.below hb) hm hl
  have HU := hide (fun u w' (hu : IsSt w' u (o :: l)) => dueY_any d u w' o l hu hw)
  have HO := hide (fun w' => OpsWalk.do_any f o.er o.pl o.tx w')
  have HS := hide (fun u w' base (hu : OwnSt w' base u l) => settled_any ⟨d.sa, d.su, d.nx, d.gt, d.sl, l⟩ u w' base hu)
  obtain ⟨hX, hR, hB, hs⟩ := two_boxes w (.int .i64 d.sa) (.int .i64 d.su) (.int .i64 d.nx) (.int .i64 d.gt) (.int .i64 d.sl) v
  have hmm : NorWalk.mayB f = mayF f := rfl
  rw [hmm, h1] at HM
  rw [h2] at HD
  clear hmm h h1 h2 hm hl hf hw
  obtain ⟨a, ca, rfl, _, _⟩ := hv
  generalize setD ⟨d.sa, d.su, d.nx, d.gt, d.sl, l⟩ = D at *
  generalize cutS f o.er o.pl o.tx 96 = F at *
  generalize errO (cutOk f o.er o.pl o.tx 96) = E at *
  obtain ⟨xa, xu, xn, xg, xl, xo⟩ := D
  obtain ⟨sa, su, nx, gt, sl, lo⟩ := d
  dsimp only at *
  subst hd
  have hz : (o :: l).length = l.length + 1 := rfl
  rw [hz] at hX hR hB hs HD HF ⊢
  clear hz
  go_enter Try.func10, Try.ntmps10
  go_upto_region 3 with (first | (go_at_call 25; refine (HM.out _).mono ?_; rintro e w' ⟨rfl, rfl⟩) | (go_at_call 26; refine (HD.out _ hB).mono ?_; rintro e w' ⟨rfl, hb⟩; replace hB := thenB hB hb; replace hX := resB hX hb; replace hR := resB hR hb; replace hs := Nat.le_trans (Nat.le_of_eq hs) hb.size; clear hb))
  clear HM HD
  go_cut [0] from 18 to 21 (fun s0 wx => s0 = .string f ∧ Below w.heap.size w wx ∧ Res wx (w.heap.size + 1) (.int .i64 0) (.int .i64 0) (.int .i64 0) (.int .i64 0) (.int .i64 0) (.slice none 0 0) ∧ ∃ a c, Res wx w.heap.size (.int .i64 sa) (.int .i64 su) (.int .i64 nx) (.int .i64 gt) (.int .i64 sl) (.slice a (l.length + 1) c) ∧ OwnSt wx (w.heap.size + 1 + 1) (.slice a (l.length + 1) c) (o :: l))
  case first =>
    go_region_with (first | (go_at_call 27; refine (HC.out _).mono ?_; rintro e w2 ⟨rfl, hb⟩; replace hB := thenD hb hB rfl rfl rfl rfl; replace hX := resD hb hX; replace hR := resD hb hR; replace hs := Nat.le_trans hs hb.size; clear hb) | (go_at_call 28; refine (HF.out _ (by first | exact hB | exact bD hB)).mono ?_; rintro e w3 ⟨u, rfl, hown, hb⟩; obtain ⟨a', c', rfl⟩ := owns_form hown; replace hB := thenD hb hB rfl rfl rfl rfl; replace hX := resD hb hX; replace hR := resD hb hR; have hO := (own_of hown).mono hs; clear hb hown))
    all_goals
      go_wp2_with fail
      go_meet
      exact ⟨rfl, set6 hB (Nat.le_refl _), resO6 hR (Nat.ne_of_lt (Nat.lt_succ_self _)) (.int .i64 sa) (.int .i64 su) (.int .i64 nx) (.int .i64 gt) (.int .i64 sl) (.slice a' (l.length + 1) c'), a', c', res6 hX (.int .i64 sa) (.int .i64 su) (.int .i64 nx) (.int .i64 gt) (.int .i64 sl) (.slice a' (l.length + 1) c'), hO.set6 (Nat.lt_succ_of_lt (Nat.lt_succ_self _)) (.int .i64 sa) (.int .i64 su) (.int .i64 nx) (.int .i64 gt) (.int .i64 sl) (.slice a' (l.length + 1) c')⟩
  case rest =>
    clear hB hX hR hs
    obtain ⟨rfl, hB, hR, a2, c2, hX, hO⟩ := hcut
    go_wp2_with fail
    refine (HU.out _ _ hO.is).mono ?_
    rintro e w4 ⟨rfl, hb⟩
    have hn := hal w4 (.cells #[.bool o.er, .int .i64 o.pl, .string o.tx] 40)
    replace hB := thenB (thenB hB hb) hn
    replace hR := resB (resB hR hb) hn
    replace hX := resB (resB hX hb) hn
    replace hO := (hO.below hb).below hn
    clear hb hn HU
    go_wp2_with (go_at_call 30; refine (HO.out _).mono ?_; rintro e w5 ⟨rfl, hb⟩; replace hB := thenB hB hb; replace hR := resB hR hb; replace hX := resB hX hb; replace hO := hO.below hb; clear hb)
    all_goals
      obtain ⟨hO1, hO2⟩ := hO.rest
      first | have hO' := fun y => (hO1 (by assumption)).set (B := w.heap.size) (Nat.lt_succ_of_lt (Nat.lt_succ_self _)) 5 y | have hO' := fun y => (hO2 (by assumption)).set (B := w.heap.size) (Nat.lt_succ_of_lt (Nat.lt_succ_self _)) 5 y
      have hB' := hB.setCell (p := ⟨w.heap.size, 5, none⟩) (Nat.le_refl _)
      have hR' := fun y => resO hR (Nat.ne_of_lt (Nat.lt_succ_self w.heap.size)) 5 y
      clear hO1 hO2 hO
      refine (HS.out _ _ _ (hO' _)).mono ?_
      rintro e w6 ⟨u, rfl, hO2, hb⟩
      obtain ⟨a3, c3, rfl⟩ := hO2.form
      have hB2 := thenB (hB' _) hb
      have hR2 := resB (hR' _) hb
      clear hb hO' hX HS hR' hB' hB hR
      go_wp2_with fail
      exact bodyPost_ret (v := .tuple #[.string F, .agg #[.int .i64 xa, .int .i64 xu, .int .i64 xn, .int .i64 xg, .int .i64 xl, .slice a3 xo.length c3], .int .i64 0]) (by simp [results, Try.results10, go_sem, hR2]) rfl ⟨_, rfl, (hO2.set6 (Nat.lt_succ_self _) _ _ _ _ _ _).mono (by omega), set6 hB2 (Nat.le_succ _)⟩
end Go.Proofs.Ytmbgdidelbkdgaa.TicStep
