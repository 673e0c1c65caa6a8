/- The contract of status.Get: whatever it is asked, the device, the answer and the error that the plain functions give. -/
import Derived.Test.YthdnpgkoanfijaaStsAsk
import Derived.Deep.CutRange
import Derived.Deep.RegionWith
namespace Go.Proofs.Ythdnpgkoanfijaa.StsGet
open Go.Proofs.Ythdnpgkoanfijaa Go.RowKit Go.Proofs.Ythdnpgkoanfijaa.Bytes Go.Proofs.Ythdnpgkoanfijaa.Ops Go.Proofs.Ythdnpgkoanfijaa.OpsRow Go.Proofs.Ythdnpgkoanfijaa.Jou Go.Proofs.Ythdnpgkoanfijaa.Act Go.Proofs.Ythdnpgkoanfijaa.Dev Go.Proofs.Ythdnpgkoanfijaa.DevRow Go.Proofs.Ythdnpgkoanfijaa.DevSet Go.Proofs.Ythdnpgkoanfijaa.Dnl Go.Proofs.Ythdnpgkoanfijaa.DnlCopy Go.Proofs.Ythdnpgkoanfijaa.Tic Go.Proofs.Ythdnpgkoanfijaa.TicRow Go.Proofs.Ythdnpgkoanfijaa.Sts Go.Proofs.Ythdnpgkoanfijaa.StsWalk Go.Proofs.Ythdnpgkoanfijaa.StsAsk
open Go.Proofs.Ythdnpgkoanfijaa.DevWalk (build_d0)
open Go.Proofs.Ythdnpgkoanfijaa.DnlWalk (dev_steps)
attribute [local go_sem ↓] Go.wp_at_zero Go.wp_at_succ
theorem bD {B : Nat} {a w : World} (h : Below B a w) : Below B a w.drew := ⟨h.os, h.tape, h.output, h.size, h.block⟩
/-- What a call to Get gives: a device whose steps lie in memory made since and may be written, what it tells, an error. -/
def Got (w : World) (d : FDev) (e : Int) (r : Ending) (w' : World) : Prop := ∃ u, r = .returned (.tuple #[.agg #[.int .i64 d.sa, .int .i64 d.su, .int .i64 d.nx, .int .i64 d.gt, .int .i64 d.sl, u], .agg #[.int .i64 d.su, .int .i64 (tkI d), .int .i64 d.sa], .int .i64 e]) ∧ OwnSt w' w.heap.size u d.ops ∧ Below w.heap.size w w'
/-- A store into another block. -/
theorem ans_other {w : World} {B : Nat} {x y z : Value} (h : B < w.heap.size ∧ w.cell? ⟨B, 0, none⟩ = some x ∧ w.cell? ⟨B, 1, none⟩ = some y ∧ w.cell? ⟨B, 2, none⟩ = some z ∧ ∀ i, w.frozen? ⟨B, i, none⟩ = false) {A : Nat} (hA : A ≠ B) (i : Nat) (u : Value) : B < (w.setCell ⟨A, i, none⟩ u).heap.size ∧ (w.setCell ⟨A, i, none⟩ u).cell? ⟨B, 0, none⟩ = some x ∧ (w.setCell ⟨A, i, none⟩ u).cell? ⟨B, 1, none⟩ = some y ∧ (w.setCell ⟨A, i, none⟩ u).cell? ⟨B, 2, none⟩ = some z ∧ ∀ j, (w.setCell ⟨A, i, none⟩ u).frozen? ⟨B, j, none⟩ = false := by
  obtain ⟨h, h0, h1, h2, h6⟩ := h
  have o : ∀ j, (w.setCell ⟨A, i, none⟩ u).cell? ⟨B, j, none⟩ = w.cell? ⟨B, j, none⟩ := fun j => World.cell?_setCell_other w _ _ _ (ne_blk hA)
  exact ⟨by rw [size_set]; exact h, by rw [o 0]; exact h0, by rw [o 1]; exact h1, by rw [o 2]; exact h2, fun j => by rw [World.frozen?_setCell]; exact h6 j⟩
theorem ansD {w w' : World} {B : Nat} {x y z : Value} (hb : Below w.heap.size w w') (h : B < w.heap.size ∧ w.cell? ⟨B, 0, none⟩ = some x ∧ w.cell? ⟨B, 1, none⟩ = some y ∧ w.cell? ⟨B, 2, none⟩ = some z ∧ ∀ i, w.frozen? ⟨B, i, none⟩ = false) : B < w'.heap.size ∧ w'.cell? ⟨B, 0, none⟩ = some x ∧ w'.cell? ⟨B, 1, none⟩ = some y ∧ w'.cell? ⟨B, 2, none⟩ = some z ∧ ∀ i, w'.frozen? ⟨B, i, none⟩ = false := AnsWalk.resB h hb
theorem ansO6 {w : World} {B : Nat} {x y z : Value} (h : B < w.heap.size ∧ w.cell? ⟨B, 0, none⟩ = some x ∧ w.cell? ⟨B, 1, none⟩ = some y ∧ w.cell? ⟨B, 2, none⟩ = some z ∧ ∀ i, w.frozen? ⟨B, i, none⟩ = false) {A : Nat} (hA : A ≠ B) (y0 y1 y2 y3 y4 y5 : Value) : B < ((((((w.setCell ⟨A, 0, none⟩ y0).setCell ⟨A, 1, none⟩ y1).setCell ⟨A, 2, none⟩ y2).setCell ⟨A, 3, none⟩ y3).setCell ⟨A, 4, none⟩ y4).setCell ⟨A, 5, none⟩ y5).heap.size ∧ ((((((w.setCell ⟨A, 0, none⟩ y0).setCell ⟨A, 1, none⟩ y1).setCell ⟨A, 2, none⟩ y2).setCell ⟨A, 3, none⟩ y3).setCell ⟨A, 4, none⟩ y4).setCell ⟨A, 5, none⟩ y5).cell? ⟨B, 0, none⟩ = some x ∧ ((((((w.setCell ⟨A, 0, none⟩ y0).setCell ⟨A, 1, none⟩ y1).setCell ⟨A, 2, none⟩ y2).setCell ⟨A, 3, none⟩ y3).setCell ⟨A, 4, none⟩ y4).setCell ⟨A, 5, none⟩ y5).cell? ⟨B, 1, none⟩ = some y ∧ ((((((w.setCell ⟨A, 0, none⟩ y0).setCell ⟨A, 1, none⟩ y1).setCell ⟨A, 2, none⟩ y2).setCell ⟨A, 3, none⟩ y3).setCell ⟨A, 4, none⟩ y4).setCell ⟨A, 5, none⟩ y5).cell? ⟨B, 2, none⟩ = some z ∧ ∀ j, ((((((w.setCell ⟨A, 0, none⟩ y0).setCell ⟨A, 1, none⟩ y1).setCell ⟨A, 2, none⟩ y2).setCell ⟨A, 3, none⟩ y3).setCell ⟨A, 4, none⟩ y4).setCell ⟨A, 5, none⟩ y5).frozen? ⟨B, j, none⟩ = false :=
  ans_other (ans_other (ans_other (ans_other (ans_other (ans_other h hA 0 y0) hA 1 y1) hA 2 y2) hA 3 y3) hA 4 y4) hA 5 y5
theorem three_boxes (w : World) (x0 x1 x2 x3 x4 x5 : Value) : ∃ W, ((w.alloc (.cells #[x0, x1, x2, x3, x4, x5] 24)).alloc (.cells #[.int .i64 0, .int .i64 0, .int .i64 0, .int .i64 0, .int .i64 0, .slice none 0 0] 24)).alloc (.cells #[.int .i64 0, .int .i64 0, .int .i64 0] 27) = W ∧ Res W w.heap.size x0 x1 x2 x3 x4 x5 ∧ Res W (w.heap.size + 1) (.int .i64 0) (.int .i64 0) (.int .i64 0) (.int .i64 0) (.int .i64 0) (.slice none 0 0) ∧ (w.heap.size + 1 + 1 < W.heap.size ∧ W.cell? ⟨w.heap.size + 1 + 1, 0, none⟩ = some (.int .i64 0) ∧ W.cell? ⟨w.heap.size + 1 + 1, 1, none⟩ = some (.int .i64 0) ∧ W.cell? ⟨w.heap.size + 1 + 1, 2, none⟩ = some (.int .i64 0) ∧ ∀ i, W.frozen? ⟨w.heap.size + 1 + 1, i, none⟩ = false) ∧ Below w.heap.size w W ∧ w.heap.size + 1 + 1 + 1 = W.heap.size := by
  obtain ⟨hX, hR, hB, hs⟩ := two_boxes w x0 x1 x2 x3 x4 x5
  refine ⟨_, rfl, ?_⟩
  generalize (w.alloc (.cells #[x0, x1, x2, x3, x4, x5] 24)).alloc (.cells #[.int .i64 0, .int .i64 0, .int .i64 0, .int .i64 0, .int .i64 0, .slice none 0 0] 24) = W at *
  have hA := AnsWalk.resM W (.int .i64 0) (.int .i64 0) (.int .i64 0) 27
  rw [← hs] at hA
  exact ⟨resB hX (hal _ _), resB hR (hal _ _), hA, thenB hB (hal _ _), by rw [hs]; simp⟩
theorem both_no {f : ByteArray} {d : FDev} (h : bothB f d = false) : mayF f = false ∨ (mayF f = true ∧ devB d = false) := by
  unfold bothB at h
  cases h1 : mayF f with
  | false => exact .inl rfl
  | true => rw [h1] at h; exact .inr ⟨rfl, by simpa using h⟩
set_option maxRecDepth 100000 in
set_option maxHeartbeats 2000000 in
theorem get_none (f : ByteArray) (d : FDev) (v : Value) (w : World) (hv : IsSt w v d.ops) (h : bothB f d = false) : Calls Try.prog 9 #[.string f, .agg #[.int .i64 d.sa, .int .i64 d.su, .int .i64 d.nx, .int .i64 d.gt, .int .i64 d.sl, v]] w (Got w newD 1900) := by
  have HM := hide (fun w => NorWalk.may_any f w)
  have HD : Hid (∀ (w' : World), Below w.heap.size w w' → _) := fun w' hb => DevWalk.dmay_any d v w' (hv.below hb)
  obtain ⟨W, hW, hX, hR, hA, hB, hs⟩ := three_boxes w (.int .i64 d.sa) (.int .i64 d.su) (.int .i64 d.nx) (.int .i64 d.gt) (.int .i64 d.sl) v
  have b1 := build_d0
  have b2 := AnsWalk.build_no
  have hmm : NorWalk.mayB f = mayF f := rfl
  rw [hmm] at HM
  clear hmm
  unfold newD
  have hk : tkI ⟨0, 0, 0, 0, 0, []⟩ = 0 := rfl
  unfold Got
  rw [hk]
  clear hk
  obtain ⟨a, ca, rfl, _, _⟩ := hv
  subst hW
  rcases both_no h with h1 | ⟨h1, h2⟩
  · rw [h1] at HM
    clear h1 h
    go_enter Try.func9, Try.ntmps9
    go_wp2_with (go_at_call 21; refine (HM.out _).mono ?_; rintro e w' ⟨rfl, rfl⟩)
    exact bodyPost_ret (v := .tuple #[.agg #[.int .i64 0, .int .i64 0, .int .i64 0, .int .i64 0, .int .i64 0, .slice none 0 0], .agg #[.int .i64 0, .int .i64 0, .int .i64 0], .int .i64 1900]) (by simp [results, Try.results9, go_sem, hR, hA]) rfl ⟨_, rfl, own_none _ _, hB⟩
  · rw [h1] at HM
    rw [h2] at HD
    clear h1 h2 h
    go_enter Try.func9, Try.ntmps9
    go_wp2_with (first | (go_at_call 21; refine (HM.out _).mono ?_; rintro e w' ⟨rfl, rfl⟩) | (go_at_call 22; refine (HD.out _ hB).mono ?_; rintro e w' ⟨rfl, hb⟩; replace hB := thenB hB hb; replace hX := resB hX hb; replace hR := resB hR hb; replace hA := AnsWalk.resB hA hb; clear hb))
    exact bodyPost_ret (v := .tuple #[.agg #[.int .i64 0, .int .i64 0, .int .i64 0, .int .i64 0, .int .i64 0, .slice none 0 0], .agg #[.int .i64 0, .int .i64 0, .int .i64 0], .int .i64 1900]) (by simp [results, Try.results9, go_sem, hR, hA]) rfl ⟨_, rfl, own_none _ _, AnsWalk.set3 (set6 hB (Nat.le_succ _)) (by omega)⟩
set_option maxRecDepth 100000 in
set_option maxHeartbeats 2000000 in
theorem get_some (f : ByteArray) (d : FDev) (v : Value) (w : World) (hv : IsSt w v d.ops) (h : bothB f d = true) : Calls Try.prog 9 #[.string f, .agg #[.int .i64 d.sa, .int .i64 d.su, .int .i64 d.nx, .int .i64 d.gt, .int .i64 d.sl, v]] w (Got w (askD f d) 0) := by
  obtain ⟨h1, h2⟩ := both_parts.1 h
  have hl := (dev_parts h2).2.2.2
  have hm := dev_steps h2
  have HM := hide (fun w => NorWalk.may_any f w)
  have HD : Hid (∀ (w' : World), Below w.heap.size w w' → _) := fun w' hb => DevWalk.dmay_any d v w' (hv.below hb)
  have HF : Hid (∀ (w' : World), Below w.heap.size w w' → _) := fun w' hb => fresh_any d v w' (hv.below hb) hm hl
  have HK := hide (fun u w' base (hb : base ≤ w'.heap.size) (hu : OwnSt w' base u d.ops) => asked_any f d u w' base hb hu h2)
  have HA := hide (fun u w' (hu : IsSt w' u (askD f d).ops) => answerOf_any (askD f d) u w' hu)
  obtain ⟨W, hW, hX, hR, hA, hB, hs⟩ := three_boxes w (.int .i64 d.sa) (.int .i64 d.su) (.int .i64 d.nx) (.int .i64 d.gt) (.int .i64 d.sl) v
  have hmm : NorWalk.mayB f = mayF f := rfl
  rw [hmm, h1] at HM
  rw [h2] at HD
  clear hmm h h1 h2 hm hl
  unfold Got
  generalize tkI (askD f d) = K at *
  generalize askD f d = D at *
  obtain ⟨a, ca, rfl, _, _⟩ := hv
  obtain ⟨xa, xu, xn, xg, xl, xo⟩ := D
  obtain ⟨sa, su, nx, gt, sl, l⟩ := d
  dsimp only at *
  subst hW
  go_enter Try.func9, Try.ntmps9
  go_upto_region 3 with (first | (go_at_call 21; refine (HM.out _).mono ?_; rintro e w' ⟨rfl, rfl⟩) | (go_at_call 22; refine (HD.out _ hB).mono ?_; rintro e w' ⟨rfl, hb⟩; replace hB := thenB hB hb; replace hX := resB hX hb; replace hR := resB hR hb; replace hA := AnsWalk.resB hA hb; replace hs := Nat.le_trans (Nat.le_of_eq hs) hb.size; clear hb))
  clear HM HD
  go_wp2_with fail
  refine (HF.out _ hB).mono ?_
  rintro e w2 ⟨u, rfl, hown, hb⟩
  obtain ⟨a', c', rfl⟩ := owns_form hown
  have hO := (own_of hown).mono hs
  replace hs := Nat.le_trans hs hb.size
  replace hB := thenB hB hb
  replace hX := resB hX hb
  replace hR := resB hR hb
  replace hA := AnsWalk.resB hA hb
  clear hb hown HF
  go_wp2_with fail
  refine (HK.out _ _ _ hs hO).mono ?_
  rintro e w3 ⟨u, rfl, hO2, hb⟩
  obtain ⟨a3, c3, rfl⟩ := hO2.form
  replace hB := thenB hB hb
  replace hX := resB hX hb
  replace hR := resB hR hb
  replace hA := AnsWalk.resB hA hb
  clear hb hO hs HK
  have HB := hide hB
  have HR := hide hR
  have HAA := hide hA
  clear hB hR hA
  go_upto_region 4 with fail
  have hne : w.heap.size ≠ w.heap.size + 1 := Nat.ne_of_lt (Nat.lt_succ_self _)
  have hX := res6 hX (.int .i64 xa) (.int .i64 xu) (.int .i64 xn) (.int .i64 xg) (.int .i64 xl) (.slice a3 xo.length c3)
  have hR := resO6 HR.out hne (.int .i64 xa) (.int .i64 xu) (.int .i64 xn) (.int .i64 xg) (.int .i64 xl) (.slice a3 xo.length c3)
  have hA := ansO6 HAA.out (show w.heap.size ≠ w.heap.size + 1 + 1 by omega) (.int .i64 xa) (.int .i64 xu) (.int .i64 xn) (.int .i64 xg) (.int .i64 xl) (.slice a3 xo.length c3)
  have hB := set6 (x0 := .int .i64 xa) (x1 := .int .i64 xu) (x2 := .int .i64 xn) (x3 := .int .i64 xg) (x4 := .int .i64 xl) (x5 := .slice a3 xo.length c3) HB.out (Nat.le_refl w.heap.size)
  have hO := hO2.set6 (show w.heap.size < w.heap.size + 1 + 1 + 1 by omega) (.int .i64 xa) (.int .i64 xu) (.int .i64 xn) (.int .i64 xg) (.int .i64 xl) (.slice a3 xo.length c3)
  clear HB HR HAA hO2
  generalize (((((w3.setCell _ _).setCell _ _).setCell _ _).setCell _ _).setCell _ _).setCell _ _ = W4 at *
  go_region_with (go_at_call 25; refine (HA.out _ _ (by first | exact hO.is | exact hO.drewS)).mono ?_; rintro e w5 ⟨rfl, hb⟩; replace hO := hO.below (thenD hb (Below.refl W4.heap.size W4) rfl rfl rfl rfl); replace hB := thenD hb hB rfl rfl rfl rfl; replace hX := resD hb hX; replace hR := resD hb hR; replace hA := ansD hb hA; clear hb)
  all_goals
    go_wp2_with fail
    exact bodyPost_ret (v := .tuple #[.agg #[.int .i64 xa, .int .i64 xu, .int .i64 xn, .int .i64 xg, .int .i64 xl, .slice a3 xo.length c3], .agg #[.int .i64 xu, .int .i64 K, .int .i64 xa], .int .i64 0]) (by simp [results, Try.results9, go_sem, hR, hA]) rfl ⟨_, rfl, ((((hO.set6 (Nat.lt_succ_of_lt (Nat.lt_succ_self _)) _ _ _ _ _ _).set (Nat.lt_succ_self _) 0 _).set (Nat.lt_succ_self _) 1 _).set (Nat.lt_succ_self _) 2 _).mono (by omega), AnsWalk.set3 (set6 hB (Nat.le_succ _)) (by omega)⟩
theorem get_any (f : ByteArray) (d : FDev) (v : Value) (w : World) (hv : IsSt w v d.ops) : Calls Try.prog 9 #[.string f, .agg #[.int .i64 d.sa, .int .i64 d.su, .int .i64 d.nx, .int .i64 d.gt, .int .i64 d.sl, v]] w (Got w (getD f d) (errT (bothB f d))) := by
  cases h : bothB f d with
  | false => rw [get_no h]; exact get_none f d v w hv h
  | true => rw [get_ok h]; exact get_some f d v w hv h
end Go.Proofs.Ythdnpgkoanfijaa.StsGet
