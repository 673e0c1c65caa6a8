/- The contracts of the document's own answers to package tick: they give what the same plain functions give. -/
import Derived.Test.YtmbgdidelbkdgaaTicRef
import Derived.Test.YtmbgdidelbkdgaaTicRow
import Derived.Test.YtmbgdidelbkdgaaDnlRef
import Derived.Test.YtmbgdidelbkdgaaBagOps
import Derived.Laws.AppendOwnNone
import Derived.BigRegion
namespace Go.Proofs.Ytmbgdidelbkdgaa.TicDoc
open Go.Proofs.Ytmbgdidelbkdgaa Go.RowKit Go.Proofs.Ytmbgdidelbkdgaa.Bytes Go.Proofs.Ytmbgdidelbkdgaa.Ops Go.Proofs.Ytmbgdidelbkdgaa.OpsRow Go.Proofs.Ytmbgdidelbkdgaa.Jou Go.Proofs.Ytmbgdidelbkdgaa.Dev Go.Proofs.Ytmbgdidelbkdgaa.DevRow Go.Proofs.Ytmbgdidelbkdgaa.DevSet Go.Proofs.Ytmbgdidelbkdgaa.Dnl Go.Proofs.Ytmbgdidelbkdgaa.DnlCopy Go.Proofs.Ytmbgdidelbkdgaa.DnlRef Go.Proofs.Ytmbgdidelbkdgaa.Tic Go.Proofs.Ytmbgdidelbkdgaa.TicRow Go.Proofs.Ytmbgdidelbkdgaa.TicRef
open Go.Proofs.Ytmbgdidelbkdgaa.DevWalk (build_d0)
open Go.Proofs.Ytmbgdidelbkdgaa.OpsWalk (info_op)
open Go.Proofs.Ytmbgdidelbkdgaa.NorWalk (ret_bool)
attribute [local go_sem ↓] Go.wp_at_zero Go.wp_at_succ
set_option maxRecDepth 100000 in
set_option maxHeartbeats 4000000 in
theorem ref_dueA (f : ByteArray) (d : FDev) (v : Value) (w : World) (hv : IsSt w v d.ops) (h : bothB f d = true) (o : FOp) (l : List FOp) (hw : workB d.sa = true) (hd : d.ops = o :: l) (h0 : 0 < l.length) : Calls Try.prog 11 #[.string f, .agg #[.int .i64 d.sa, .int .i64 d.su, .int .i64 d.nx, .int .i64 d.gt, .int .i64 d.sl, v]] w (RefTicked w (cutS f o.er o.pl o.tx 96) ⟨d.sa, d.su, d.nx, d.gt, d.sl, l⟩ 0) := by
  have h := both_parts.1 h
  have hl := (dev_parts h.2).2.2.2
  have HD : Hid (∀ (w' : World), Below w.heap.size w w' → _) := fun w' hb => both_any f d v w' (hv.below hb)
  have HC : Hid (∀ (w' : World), Below w.heap.size w w' → _) := fun w' hb => copyRef_any d v w' (by omega) (hv.below hb)
  have HW := hide (fun v w' => work_any d.sa d.su d.nx d.gt d.sl v w')
  obtain ⟨hX, hR, hB, hs⟩ := two_boxes w (.int .i64 d.sa) (.int .i64 d.su) (.int .i64 d.nx) (.int .i64 d.gt) (.int .i64 d.sl) v
  rw [h.1, h.2, Bool.true_and] at HD
  rw [hw] at HW
  have HO := hide (fun w' => OpsRef.refDo_any f o.er o.pl o.tx w')
  obtain ⟨i, hi, hz0, hz1, hz2⟩ := info_parts info_op
  have hv2 := hv
  rw [hd] at hv2
  obtain ⟨b, of, cap, rfl, c1, c2, c3, hin, _, _, _⟩ := is_first hv2
  generalize cutS f o.er o.pl o.tx 96 = F at *
  generalize errO (cutOk f o.er o.pl o.tx 96) = E at *
  clear h
  obtain ⟨sa, su, nx, gt, sl, lo⟩ := d
  dsimp only at *
  clear hv hv2
  subst hd
  have hz : (o :: l).length = (l.length + 1) := rfl
  rw [hz] at HC hl
  clear hz
  have h4 : (0 : Int) < ((l.length + 1 : Nat) : Int) := by omega
  have h5 : (0 : Int) < (l.length : Int) := by omega
  go_enter Try.func11, Try.ntmps11
  go_upto_region 3 with (go_at_call 32; refine (HD.out _ hB).mono ?_; rintro e w' ⟨rfl, hb⟩; replace hB := thenB hB hb; replace hX := resB hX hb; replace hR := resB hR hb; replace hs := Nat.le_trans (Nat.le_of_eq hs) hb.size; clear hb)
  clear HD
  go_wp2_with fail
  refine (HC.out _ hB).mono ?_
  rintro e w2 ⟨⟨u, rfl, hown⟩, hb⟩
  replace hB := thenB hB hb
  replace hR := resB hR hb
  replace hX := resB hX hb
  obtain ⟨a', c', rfl⟩ := owns_form hown
  have hU := (own_of hown).mono hs
  replace hs := Nat.le_trans hs hb.size
  clear hb HC hown
  have hO := resM w2 (.int .i64 sa) (.int .i64 su) (.int .i64 nx) (.int .i64 gt) (.int .i64 sl) (.slice a' (l.length + 1) c') 24
  have hn := hal w2 (.cells #[.int .i64 sa, .int .i64 su, .int .i64 nx, .int .i64 gt, .int .i64 sl, .slice a' (l.length + 1) c'] 24)
  replace hB := thenB hB hn
  replace hR := resB hR hn
  replace hX := resB hX hn
  replace hU := hU.below hn
  have hs3 := Nat.le_trans hs hn.size
  clear hn
  go_upto_region 4 with fail
  generalize w2.alloc _ = W2 at *
  generalize w2.heap.size = B3 at *
  go_upto_region 7 with (go_at_call 34; refine (HW.out _ _).mono ?_; rintro e w' ⟨rfl, hb⟩; replace hB := thenB hB hb; replace hX := resB hX hb; replace hR := resB hR hb; replace hO := resB hO hb; clear hb)
  have hi2 := hin.below hB c3
  have e0 := hi2.er 0 (by simp)
  have e1 := hi2.pl 0 (by simp)
  have e2 := hi2.tx 0 (by simp)
  simp only [Nat.zero_mul, Nat.add_zero, List.getElem_cons_zero] at e0 e1 e2
  clear hi2 hU HW
  go_upto_region 8 with (go_at_call 20; refine (HO.out _).mono ?_; rintro e w5 ⟨rfl, hb⟩; replace hB := thenB hB hb; replace hX := resB hX hb; replace hR := resB hR hb; replace hO := resB hO hb; clear hb)
  have hi5 := hin.below (hB.alloc hB.size (.cells #[] 40)) c3
  have hB5 : B3 < w5.heap.size := hO.1
  clear e0 e1 e2 HO hin
  have hnew : (w5.alloc (.cells #[] 40)).ownsRow w5.heap.size 40 3 (.slice (some ⟨w5.heap.size, 0, none⟩) 0 0) 0 [] := ⟨rfl, .inr ⟨_, _, #[], rfl, Nat.le_refl _, heap_alloc_new w5 _, Nat.le_refl _, Nat.zero_le _, rfl, rfl⟩⟩
  have hc : ¬ cap = 1 := by omega
  have hns := news_in (st_tail hi5)
  have HB := hide hB
  clear hB
  go_upto_region 9 with (at_builtin; refine wpList_append_own_at _ rfl _ _ _ rfl w5.heap.size 40 i _ 3 32 Try.underlying22 hi hz0 hz1 hz2 rfl (by omega) _ 0 _ rfl hnew ⟨b, of + 3, none⟩ l.length (cap - 1) (flat l) rfl (by rw [length_flat]) hns (flat_oneCell l) (by unfold maxLen; omega) (by omega) (by simp) ?_; intro v' w6 hown6 hgrow _ _; rw [Nat.zero_add, List.nil_append] at hown6; obtain ⟨a6, c6, rfl⟩ := owns_form hown6; have hb1 := ((Below.refl w5.heap.size w5).alloc (Nat.le_refl _) (.cells #[] 40)).grown hgrow (by simp) (fun k hk => by obtain rfl := Option.some.inj hk; exact Nat.le_refl _); replace hX := resB hX hb1; replace hR := resB hR hb1; replace hO := resB hO hb1)
  have hq0 : B3 ≠ w.heap.size := by omega
  have hq1 : B3 ≠ w.heap.size + 1 := by omega
  replace hO := res5 hO (.slice a6 l.length c6)
  replace hR := resO hR hq1 5 (.slice a6 l.length c6)
  replace hX := resO hX hq0 5 (.slice a6 l.length c6)
  have hB := (thenB HB.out hb1).setCell (p := ⟨B3, 5, none⟩) (show w.heap.size ≤ B3 by omega) (.slice a6 l.length c6)
  have hU := (own_of (l := l) hown6).set (B := B3) hB5 5 (.slice a6 l.length c6)
  clear HB hb1 hown6 hgrow hns hnew hi5
  generalize World.setCell _ _ _ = W7 at *
  go_upto_region 10 with fail
  replace hU := hU.mono (show w.heap.size + 1 + 1 ≤ w5.heap.size by omega)
  go_region
  go_wp2_with fail
  exact bodyPost_ret (v := .tuple #[.string F, .agg #[.int .i64 sa, .int .i64 su, .int .i64 nx, .int .i64 gt, .int .i64 sl, .slice a6 l.length c6], .int .i64 0]) (by simp [results, Try.results11, go_sem, hR]) rfl ⟨_, rfl, (hU.set6 (Nat.lt_succ_self _) _ _ _ _ _ _).drewS, bD (set6 hB (Nat.le_succ _))⟩
set_option maxRecDepth 100000 in
set_option maxHeartbeats 4000000 in
theorem ref_due5 (f : ByteArray) (d : FDev) (v : Value) (w : World) (hv : IsSt w v d.ops) (h : bothB f d = true) (o : FOp) (hw : d.sa = 5) (hd : d.ops = [o]) : Calls Try.prog 11 #[.string f, .agg #[.int .i64 d.sa, .int .i64 d.su, .int .i64 d.nx, .int .i64 d.gt, .int .i64 d.sl, v]] w (RefTicked w (cutS f o.er o.pl o.tx 96) newD 0) := by
  have h := both_parts.1 h
  have hl := (dev_parts h.2).2.2.2
  have HD : Hid (∀ (w' : World), Below w.heap.size w w' → _) := fun w' hb => both_any f d v w' (hv.below hb)
  have HC : Hid (∀ (w' : World), Below w.heap.size w w' → _) := fun w' hb => copyRef_any d v w' (by omega) (hv.below hb)
  have HW := hide (fun v w' => work_any d.sa d.su d.nx d.gt d.sl v w')
  obtain ⟨hX, hR, hB, hs⟩ := two_boxes w (.int .i64 d.sa) (.int .i64 d.su) (.int .i64 d.nx) (.int .i64 d.gt) (.int .i64 d.sl) v
  rw [h.1, h.2, Bool.true_and] at HD
  rw [show workB d.sa = true from by rw [hw]; rfl] at HW
  have HO := hide (fun w' => OpsRef.refDo_any f o.er o.pl o.tx w')
  obtain ⟨i, hi, hz0, hz1, hz2⟩ := info_parts info_op
  have hv2 := hv
  rw [hd] at hv2
  obtain ⟨b, of, cap, rfl, c1, c2, c3, hin, _, _, _⟩ := is_first hv2
  generalize cutS f o.er o.pl o.tx 96 = F at *
  generalize errO (cutOk f o.er o.pl o.tx 96) = E at *
  clear h
  obtain ⟨sa, su, nx, gt, sl, lo⟩ := d
  dsimp only at *
  clear hv hv2
  subst hw hd
  have hz : (o :: []).length = 1 := rfl
  rw [hz] at HC hl
  clear hz
  have hz : ([] : List FOp).length + 1 = 1 := rfl
  rw [hz] at hX hR hB hs HD c1 ⊢
  clear hz
  go_enter Try.func11, Try.ntmps11
  go_upto_region 3 with (go_at_call 32; refine (HD.out _ hB).mono ?_; rintro e w' ⟨rfl, hb⟩; replace hB := thenB hB hb; replace hX := resB hX hb; replace hR := resB hR hb; replace hs := Nat.le_trans (Nat.le_of_eq hs) hb.size; clear hb)
  clear HD
  go_wp2_with fail
  refine (HC.out _ hB).mono ?_
  rintro e w2 ⟨⟨u, rfl, hown⟩, hb⟩
  replace hB := thenB hB hb
  replace hR := resB hR hb
  replace hX := resB hX hb
  obtain ⟨a', c', rfl⟩ := owns_form hown
  have hU := (own_of hown).mono hs
  replace hs := Nat.le_trans hs hb.size
  clear hb HC hown
  have hO := resM w2 (.int .i64 5) (.int .i64 su) (.int .i64 nx) (.int .i64 gt) (.int .i64 sl) (.slice a' 1 c') 24
  have hn := hal w2 (.cells #[.int .i64 5, .int .i64 su, .int .i64 nx, .int .i64 gt, .int .i64 sl, .slice a' 1 c'] 24)
  replace hB := thenB hB hn
  replace hR := resB hR hn
  replace hX := resB hX hn
  replace hU := hU.below hn
  have hs3 := Nat.le_trans hs hn.size
  clear hn
  go_upto_region 4 with fail
  generalize w2.alloc _ = W2 at *
  generalize w2.heap.size = B3 at *
  go_upto_region 7 with (go_at_call 34; refine (HW.out _ _).mono ?_; rintro e w' ⟨rfl, hb⟩; replace hB := thenB hB hb; replace hX := resB hX hb; replace hR := resB hR hb; replace hO := resB hO hb; clear hb)
  have hi2 := hin.below hB c3
  have e0 := hi2.er 0 (by simp)
  have e1 := hi2.pl 0 (by simp)
  have e2 := hi2.tx 0 (by simp)
  simp only [Nat.zero_mul, Nat.add_zero, List.getElem_cons_zero] at e0 e1 e2
  clear hi2 hU HW
  go_upto_region 8 with (go_at_call 20; refine (HO.out _).mono ?_; rintro e w5 ⟨rfl, hb⟩; replace hB := thenB hB hb; replace hX := resB hX hb; replace hR := resB hR hb; replace hO := resB hO hb; clear hb)
  have hi5 := hin.below (hB.alloc hB.size (.cells #[] 40)) c3
  have hB5 : B3 < w5.heap.size := hO.1
  clear e0 e1 e2 HO hin
  have hnew : (w5.alloc (.cells #[] 40)).ownsRow w5.heap.size 40 3 (.slice (some ⟨w5.heap.size, 0, none⟩) 0 0) 0 [] := ⟨rfl, .inr ⟨_, _, #[], rfl, Nat.le_refl _, heap_alloc_new w5 _, Nat.le_refl _, Nat.zero_le _, rfl, rfl⟩⟩
  by_cases hc : cap = 1
  · skip
    subst hc
    have hns := news_in (w := w5.alloc (.cells #[] 40)) (l := []) (b := b) (o := of) ⟨fun i hi => absurd hi (by simp), fun i hi => absurd hi (by simp), fun i hi => absurd hi (by simp)⟩
    have HB := hide hB
    clear hB
    go_upto_region 9 with (at_builtin; refine wpList_append_own_at _ rfl _ _ _ rfl w5.heap.size 40 i _ 3 32 Try.underlying22 hi hz0 hz1 hz2 rfl (by omega) _ 0 _ rfl hnew ⟨b, of, none⟩ 0 0 (flat []) rfl (by rw [length_flat]; rfl) hns (flat_oneCell []) (by unfold maxLen; omega) (by omega) (by simp) ?_; intro v' w6 hown6 hgrow _ _; rw [Nat.zero_add, List.nil_append] at hown6; obtain ⟨a6, c6, rfl⟩ := owns_form hown6; have hb1 := ((Below.refl w5.heap.size w5).alloc (Nat.le_refl _) (.cells #[] 40)).grown hgrow (by simp) (fun k hk => by obtain rfl := Option.some.inj hk; exact Nat.le_refl _); replace hX := resB hX hb1; replace hR := resB hR hb1; replace hO := resB hO hb1)
    have hq0 : B3 ≠ w.heap.size := by omega
    have hq1 : B3 ≠ w.heap.size + 1 := by omega
    replace hO := res5 hO (.slice a6 0 c6)
    replace hR := resO hR hq1 5 (.slice a6 0 c6)
    replace hX := resO hX hq0 5 (.slice a6 0 c6)
    have hB := (thenB HB.out hb1).setCell (p := ⟨B3, 5, none⟩) (show w.heap.size ≤ B3 by omega) (.slice a6 0 c6)
    have hU := (own_of (l := []) hown6).set (B := B3) hB5 5 (.slice a6 0 c6)
    clear HB hb1 hown6 hgrow hns hnew hi5
    generalize World.setCell _ _ _ = W7 at *
    go_wp2_with (first | (go_at_call 34; refine (HW.out _ _).mono ?_; rintro e w' ⟨rfl, hb⟩; replace hB := thenB hB hb; replace hX := resB hX hb; replace hR := resB hR hb; replace hO := resB hO hb; replace hU := hU.below hb; clear hb) | (go_at_call 35; refine (DevRef.newRef_any _).mono ?_; rintro e w7 ⟨rfl, hb⟩; replace hB := thenB hB hb; replace hR := resB hR hb; clear hb))
    exact bodyPost_ret (v := .tuple #[.string F, .agg #[.int .i64 0, .int .i64 0, .int .i64 0, .int .i64 0, .int .i64 0, .slice none 0 0], .int .i64 0]) (by simp [results, Try.results11, go_sem, hR]) rfl ⟨_, rfl, isSt_nil _, set6 hB (Nat.le_succ _)⟩
  · skip
    have hns := news_in (st_tail hi5)
    have HB := hide hB
    clear hB
    go_upto_region 9 with (at_builtin; refine wpList_append_own_at _ rfl _ _ _ rfl w5.heap.size 40 i _ 3 32 Try.underlying22 hi hz0 hz1 hz2 rfl (by omega) _ 0 _ rfl hnew ⟨b, of + 3, none⟩ 0 (cap - 1) (flat []) rfl (by rw [length_flat]; rfl) hns (flat_oneCell []) (by unfold maxLen; omega) (by omega) (by simp) ?_; intro v' w6 hown6 hgrow _ _; rw [Nat.zero_add, List.nil_append] at hown6; obtain ⟨a6, c6, rfl⟩ := owns_form hown6; have hb1 := ((Below.refl w5.heap.size w5).alloc (Nat.le_refl _) (.cells #[] 40)).grown hgrow (by simp) (fun k hk => by obtain rfl := Option.some.inj hk; exact Nat.le_refl _); replace hX := resB hX hb1; replace hR := resB hR hb1; replace hO := resB hO hb1)
    have hq0 : B3 ≠ w.heap.size := by omega
    have hq1 : B3 ≠ w.heap.size + 1 := by omega
    replace hO := res5 hO (.slice a6 0 c6)
    replace hR := resO hR hq1 5 (.slice a6 0 c6)
    replace hX := resO hX hq0 5 (.slice a6 0 c6)
    have hB := (thenB HB.out hb1).setCell (p := ⟨B3, 5, none⟩) (show w.heap.size ≤ B3 by omega) (.slice a6 0 c6)
    have hU := (own_of (l := []) hown6).set (B := B3) hB5 5 (.slice a6 0 c6)
    clear HB hb1 hown6 hgrow hns hnew hi5
    generalize World.setCell _ _ _ = W7 at *
    go_wp2_with (first | (go_at_call 34; refine (HW.out _ _).mono ?_; rintro e w' ⟨rfl, hb⟩; replace hB := thenB hB hb; replace hX := resB hX hb; replace hR := resB hR hb; replace hO := resB hO hb; replace hU := hU.below hb; clear hb) | (go_at_call 35; refine (DevRef.newRef_any _).mono ?_; rintro e w7 ⟨rfl, hb⟩; replace hB := thenB hB hb; replace hR := resB hR hb; clear hb))
    exact bodyPost_ret (v := .tuple #[.string F, .agg #[.int .i64 0, .int .i64 0, .int .i64 0, .int .i64 0, .int .i64 0, .slice none 0 0], .int .i64 0]) (by simp [results, Try.results11, go_sem, hR]) rfl ⟨_, rfl, isSt_nil _, set6 hB (Nat.le_succ _)⟩
set_option maxRecDepth 100000 in
set_option maxHeartbeats 4000000 in
theorem ref_due2 (f : ByteArray) (d : FDev) (v : Value) (w : World) (hv : IsSt w v d.ops) (h : bothB f d = true) (o : FOp) (hw : d.sa = 2) (hd : d.ops = [o]) : Calls Try.prog 11 #[.string f, .agg #[.int .i64 d.sa, .int .i64 d.su, .int .i64 d.nx, .int .i64 d.gt, .int .i64 d.sl, v]] w (RefTicked w (cutS f o.er o.pl o.tx 96) ⟨1, d.su, d.nx, d.gt, d.sl, []⟩ 0) := by
  have h := both_parts.1 h
  have hl := (dev_parts h.2).2.2.2
  have HD : Hid (∀ (w' : World), Below w.heap.size w w' → _) := fun w' hb => both_any f d v w' (hv.below hb)
  have HC : Hid (∀ (w' : World), Below w.heap.size w w' → _) := fun w' hb => copyRef_any d v w' (by omega) (hv.below hb)
  have HW := hide (fun v w' => work_any d.sa d.su d.nx d.gt d.sl v w')
  obtain ⟨hX, hR, hB, hs⟩ := two_boxes w (.int .i64 d.sa) (.int .i64 d.su) (.int .i64 d.nx) (.int .i64 d.gt) (.int .i64 d.sl) v
  rw [h.1, h.2, Bool.true_and] at HD
  rw [show workB d.sa = true from by rw [hw]; rfl] at HW
  have HO := hide (fun w' => OpsRef.refDo_any f o.er o.pl o.tx w')
  obtain ⟨i, hi, hz0, hz1, hz2⟩ := info_parts info_op
  have hv2 := hv
  rw [hd] at hv2
  obtain ⟨b, of, cap, rfl, c1, c2, c3, hin, _, _, _⟩ := is_first hv2
  generalize cutS f o.er o.pl o.tx 96 = F at *
  generalize errO (cutOk f o.er o.pl o.tx 96) = E at *
  clear h
  obtain ⟨sa, su, nx, gt, sl, lo⟩ := d
  dsimp only at *
  clear hv hv2
  subst hw hd
  have hz : (o :: []).length = 1 := rfl
  rw [hz] at HC hl
  clear hz
  have hz : ([] : List FOp).length + 1 = 1 := rfl
  rw [hz] at hX hR hB hs HD c1 ⊢
  clear hz
  go_enter Try.func11, Try.ntmps11
  go_upto_region 3 with (go_at_call 32; refine (HD.out _ hB).mono ?_; rintro e w' ⟨rfl, hb⟩; replace hB := thenB hB hb; replace hX := resB hX hb; replace hR := resB hR hb; replace hs := Nat.le_trans (Nat.le_of_eq hs) hb.size; clear hb)
  clear HD
  go_wp2_with fail
  refine (HC.out _ hB).mono ?_
  rintro e w2 ⟨⟨u, rfl, hown⟩, hb⟩
  replace hB := thenB hB hb
  replace hR := resB hR hb
  replace hX := resB hX hb
  obtain ⟨a', c', rfl⟩ := owns_form hown
  have hU := (own_of hown).mono hs
  replace hs := Nat.le_trans hs hb.size
  clear hb HC hown
  have hO := resM w2 (.int .i64 2) (.int .i64 su) (.int .i64 nx) (.int .i64 gt) (.int .i64 sl) (.slice a' 1 c') 24
  have hn := hal w2 (.cells #[.int .i64 2, .int .i64 su, .int .i64 nx, .int .i64 gt, .int .i64 sl, .slice a' 1 c'] 24)
  replace hB := thenB hB hn
  replace hR := resB hR hn
  replace hX := resB hX hn
  replace hU := hU.below hn
  have hs3 := Nat.le_trans hs hn.size
  clear hn
  go_upto_region 4 with fail
  generalize w2.alloc _ = W2 at *
  generalize w2.heap.size = B3 at *
  go_upto_region 7 with (go_at_call 34; refine (HW.out _ _).mono ?_; rintro e w' ⟨rfl, hb⟩; replace hB := thenB hB hb; replace hX := resB hX hb; replace hR := resB hR hb; replace hO := resB hO hb; clear hb)
  have hi2 := hin.below hB c3
  have e0 := hi2.er 0 (by simp)
  have e1 := hi2.pl 0 (by simp)
  have e2 := hi2.tx 0 (by simp)
  simp only [Nat.zero_mul, Nat.add_zero, List.getElem_cons_zero] at e0 e1 e2
  clear hi2 hU HW
  go_upto_region 8 with (go_at_call 20; refine (HO.out _).mono ?_; rintro e w5 ⟨rfl, hb⟩; replace hB := thenB hB hb; replace hX := resB hX hb; replace hR := resB hR hb; replace hO := resB hO hb; clear hb)
  have hi5 := hin.below (hB.alloc hB.size (.cells #[] 40)) c3
  have hB5 : B3 < w5.heap.size := hO.1
  clear e0 e1 e2 HO hin
  have hnew : (w5.alloc (.cells #[] 40)).ownsRow w5.heap.size 40 3 (.slice (some ⟨w5.heap.size, 0, none⟩) 0 0) 0 [] := ⟨rfl, .inr ⟨_, _, #[], rfl, Nat.le_refl _, heap_alloc_new w5 _, Nat.le_refl _, Nat.zero_le _, rfl, rfl⟩⟩
  by_cases hc : cap = 1
  · skip
    subst hc
    have hns := news_in (w := w5.alloc (.cells #[] 40)) (l := []) (b := b) (o := of) ⟨fun i hi => absurd hi (by simp), fun i hi => absurd hi (by simp), fun i hi => absurd hi (by simp)⟩
    have HB := hide hB
    clear hB
    go_upto_region 9 with (at_builtin; refine wpList_append_own_at _ rfl _ _ _ rfl w5.heap.size 40 i _ 3 32 Try.underlying22 hi hz0 hz1 hz2 rfl (by omega) _ 0 _ rfl hnew ⟨b, of, none⟩ 0 0 (flat []) rfl (by rw [length_flat]; rfl) hns (flat_oneCell []) (by unfold maxLen; omega) (by omega) (by simp) ?_; intro v' w6 hown6 hgrow _ _; rw [Nat.zero_add, List.nil_append] at hown6; obtain ⟨a6, c6, rfl⟩ := owns_form hown6; have hb1 := ((Below.refl w5.heap.size w5).alloc (Nat.le_refl _) (.cells #[] 40)).grown hgrow (by simp) (fun k hk => by obtain rfl := Option.some.inj hk; exact Nat.le_refl _); replace hX := resB hX hb1; replace hR := resB hR hb1; replace hO := resB hO hb1)
    have hq0 : B3 ≠ w.heap.size := by omega
    have hq1 : B3 ≠ w.heap.size + 1 := by omega
    replace hO := res5 hO (.slice a6 0 c6)
    replace hR := resO hR hq1 5 (.slice a6 0 c6)
    replace hX := resO hX hq0 5 (.slice a6 0 c6)
    have hB := (thenB HB.out hb1).setCell (p := ⟨B3, 5, none⟩) (show w.heap.size ≤ B3 by omega) (.slice a6 0 c6)
    have hU := (own_of (l := []) hown6).set (B := B3) hB5 5 (.slice a6 0 c6)
    clear HB hb1 hown6 hgrow hns hnew hi5
    generalize World.setCell _ _ _ = W7 at *
    replace hU := hU.mono (show w.heap.size + 1 + 1 ≤ w5.heap.size by omega)
    go_upto_region 13 with (first | (go_at_call 34; refine (HW.out _ _).mono ?_; rintro e w' ⟨rfl, hb⟩; replace hB := thenB hB hb; replace hX := resB hX hb; replace hR := resB hR hb; replace hO := resB hO hb; replace hU := hU.below hb; clear hb) | (go_at_call 35; refine (DevRef.newRef_any _).mono ?_; rintro e w7 ⟨rfl, hb⟩; replace hB := thenB hB hb; replace hR := resB hR hb; clear hb))
    have HB := hide hB
    have HR := hide hR
    have HU := hide hU
    clear hB hR hU
    go_upto_region 14 with fail
    replace hO := res0 hO (.int .i64 1)
    have hR := resO HR.out hq1 0 (.int .i64 1)
    have hB := HB.out.setCell (p := ⟨B3, 0, none⟩) (show w.heap.size ≤ B3 by omega) (.int .i64 1)
    have hU := HU.out.empty (w' := W7.setCell ⟨B3, 0, none⟩ (.int .i64 1)) (base' := w.heap.size + 1 + 1)
    clear HB HR HU
    generalize World.setCell _ _ _ = W3 at *
    go_region
    go_wp2_with fail
    exact bodyPost_ret (v := .tuple #[.string F, .agg #[.int .i64 1, .int .i64 su, .int .i64 nx, .int .i64 gt, .int .i64 sl, .slice a6 0 c6], .int .i64 0]) (by simp [results, Try.results11, go_sem, hR]) rfl ⟨_, rfl, (hU.set6 (Nat.lt_succ_self _) _ _ _ _ _ _).drewS, bD (set6 hB (Nat.le_succ _))⟩
  · skip
    have hns := news_in (st_tail hi5)
    have HB := hide hB
    clear hB
    go_upto_region 9 with (at_builtin; refine wpList_append_own_at _ rfl _ _ _ rfl w5.heap.size 40 i _ 3 32 Try.underlying22 hi hz0 hz1 hz2 rfl (by omega) _ 0 _ rfl hnew ⟨b, of + 3, none⟩ 0 (cap - 1) (flat []) rfl (by rw [length_flat]; rfl) hns (flat_oneCell []) (by unfold maxLen; omega) (by omega) (by simp) ?_; intro v' w6 hown6 hgrow _ _; rw [Nat.zero_add, List.nil_append] at hown6; obtain ⟨a6, c6, rfl⟩ := owns_form hown6; have hb1 := ((Below.refl w5.heap.size w5).alloc (Nat.le_refl _) (.cells #[] 40)).grown hgrow (by simp) (fun k hk => by obtain rfl := Option.some.inj hk; exact Nat.le_refl _); replace hX := resB hX hb1; replace hR := resB hR hb1; replace hO := resB hO hb1)
    have hq0 : B3 ≠ w.heap.size := by omega
    have hq1 : B3 ≠ w.heap.size + 1 := by omega
    replace hO := res5 hO (.slice a6 0 c6)
    replace hR := resO hR hq1 5 (.slice a6 0 c6)
    replace hX := resO hX hq0 5 (.slice a6 0 c6)
    have hB := (thenB HB.out hb1).setCell (p := ⟨B3, 5, none⟩) (show w.heap.size ≤ B3 by omega) (.slice a6 0 c6)
    have hU := (own_of (l := []) hown6).set (B := B3) hB5 5 (.slice a6 0 c6)
    clear HB hb1 hown6 hgrow hns hnew hi5
    generalize World.setCell _ _ _ = W7 at *
    replace hU := hU.mono (show w.heap.size + 1 + 1 ≤ w5.heap.size by omega)
    go_upto_region 13 with (first | (go_at_call 34; refine (HW.out _ _).mono ?_; rintro e w' ⟨rfl, hb⟩; replace hB := thenB hB hb; replace hX := resB hX hb; replace hR := resB hR hb; replace hO := resB hO hb; replace hU := hU.below hb; clear hb) | (go_at_call 35; refine (DevRef.newRef_any _).mono ?_; rintro e w7 ⟨rfl, hb⟩; replace hB := thenB hB hb; replace hR := resB hR hb; clear hb))
    have HB := hide hB
    have HR := hide hR
    have HU := hide hU
    clear hB hR hU
    go_upto_region 14 with fail
    replace hO := res0 hO (.int .i64 1)
    have hR := resO HR.out hq1 0 (.int .i64 1)
    have hB := HB.out.setCell (p := ⟨B3, 0, none⟩) (show w.heap.size ≤ B3 by omega) (.int .i64 1)
    have hU := HU.out.empty (w' := W7.setCell ⟨B3, 0, none⟩ (.int .i64 1)) (base' := w.heap.size + 1 + 1)
    clear HB HR HU
    generalize World.setCell _ _ _ = W3 at *
    go_region
    go_wp2_with fail
    exact bodyPost_ret (v := .tuple #[.string F, .agg #[.int .i64 1, .int .i64 su, .int .i64 nx, .int .i64 gt, .int .i64 sl, .slice a6 0 c6], .int .i64 0]) (by simp [results, Try.results11, go_sem, hR]) rfl ⟨_, rfl, (hU.set6 (Nat.lt_succ_self _) _ _ _ _ _ _).drewS, bD (set6 hB (Nat.le_succ _))⟩
end Go.Proofs.Ytmbgdidelbkdgaa.TicDoc
