/- The contracts of the document's own answers to package tick: they give what the same plain functions give. -/
import Derived.Test.YtmbgdidelbkdgaaTicMath
import Derived.Test.YtmbgdidelbkdgaaTicRow
import Derived.Test.YtmbgdidelbkdgaaDnlRef
import Derived.Test.YtmbgdidelbkdgaaBagOps
import Derived.Laws.AppendOwnNone
import Derived.BigRegion
namespace Go.Proofs.Ytmbgdidelbkdgaa.TicRef
open Go.Proofs.Ytmbgdidelbkdgaa Go.RowKit Go.Proofs.Ytmbgdidelbkdgaa.Bytes Go.Proofs.Ytmbgdidelbkdgaa.Ops Go.Proofs.Ytmbgdidelbkdgaa.OpsRow Go.Proofs.Ytmbgdidelbkdgaa.Jou Go.Proofs.Ytmbgdidelbkdgaa.Dev Go.Proofs.Ytmbgdidelbkdgaa.DevRow Go.Proofs.Ytmbgdidelbkdgaa.DevSet Go.Proofs.Ytmbgdidelbkdgaa.Dnl Go.Proofs.Ytmbgdidelbkdgaa.DnlCopy Go.Proofs.Ytmbgdidelbkdgaa.DnlRef Go.Proofs.Ytmbgdidelbkdgaa.Tic Go.Proofs.Ytmbgdidelbkdgaa.TicRow
open Go.Proofs.Ytmbgdidelbkdgaa.DevWalk (build_d0)
open Go.Proofs.Ytmbgdidelbkdgaa.OpsWalk (info_op)
open Go.Proofs.Ytmbgdidelbkdgaa.NorWalk (ret_bool)
attribute [local go_sem ↓] Go.wp_at_zero Go.wp_at_succ
theorem bD {B : Nat} {a w : World} (h : Below B a w) : Below B a w.drew := ⟨h.os, h.tape, h.output, h.size, h.block⟩
theorem hal (w : World) (o : Obj) : Below w.heap.size w (w.alloc o) := (Below.refl _ _).alloc (Nat.le_refl _) _
theorem work_any (sa su nx gt sl : Int) (v : Value) (w : World) : Calls Try.prog 34 #[.agg #[.int .i64 sa, .int .i64 su, .int .i64 nx, .int .i64 gt, .int .i64 sl, v]] w fun r w' => r = .returned (.bool (workB sa)) ∧ Below w.heap.size w w' := by
  go_enter Try.func34, Try.ntmps34
  go_wp2
  all_goals
    go_ret
    exact ⟨ret_bool (by unfold workB; rw [Bool.eq_iff_iff]; simp; try omega), hal _ _⟩
/-- What a call to the document's Tick gives. -/
def RefTicked (w : World) (f : ByteArray) (d : FDev) (e : Int) (r : Ending) (w' : World) : Prop := ∃ u, r = .returned (.tuple #[.string f, .agg #[.int .i64 d.sa, .int .i64 d.su, .int .i64 d.nx, .int .i64 d.gt, .int .i64 d.sl, u], .int .i64 e]) ∧ IsSt w' u d.ops ∧ Below w.heap.size w w'
set_option maxRecDepth 100000 in
set_option maxHeartbeats 4000000 in
theorem ref_no (f : ByteArray) (d : FDev) (v : Value) (w : World) (hv : IsSt w v d.ops) (h : bothB f d = false) : Calls Try.prog 11 #[.string f, .agg #[.int .i64 d.sa, .int .i64 d.su, .int .i64 d.nx, .int .i64 d.gt, .int .i64 d.sl, v]] w (RefTicked w ⟨#[]⟩ newD 1800) := by
  have HD : Hid (∀ (w' : World), Below w.heap.size w w' → _) := fun w' hb => both_any f d v w' (hv.below hb)
  obtain ⟨hX, hR, hB, hs⟩ := two_boxes w (.int .i64 d.sa) (.int .i64 d.su) (.int .i64 d.nx) (.int .i64 d.gt) (.int .i64 d.sl) v
  have b1 := build_d0
  unfold bothB at h
  rw [h] at HD
  clear h
  unfold newD
  obtain ⟨a, ca, rfl, _, _⟩ := hv
  go_enter Try.func11, Try.ntmps11
  go_wp2_with (go_at_call 32; refine (HD.out _ hB).mono ?_; rintro e w' ⟨rfl, hb⟩; replace hB := thenB hB hb; replace hX := resB hX hb; replace hR := resB hR hb; clear hb)
  exact bodyPost_ret (v := .tuple #[.string ⟨#[]⟩, .agg #[.int .i64 0, .int .i64 0, .int .i64 0, .int .i64 0, .int .i64 0, .slice none 0 0], .int .i64 1800]) (by simp [results, Try.results11, go_sem, hR]) rfl ⟨_, rfl, isSt_nil _, set6 hB (Nat.le_succ _)⟩
set_option maxRecDepth 100000 in
set_option maxHeartbeats 4000000 in
theorem ref_idle (f : ByteArray) (d : FDev) (v : Value) (w : World) (hv : IsSt w v d.ops) (h : bothB f d = true) (hw : workB d.sa = false) : Calls Try.prog 11 #[.string f, .agg #[.int .i64 d.sa, .int .i64 d.su, .int .i64 d.nx, .int .i64 d.gt, .int .i64 d.sl, v]] w (RefTicked w f d 0) := by
  have h := both_parts.1 h
  have hl := (dev_parts h.2).2.2.2
  have HD : Hid (∀ (w' : World), Below w.heap.size w w' → _) := fun w' hb => both_any f d v w' (hv.below hb)
  have HC : Hid (∀ (w' : World), Below w.heap.size w w' → _) := fun w' hb => copyRef_any d v w' (by omega) (hv.below hb)
  have HW := hide (fun v w' => work_any d.sa d.su d.nx d.gt d.sl v w')
  obtain ⟨hX, hR, hB, hs⟩ := two_boxes w (.int .i64 d.sa) (.int .i64 d.su) (.int .i64 d.nx) (.int .i64 d.gt) (.int .i64 d.sl) v
  rw [h.1, h.2, Bool.true_and] at HD
  rw [hw] at HW
  clear hw
  obtain ⟨a, ca, rfl, _, _⟩ := hv
  clear h
  obtain ⟨sa, su, nx, gt, sl, lo⟩ := d
  dsimp only at *
  go_enter Try.func11, Try.ntmps11
  go_upto_region 3 with (go_at_call 32; refine (HD.out _ hB).mono ?_; rintro e w' ⟨rfl, hb⟩; replace hB := thenB hB hb; replace hX := resB hX hb; replace hR := resB hR hb; replace hs := Nat.le_trans (Nat.le_of_eq hs) hb.size; clear hb)
  clear HD
  go_wp2_with fail
  refine (HC.out _ hB).mono ?_
  rintro e w2 ⟨⟨u, rfl, hown⟩, hb⟩
  replace hB := thenB hB hb
  replace hR := resB hR hb
  replace hX := resB hX hb
  obtain ⟨a', c', rfl⟩ := owns_form hown
  have hU := (own_of hown).mono hs
  replace hs := Nat.le_trans hs hb.size
  clear hb HC hown
  have hO := resM w2 (.int .i64 sa) (.int .i64 su) (.int .i64 nx) (.int .i64 gt) (.int .i64 sl) (.slice a' lo.length c') 24
  have hn := hal w2 (.cells #[.int .i64 sa, .int .i64 su, .int .i64 nx, .int .i64 gt, .int .i64 sl, .slice a' lo.length c'] 24)
  replace hB := thenB hB hn
  replace hR := resB hR hn
  replace hX := resB hX hn
  replace hU := hU.below hn
  have hs3 := Nat.le_trans hs hn.size
  clear hn
  go_upto_region 4 with fail
  generalize w2.alloc _ = W2 at *
  generalize w2.heap.size = B3 at *
  go_upto_region 5 with (go_at_call 34; refine (HW.out _ _).mono ?_; rintro e w' ⟨rfl, hb⟩; replace hB := thenB hB hb; replace hX := resB hX hb; replace hR := resB hR hb; replace hO := resB hO hb; replace hU := hU.below hb; clear hb)
  go_region
  go_wp2_with fail
  exact bodyPost_ret (v := .tuple #[.string f, .agg #[.int .i64 sa, .int .i64 su, .int .i64 nx, .int .i64 gt, .int .i64 sl, .slice a' lo.length c'], .int .i64 0]) (by simp [results, Try.results11, go_sem, hR]) rfl ⟨_, rfl, (hU.set6 (Nat.lt_succ_self _) _ _ _ _ _ _).drewS, bD (set6 hB (Nat.le_succ _))⟩
set_option maxRecDepth 100000 in
set_option maxHeartbeats 4000000 in
theorem ref_bare5 (f : ByteArray) (d : FDev) (v : Value) (w : World) (hv : IsSt w v d.ops) (h : bothB f d = true) (hw : d.sa = 5) (hl0 : d.ops = []) : Calls Try.prog 11 #[.string f, .agg #[.int .i64 d.sa, .int .i64 d.su, .int .i64 d.nx, .int .i64 d.gt, .int .i64 d.sl, v]] w (RefTicked w f newD 0) := by
  have h := both_parts.1 h
  have hl := (dev_parts h.2).2.2.2
  have HD : Hid (∀ (w' : World), Below w.heap.size w w' → _) := fun w' hb => both_any f d v w' (hv.below hb)
  have HC : Hid (∀ (w' : World), Below w.heap.size w w' → _) := fun w' hb => copyRef_any d v w' (by omega) (hv.below hb)
  have HW := hide (fun v w' => work_any d.sa d.su d.nx d.gt d.sl v w')
  obtain ⟨hX, hR, hB, hs⟩ := two_boxes w (.int .i64 d.sa) (.int .i64 d.su) (.int .i64 d.nx) (.int .i64 d.gt) (.int .i64 d.sl) v
  rw [h.1, h.2, Bool.true_and] at HD
  rw [show workB d.sa = true from by rw [hw]; rfl] at HW
  obtain ⟨a, ca, rfl, _, _⟩ := hv
  clear h
  obtain ⟨sa, su, nx, gt, sl, lo⟩ := d
  dsimp only at *
  subst hw hl0
  have hz : ([] : List FOp).length = 0 := rfl
  rw [hz] at hX hR hB hs HD HC ⊢
  clear hz
  go_enter Try.func11, Try.ntmps11
  go_upto_region 3 with (go_at_call 32; refine (HD.out _ hB).mono ?_; rintro e w' ⟨rfl, hb⟩; replace hB := thenB hB hb; replace hX := resB hX hb; replace hR := resB hR hb; replace hs := Nat.le_trans (Nat.le_of_eq hs) hb.size; clear hb)
  clear HD
  go_wp2_with fail
  refine (HC.out _ hB).mono ?_
  rintro e w2 ⟨⟨u, rfl, hown⟩, hb⟩
  replace hB := thenB hB hb
  replace hR := resB hR hb
  replace hX := resB hX hb
  obtain ⟨a', c', rfl⟩ := owns_form hown
  have hU := (own_of hown).mono hs
  replace hs := Nat.le_trans hs hb.size
  clear hb HC hown
  have hO := resM w2 (.int .i64 5) (.int .i64 su) (.int .i64 nx) (.int .i64 gt) (.int .i64 sl) (.slice a' 0 c') 24
  have hn := hal w2 (.cells #[.int .i64 5, .int .i64 su, .int .i64 nx, .int .i64 gt, .int .i64 sl, .slice a' 0 c'] 24)
  replace hB := thenB hB hn
  replace hR := resB hR hn
  replace hX := resB hX hn
  replace hU := hU.below hn
  have hs3 := Nat.le_trans hs hn.size
  clear hn
  go_upto_region 4 with fail
  generalize w2.alloc _ = W2 at *
  generalize w2.heap.size = B3 at *
  go_wp2_with (first | (go_at_call 34; refine (HW.out _ _).mono ?_; rintro e w' ⟨rfl, hb⟩; replace hB := thenB hB hb; replace hX := resB hX hb; replace hR := resB hR hb; replace hO := resB hO hb; replace hU := hU.below hb; clear hb) | (go_at_call 35; refine (DevRef.newRef_any _).mono ?_; rintro e w7 ⟨rfl, hb⟩; replace hB := thenB hB hb; replace hR := resB hR hb; clear hb))
  exact bodyPost_ret (v := .tuple #[.string f, .agg #[.int .i64 0, .int .i64 0, .int .i64 0, .int .i64 0, .int .i64 0, .slice none 0 0], .int .i64 0]) (by simp [results, Try.results11, go_sem, hR]) rfl ⟨_, rfl, isSt_nil _, set6 hB (Nat.le_succ _)⟩
set_option maxRecDepth 100000 in
set_option maxHeartbeats 4000000 in
theorem ref_bare2 (f : ByteArray) (d : FDev) (v : Value) (w : World) (hv : IsSt w v d.ops) (h : bothB f d = true) (hw : d.sa = 2) (hl0 : d.ops = []) : Calls Try.prog 11 #[.string f, .agg #[.int .i64 d.sa, .int .i64 d.su, .int .i64 d.nx, .int .i64 d.gt, .int .i64 d.sl, v]] w (RefTicked w f ⟨1, d.su, d.nx, d.gt, d.sl, []⟩ 0) := by
  have h := both_parts.1 h
  have hl := (dev_parts h.2).2.2.2
  have HD : Hid (∀ (w' : World), Below w.heap.size w w' → _) := fun w' hb => both_any f d v w' (hv.below hb)
  have HC : Hid (∀ (w' : World), Below w.heap.size w w' → _) := fun w' hb => copyRef_any d v w' (by omega) (hv.below hb)
  have HW := hide (fun v w' => work_any d.sa d.su d.nx d.gt d.sl v w')
  obtain ⟨hX, hR, hB, hs⟩ := two_boxes w (.int .i64 d.sa) (.int .i64 d.su) (.int .i64 d.nx) (.int .i64 d.gt) (.int .i64 d.sl) v
  rw [h.1, h.2, Bool.true_and] at HD
  rw [show workB d.sa = true from by rw [hw]; rfl] at HW
  obtain ⟨a, ca, rfl, _, _⟩ := hv
  clear h
  obtain ⟨sa, su, nx, gt, sl, lo⟩ := d
  dsimp only at *
  subst hw hl0
  have hz : ([] : List FOp).length = 0 := rfl
  rw [hz] at hX hR hB hs HD HC ⊢
  clear hz
  go_enter Try.func11, Try.ntmps11
  go_upto_region 3 with (go_at_call 32; refine (HD.out _ hB).mono ?_; rintro e w' ⟨rfl, hb⟩; replace hB := thenB hB hb; replace hX := resB hX hb; replace hR := resB hR hb; replace hs := Nat.le_trans (Nat.le_of_eq hs) hb.size; clear hb)
  clear HD
  go_wp2_with fail
  refine (HC.out _ hB).mono ?_
  rintro e w2 ⟨⟨u, rfl, hown⟩, hb⟩
  replace hB := thenB hB hb
  replace hR := resB hR hb
  replace hX := resB hX hb
  obtain ⟨a', c', rfl⟩ := owns_form hown
  have hU := (own_of hown).mono hs
  replace hs := Nat.le_trans hs hb.size
  clear hb HC hown
  have hO := resM w2 (.int .i64 2) (.int .i64 su) (.int .i64 nx) (.int .i64 gt) (.int .i64 sl) (.slice a' 0 c') 24
  have hn := hal w2 (.cells #[.int .i64 2, .int .i64 su, .int .i64 nx, .int .i64 gt, .int .i64 sl, .slice a' 0 c'] 24)
  replace hB := thenB hB hn
  replace hR := resB hR hn
  replace hX := resB hX hn
  replace hU := hU.below hn
  have hs3 := Nat.le_trans hs hn.size
  clear hn
  go_upto_region 4 with fail
  generalize w2.alloc _ = W2 at *
  generalize w2.heap.size = B3 at *
  go_upto_region 13 with (first | (go_at_call 34; refine (HW.out _ _).mono ?_; rintro e w' ⟨rfl, hb⟩; replace hB := thenB hB hb; replace hX := resB hX hb; replace hR := resB hR hb; replace hO := resB hO hb; replace hU := hU.below hb; clear hb) | (go_at_call 35; refine (DevRef.newRef_any _).mono ?_; rintro e w7 ⟨rfl, hb⟩; replace hB := thenB hB hb; replace hR := resB hR hb; clear hb))
  have HB := hide hB
  have HR := hide hR
  have HU := hide hU
  clear hB hR hU
  go_upto_region 14 with fail
  have hq1 : B3 ≠ w.heap.size + 1 := by omega
  replace hO := res0 hO (.int .i64 1)
  have hR := resO HR.out hq1 0 (.int .i64 1)
  have hB := HB.out.setCell (p := ⟨B3, 0, none⟩) (show w.heap.size ≤ B3 by omega) (.int .i64 1)
  have hU := HU.out.empty (w' := w'.setCell ⟨B3, 0, none⟩ (.int .i64 1)) (base' := w.heap.size + 1 + 1)
  clear HB HR HU
  generalize World.setCell _ _ _ = W3 at *
  go_region
  go_wp2_with fail
  exact bodyPost_ret (v := .tuple #[.string f, .agg #[.int .i64 1, .int .i64 su, .int .i64 nx, .int .i64 gt, .int .i64 sl, .slice a' 0 c'], .int .i64 0]) (by simp [results, Try.results11, go_sem, hR]) rfl ⟨_, rfl, (hU.set6 (Nat.lt_succ_self _) _ _ _ _ _ _).drewS, bD (set6 hB (Nat.le_succ _))⟩
end Go.Proofs.Ytmbgdidelbkdgaa.TicRef
