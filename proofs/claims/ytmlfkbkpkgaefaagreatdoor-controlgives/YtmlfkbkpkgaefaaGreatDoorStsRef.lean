/- The contract of the document's own answer to package status: it gives what the same plain functions give. -/
import Derived.Test.YtmlfkbkpkgaefaaGreatDoorBagSts
import Derived.Test.YtmlfkbkpkgaefaaGreatDoorDnlRef
import Derived.Test.YtmlfkbkpkgaefaaGreatDoorBagDoc
import Derived.Test.YtmlfkbkpkgaefaaGreatDoorBagAct
import Derived.BigRegion
namespace Go.Proofs.YtmlfkbkpkgaefaaGreatDoor.StsRef
open Go.Proofs.YtmlfkbkpkgaefaaGreatDoor Go.RowKit Go.Proofs.YtmlfkbkpkgaefaaGreatDoor.Bytes Go.Proofs.YtmlfkbkpkgaefaaGreatDoor.Ops Go.Proofs.YtmlfkbkpkgaefaaGreatDoor.OpsRow Go.Proofs.YtmlfkbkpkgaefaaGreatDoor.Jou Go.Proofs.YtmlfkbkpkgaefaaGreatDoor.Act Go.Proofs.YtmlfkbkpkgaefaaGreatDoor.ActRef Go.Proofs.YtmlfkbkpkgaefaaGreatDoor.ActApp Go.Proofs.YtmlfkbkpkgaefaaGreatDoor.Dev Go.Proofs.YtmlfkbkpkgaefaaGreatDoor.DevRow Go.Proofs.YtmlfkbkpkgaefaaGreatDoor.DevSet Go.Proofs.YtmlfkbkpkgaefaaGreatDoor.Dnl Go.Proofs.YtmlfkbkpkgaefaaGreatDoor.DnlCopy Go.Proofs.YtmlfkbkpkgaefaaGreatDoor.DnlRef Go.Proofs.YtmlfkbkpkgaefaaGreatDoor.Tic Go.Proofs.YtmlfkbkpkgaefaaGreatDoor.TicRow Go.Proofs.YtmlfkbkpkgaefaaGreatDoor.Sts Go.Proofs.YtmlfkbkpkgaefaaGreatDoor.StsWalk Go.Proofs.YtmlfkbkpkgaefaaGreatDoor.StsGet
open Go.Proofs.YtmlfkbkpkgaefaaGreatDoor.DevWalk (build_d0)
open Go.Proofs.YtmlfkbkpkgaefaaGreatDoor.DnlWalk (ne_t eq_f)
attribute [local go_sem ↓] Go.wp_at_zero Go.wp_at_succ
theorem run_min255' {P : Program} (n : Nat) (ts : Array TypeId) (t : TypeId) (w : World) : (Builtin.min_ ts t #[.int .i64 255, .int .i64 (n : Int)]).run P w = .ok (.int .i64 (min (n : Int) 255)) w := by
  simp [Builtin.min_, Builtin.min2]
  repeat split
  all_goals omega
/-- A store into a block made behind the row's. -/
theorem in_other {w : World} {base n : Nat} {v : Value} {l : List FOp} (h : OwnIn w base n v l) {B : Nat} (hB : n ≤ B) (i : Nat) (y : Value) : OwnIn (w.setCell ⟨B, i, none⟩ y) base n v l := by
  obtain ⟨a, cap, rfl, h0, h⟩ := h
  refine ⟨a, cap, rfl, h0, ?_⟩
  rcases h with h | ⟨b, o, rfl, h1, h2, h3, h7, h4, h5, h6⟩
  · exact .inl h
  · have hne : ∀ j, (w.setCell ⟨B, i, none⟩ y).cell? ⟨b, j, none⟩ = w.cell? ⟨b, j, none⟩ := fun j => World.cell?_setCell_other w _ _ _ (ne_blk (by omega))
    exact .inr ⟨b, o, rfl, h1, h2, h3, h7, by rw [size_set]; exact h4, ⟨fun i hi => by rw [hne]; exact h5.er i hi, fun i hi => by rw [hne]; exact h5.pl i hi, fun i hi => by rw [hne]; exact h5.tx i hi⟩, fun i => by rw [World.frozen?_setCell]; exact h6 i⟩
/-- What a call to the document's Status gives. -/
def RefGot (w : World) (d : FDev) (e : Int) (r : Ending) (w' : World) : Prop := ∃ u, r = .returned (.tuple #[.agg #[.int .i64 d.sa, .int .i64 d.su, .int .i64 d.nx, .int .i64 d.gt, .int .i64 d.sl, u], .agg #[.int .i64 d.su, .int .i64 (tkI d), .int .i64 d.sa], .int .i64 e]) ∧ IsSt w' u d.ops ∧ Below w.heap.size w w'
/-- The same, its steps in memory made since. -/
def RefOwn (w : World) (d : FDev) (e : Int) (r : Ending) (w' : World) : Prop := ∃ u, r = .returned (.tuple #[.agg #[.int .i64 d.sa, .int .i64 d.su, .int .i64 d.nx, .int .i64 d.gt, .int .i64 d.sl, u], .agg #[.int .i64 d.su, .int .i64 (tkI d), .int .i64 d.sa], .int .i64 e]) ∧ OwnSt w' w.heap.size u d.ops ∧ Below w.heap.size w w'
theorem drewO {w : World} {base : Nat} {v : Value} {l : List FOp} (h : OwnSt w base v l) : OwnSt w.drew base v l := by
  obtain ⟨a, cap, rfl, h0, h⟩ := h
  refine ⟨a, cap, rfl, h0, ?_⟩
  rcases h with h | ⟨b, o, rfl, h1, h2, h3, h4, h5, h6⟩
  · exact .inl h
  · exact .inr ⟨b, o, rfl, h1, h2, h3, h4, ⟨h5.er, h5.pl, h5.tx⟩, h6⟩
theorem build_ans3 (c v n : Int) (w : World) : (Instr.build 52 #[(0, .int .i64 c), (2, .int .i64 n), (1, .int .i64 v)]).run Tryz.prog w = .ok (.agg #[.int .i64 c, .int .i64 v, .int .i64 n]) w := run_build w 52 _ _ (by kernel_rfl)
set_option maxRecDepth 100000 in
set_option maxHeartbeats 4000000 in
theorem ref_no (f : ByteArray) (d : FDev) (v : Value) (w : World) (hv : IsSt w v d.ops) (h : bothB f d = false) : Calls Tryz.prog 18 #[.string f, .agg #[.int .i64 d.sa, .int .i64 d.su, .int .i64 d.nx, .int .i64 d.gt, .int .i64 d.sl, v]] w (RefOwn w newD 1900) := by
  have HD : Hid (∀ (w' : World), Below w.heap.size w w' → _) := fun w' hb => both_any f d v w' (hv.below hb)
  obtain ⟨W, hW, hX, hR, hA, hB, hs⟩ := three_boxes w (.int .i64 d.sa) (.int .i64 d.su) (.int .i64 d.nx) (.int .i64 d.gt) (.int .i64 d.sl) v
  have b1 := build_d0
  have b2 := AnsWalk.build_no
  unfold bothB at h
  rw [h] at HD
  clear h
  unfold newD
  have hk : tkI ⟨0, 0, 0, 0, 0, []⟩ = 0 := rfl
  unfold RefOwn
  rw [hk]
  clear hk
  obtain ⟨a, ca, rfl, _, _⟩ := hv
  subst hW
  go_enter Tryz.func18, Tryz.ntmps18
  go_wp2_with (go_at_call 28; refine (HD.out _ hB).mono ?_; rintro e w' ⟨rfl, hb⟩; replace hB := thenB hB hb; replace hX := resB hX hb; replace hR := resB hR hb; replace hA := AnsWalk.resB hA hb; clear hb)
  exact bodyPost_ret (v := .tuple #[.agg #[.int .i64 0, .int .i64 0, .int .i64 0, .int .i64 0, .int .i64 0, .slice none 0 0], .agg #[.int .i64 0, .int .i64 0, .int .i64 0], .int .i64 1900]) (by simp [results, Tryz.results18, go_sem, hR, hA]) rfl ⟨_, rfl, own_none _ _, AnsWalk.set3 (set6 hB (Nat.le_succ _)) (by omega)⟩
set_option maxRecDepth 100000 in
set_option maxHeartbeats 4000000 in
theorem ref_other (f : ByteArray) (d : FDev) (v : Value) (w : World) (hv : IsSt w v d.ops) (h : bothB f d = true) (h1 : ¬ d.sa = 1) (h4 : ¬ d.sa = 4) : Calls Tryz.prog 18 #[.string f, .agg #[.int .i64 d.sa, .int .i64 d.su, .int .i64 d.nx, .int .i64 d.gt, .int .i64 d.sl, v]] w (RefOwn w d 0) := by
  have h := both_parts.1 h
  have hl := (dev_parts h.2).2.2.2
  have HD : Hid (∀ (w' : World), Below w.heap.size w w' → _) := fun w' hb => both_any f d v w' (hv.below hb)
  have HC : Hid (∀ (w' : World), Below w.heap.size w w' → _) := fun w' hb => copyRef_any d v w' (by omega) (hv.below hb)
  obtain ⟨W, hW, hX, hR, hA, hB, hs⟩ := three_boxes w (.int .i64 d.sa) (.int .i64 d.su) (.int .i64 d.nx) (.int .i64 d.gt) (.int .i64 d.sl) v
  rw [h.1, h.2, Bool.true_and] at HD
  have b2 := build_ans3
  unfold RefOwn
  have g1 := eq_f h1
  have g4 := eq_f h4
  have hmn := fun ts t w => run_min255' (P := Tryz.prog) d.ops.length ts t w
  have hk : min (d.ops.length : Int) 255 = tkI d := rfl
  simp only [hk] at hmn
  clear hk
  generalize tkI d = K at *
  obtain ⟨a, ca, rfl, _, _⟩ := hv
  clear h
  obtain ⟨sa, su, nx, gt, sl, l⟩ := d
  dsimp only at *
  subst hW
  go_enter Tryz.func18, Tryz.ntmps18
  go_upto_region 3 with (go_at_call 28; refine (HD.out _ hB).mono ?_; rintro e w' ⟨rfl, hb⟩; replace hB := thenB hB hb; replace hX := resB hX hb; replace hR := resB hR hb; replace hA := AnsWalk.resB hA hb; replace hs := Nat.le_trans (Nat.le_of_eq hs) hb.size; clear hb)
  clear HD
  go_wp2_with fail
  refine (HC.out _ hB).mono ?_
  rintro e w2 ⟨⟨u, rfl, hown⟩, hb⟩
  replace hB := thenB hB hb
  replace hR := resB hR hb
  replace hX := resB hX hb
  replace hA := AnsWalk.resB hA hb
  obtain ⟨a', c', rfl⟩ := owns_form hown
  have hU := ((own_of hown).mono hs).lt
  replace hs := Nat.le_trans hs hb.size
  clear hb HC hown
  have hO := resM w2 (.int .i64 sa) (.int .i64 su) (.int .i64 nx) (.int .i64 gt) (.int .i64 sl) (.slice a' l.length c') 24
  have hn := hal w2 (.cells #[.int .i64 sa, .int .i64 su, .int .i64 nx, .int .i64 gt, .int .i64 sl, .slice a' l.length c'] 24)
  replace hB := thenB hB hn
  replace hR := resB hR hn
  replace hX := resB hX hn
  replace hA := AnsWalk.resB hA hn
  replace hU := hU.below hn
  have hs3 := Nat.le_trans hs hn.size
  clear hn
  go_upto_region 4 with fail
  generalize w2.alloc _ = W2 at *
  generalize w2.heap.size = B3 at *
  go_upto_region 16 with fail
  go_region
  go_wp2_with fail
  exact bodyPost_ret (v := .tuple #[.agg #[.int .i64 sa, .int .i64 su, .int .i64 nx, .int .i64 gt, .int .i64 sl, .slice a' l.length c'], .agg #[.int .i64 su, .int .i64 K, .int .i64 sa], .int .i64 0]) (by simp [results, Tryz.results18, go_sem, hR, hA]) rfl ⟨_, rfl, (drewO (((((hU.st.set6 (Nat.lt_succ_of_lt (Nat.lt_succ_self _)) _ _ _ _ _ _).set (Nat.lt_succ_self _) 0 _).set (Nat.lt_succ_self _) 1 _).set (Nat.lt_succ_self _) 2 _))).mono (by omega), bD (AnsWalk.set3 (set6 hB (Nat.le_succ _)) (by omega))⟩
set_option maxRecDepth 100000 in
set_option maxHeartbeats 4000000 in
theorem ref_down (f : ByteArray) (d : FDev) (v : Value) (w : World) (hv : IsSt w v d.ops) (h : bothB f d = true) (h1 : d.sa = 1) (hl0 : d.ops = []) : Calls Tryz.prog 18 #[.string f, .agg #[.int .i64 d.sa, .int .i64 d.su, .int .i64 d.nx, .int .i64 d.gt, .int .i64 d.sl, v]] w (RefOwn w ⟨3, d.su, d.nx, d.gt, d.sl, []⟩ 0) := by
  have h := both_parts.1 h
  have hl := (dev_parts h.2).2.2.2
  have HD : Hid (∀ (w' : World), Below w.heap.size w w' → _) := fun w' hb => both_any f d v w' (hv.below hb)
  have HC : Hid (∀ (w' : World), Below w.heap.size w w' → _) := fun w' hb => copyRef_any d v w' (by omega) (hv.below hb)
  obtain ⟨W, hW, hX, hR, hA, hB, hs⟩ := three_boxes w (.int .i64 d.sa) (.int .i64 d.su) (.int .i64 d.nx) (.int .i64 d.gt) (.int .i64 d.sl) v
  rw [h.1, h.2, Bool.true_and] at HD
  have b2 := build_ans3
  unfold RefOwn
  have hmn := fun ts t w => run_min255' (P := Tryz.prog) 0 ts t w
  have hk : tkI ⟨3, d.su, d.nx, d.gt, d.sl, []⟩ = 0 := rfl
  rw [hk]
  clear hk
  obtain ⟨a, ca, rfl, _, _⟩ := hv
  clear h
  obtain ⟨sa, su, nx, gt, sl, l⟩ := d
  dsimp only at *
  subst h1 hl0
  have hz : ([] : List FOp).length = 0 := rfl
  simp only [hz] at hW hs HD HC hX hR hA hB
  clear hz
  subst hW
  go_enter Tryz.func18, Tryz.ntmps18
  go_upto_region 3 with (go_at_call 28; refine (HD.out _ hB).mono ?_; rintro e w' ⟨rfl, hb⟩; replace hB := thenB hB hb; replace hX := resB hX hb; replace hR := resB hR hb; replace hA := AnsWalk.resB hA hb; replace hs := Nat.le_trans (Nat.le_of_eq hs) hb.size; clear hb)
  clear HD
  go_wp2_with fail
  refine (HC.out _ hB).mono ?_
  rintro e w2 ⟨⟨u, rfl, hown⟩, hb⟩
  replace hB := thenB hB hb
  replace hR := resB hR hb
  replace hX := resB hX hb
  replace hA := AnsWalk.resB hA hb
  obtain ⟨a', c', rfl⟩ := owns_form hown
  have hU := ((own_of hown).mono hs).lt
  replace hs := Nat.le_trans hs hb.size
  clear hb HC hown
  have hO := resM w2 (.int .i64 1) (.int .i64 su) (.int .i64 nx) (.int .i64 gt) (.int .i64 sl) (.slice a' 0 c') 24
  have hn := hal w2 (.cells #[.int .i64 1, .int .i64 su, .int .i64 nx, .int .i64 gt, .int .i64 sl, .slice a' 0 c'] 24)
  replace hB := thenB hB hn
  replace hR := resB hR hn
  replace hX := resB hX hn
  replace hA := AnsWalk.resB hA hn
  replace hU := hU.below hn
  have hs3 := Nat.le_trans hs hn.size
  clear hn
  go_upto_region 4 with fail
  generalize w2.alloc _ = W2 at *
  generalize w2.heap.size = B3 at *
  go_upto_region 6 with fail
  have HB := hide hB
  have HR := hide hR
  have HX := hide hX
  have HA := hide hA
  clear hB hR hX hA
  go_upto_region 7 with fail
  replace hO := res0 hO (.int .i64 3)
  have hR := resO HR.out (show B3 ≠ w.heap.size + 1 by omega) 0 (.int .i64 3)
  have hX := resO HX.out (show B3 ≠ w.heap.size by omega) 0 (.int .i64 3)
  have hA := ans_other HA.out (show B3 ≠ w.heap.size + 1 + 1 by omega) 0 (.int .i64 3)
  have hB := HB.out.setCell (p := ⟨B3, 0, none⟩) (show w.heap.size ≤ B3 by omega) (.int .i64 3)
  clear HB HR HX HA
  generalize World.setCell _ _ _ = W3 at *
  go_upto_region 16 with fail
  go_region
  go_wp2_with fail
  exact bodyPost_ret (v := .tuple #[.agg #[.int .i64 3, .int .i64 su, .int .i64 nx, .int .i64 gt, .int .i64 sl, .slice a' 0 c'], .agg #[.int .i64 su, .int .i64 0, .int .i64 3], .int .i64 0]) (by simp [results, Tryz.results18, go_sem, hR, hA]) rfl ⟨_, rfl, hU.st.empty, bD (AnsWalk.set3 (set6 hB (Nat.le_succ _)) (by omega))⟩
set_option maxRecDepth 100000 in
set_option maxHeartbeats 4000000 in
theorem ref_busy (f : ByteArray) (d : FDev) (v : Value) (w : World) (hv : IsSt w v d.ops) (h : bothB f d = true) (h1 : d.sa = 1) (hl0 : ¬ d.ops.length = 0) : Calls Tryz.prog 18 #[.string f, .agg #[.int .i64 d.sa, .int .i64 d.su, .int .i64 d.nx, .int .i64 d.gt, .int .i64 d.sl, v]] w (RefOwn w ⟨2, d.su, d.nx, d.gt, d.sl, d.ops⟩ 0) := by
  have h := both_parts.1 h
  have hl := (dev_parts h.2).2.2.2
  have HD : Hid (∀ (w' : World), Below w.heap.size w w' → _) := fun w' hb => both_any f d v w' (hv.below hb)
  have HC : Hid (∀ (w' : World), Below w.heap.size w w' → _) := fun w' hb => copyRef_any d v w' (by omega) (hv.below hb)
  obtain ⟨W, hW, hX, hR, hA, hB, hs⟩ := three_boxes w (.int .i64 d.sa) (.int .i64 d.su) (.int .i64 d.nx) (.int .i64 d.gt) (.int .i64 d.sl) v
  rw [h.1, h.2, Bool.true_and] at HD
  have b2 := build_ans3
  unfold RefOwn
  have hmn := fun ts t w => run_min255' (P := Tryz.prog) d.ops.length ts t w
  have hk : min (d.ops.length : Int) 255 = tkI ⟨2, d.su, d.nx, d.gt, d.sl, d.ops⟩ := rfl
  simp only [hk] at hmn
  clear hk
  generalize tkI ⟨2, d.su, d.nx, d.gt, d.sl, d.ops⟩ = K at *
  have h5 : (0 : Int) < (d.ops.length : Int) := by omega
  obtain ⟨a, ca, rfl, _, _⟩ := hv
  clear h
  obtain ⟨sa, su, nx, gt, sl, l⟩ := d
  dsimp only at *
  subst h1
  subst hW
  go_enter Tryz.func18, Tryz.ntmps18
  go_upto_region 3 with (go_at_call 28; refine (HD.out _ hB).mono ?_; rintro e w' ⟨rfl, hb⟩; replace hB := thenB hB hb; replace hX := resB hX hb; replace hR := resB hR hb; replace hA := AnsWalk.resB hA hb; replace hs := Nat.le_trans (Nat.le_of_eq hs) hb.size; clear hb)
  clear HD
  go_wp2_with fail
  refine (HC.out _ hB).mono ?_
  rintro e w2 ⟨⟨u, rfl, hown⟩, hb⟩
  replace hB := thenB hB hb
  replace hR := resB hR hb
  replace hX := resB hX hb
  replace hA := AnsWalk.resB hA hb
  obtain ⟨a', c', rfl⟩ := owns_form hown
  have hU := ((own_of hown).mono hs).lt
  replace hs := Nat.le_trans hs hb.size
  clear hb HC hown
  have hO := resM w2 (.int .i64 1) (.int .i64 su) (.int .i64 nx) (.int .i64 gt) (.int .i64 sl) (.slice a' l.length c') 24
  have hn := hal w2 (.cells #[.int .i64 1, .int .i64 su, .int .i64 nx, .int .i64 gt, .int .i64 sl, .slice a' l.length c'] 24)
  replace hB := thenB hB hn
  replace hR := resB hR hn
  replace hX := resB hX hn
  replace hA := AnsWalk.resB hA hn
  replace hU := hU.below hn
  have hs3 := Nat.le_trans hs hn.size
  clear hn
  go_upto_region 4 with fail
  generalize w2.alloc _ = W2 at *
  generalize w2.heap.size = B3 at *
  go_upto_region 6 with fail
  have HB := hide hB
  have HR := hide hR
  have HX := hide hX
  have HA := hide hA
  have HU := hide hU
  clear hB hR hX hA hU
  go_upto_region 7 with fail
  replace hO := res0 hO (.int .i64 3)
  have hR := resO HR.out (show B3 ≠ w.heap.size + 1 by omega) 0 (.int .i64 3)
  have hX := resO HX.out (show B3 ≠ w.heap.size by omega) 0 (.int .i64 3)
  have hA := ans_other HA.out (show B3 ≠ w.heap.size + 1 + 1 by omega) 0 (.int .i64 3)
  have hB := HB.out.setCell (p := ⟨B3, 0, none⟩) (show w.heap.size ≤ B3 by omega) (.int .i64 3)
  have hU := in_other HU.out (Nat.le_refl _) 0 (.int .i64 3)
  clear HB HR HX HA HU
  generalize World.setCell _ _ _ = W3 at *
  go_upto_region 8 with fail
  have HB := hide hB
  have HR := hide hR
  have HX := hide hX
  have HA := hide hA
  have HU := hide hU
  clear hB hR hX hA hU
  go_upto_region 16 with fail
  replace hO := res0 hO (.int .i64 2)
  have hR := resO HR.out (show B3 ≠ w.heap.size + 1 by omega) 0 (.int .i64 2)
  have hX := resO HX.out (show B3 ≠ w.heap.size by omega) 0 (.int .i64 2)
  have hA := ans_other HA.out (show B3 ≠ w.heap.size + 1 + 1 by omega) 0 (.int .i64 2)
  have hB := HB.out.setCell (p := ⟨B3, 0, none⟩) (show w.heap.size ≤ B3 by omega) (.int .i64 2)
  have hU := in_other HU.out (Nat.le_refl _) 0 (.int .i64 2)
  clear HB HR HX HA HU
  generalize World.setCell _ _ _ = W3 at *
  go_region
  go_wp2_with fail
  exact bodyPost_ret (v := .tuple #[.agg #[.int .i64 2, .int .i64 su, .int .i64 nx, .int .i64 gt, .int .i64 sl, .slice a' l.length c'], .agg #[.int .i64 su, .int .i64 K, .int .i64 2], .int .i64 0]) (by simp [results, Tryz.results18, go_sem, hR, hA]) rfl ⟨_, rfl, (drewO (((((hU.st.set6 (Nat.lt_succ_of_lt (Nat.lt_succ_self _)) _ _ _ _ _ _).set (Nat.lt_succ_self _) 0 _).set (Nat.lt_succ_self _) 1 _).set (Nat.lt_succ_self _) 2 _))).mono (by omega), bD (AnsWalk.set3 (set6 hB (Nat.le_succ _)) (by omega))⟩
set_option maxRecDepth 100000 in
set_option maxHeartbeats 4000000 in
theorem ref_mani (f : ByteArray) (d : FDev) (v : Value) (w : World) (hv : IsSt w v d.ops) (h : bothB f d = true) (h1 : d.sa = 4) (he : errS f d.sl d.gt = 0) : Calls Tryz.prog 18 #[.string f, .agg #[.int .i64 d.sa, .int .i64 d.su, .int .i64 d.nx, .int .i64 d.gt, .int .i64 d.sl, v]] w (RefOwn w ⟨5, d.su, d.nx, d.gt, d.sl, recL f d.sl d.gt⟩ 0) := by
  have h := both_parts.1 h
  have hl := (dev_parts h.2).2.2.2
  have HD : Hid (∀ (w' : World), Below w.heap.size w w' → _) := fun w' hb => both_any f d v w' (hv.below hb)
  have HC : Hid (∀ (w' : World), Below w.heap.size w w' → _) := fun w' hb => copyRef_any d v w' (by omega) (hv.below hb)
  obtain ⟨W, hW, hX, hR, hA, hB, hs⟩ := three_boxes w (.int .i64 d.sa) (.int .i64 d.su) (.int .i64 d.nx) (.int .i64 d.gt) (.int .i64 d.sl) v
  rw [h.1, h.2, Bool.true_and] at HD
  have b2 := build_ans3
  unfold RefOwn
  have C1 := hide (fun w => refRof_any f d.sl d.gt w)
  have C2 := hide (fun w => refApp_any f (rofQ f d.sl d.gt) (rofT f d.sl d.gt) (rofZ f d.sl d.gt) (rofM f d.sl d.gt) w)
  have h2 : appOk f (rofQ f d.sl d.gt) (rofT f d.sl d.gt) (rofZ f d.sl d.gt) (rofM f d.sl d.gt) = true := by
    rcases rec_ways f d.sl d.gt with ⟨_, h⟩ | ⟨h, _⟩
    · exact h
    · exact absurd he h
  rw [he] at C1
  rw [h2, show errP true = 0 from rfl, show appL f (rofQ f d.sl d.gt) (rofT f d.sl d.gt) (rofZ f d.sl d.gt) (rofM f d.sl d.gt) = recL f d.sl d.gt from rfl] at C2
  clear he h2
  generalize recL f d.sl d.gt = L at *
  generalize rofQ f d.sl d.gt = rQ at *
  generalize rofT f d.sl d.gt = rT at *
  generalize rofZ f d.sl d.gt = rZ at *
  generalize rofM f d.sl d.gt = rM at *
  have hmn := fun ts t w => run_min255' (P := Tryz.prog) L.length ts t w
  have hk : min (L.length : Int) 255 = tkI ⟨5, d.su, d.nx, d.gt, d.sl, L⟩ := rfl
  simp only [hk] at hmn
  clear hk
  generalize tkI ⟨5, d.su, d.nx, d.gt, d.sl, L⟩ = K at *
  obtain ⟨a, ca, rfl, _, _⟩ := hv
  clear h
  obtain ⟨sa, su, nx, gt, sl, l⟩ := d
  dsimp only at *
  subst h1
  subst hW
  go_enter Tryz.func18, Tryz.ntmps18
  go_upto_region 3 with (go_at_call 28; refine (HD.out _ hB).mono ?_; rintro e w' ⟨rfl, hb⟩; replace hB := thenB hB hb; replace hX := resB hX hb; replace hR := resB hR hb; replace hA := AnsWalk.resB hA hb; replace hs := Nat.le_trans (Nat.le_of_eq hs) hb.size; clear hb)
  clear HD
  go_wp2_with fail
  refine (HC.out _ hB).mono ?_
  rintro e w2 ⟨⟨u, rfl, hown⟩, hb⟩
  replace hB := thenB hB hb
  replace hR := resB hR hb
  replace hX := resB hX hb
  replace hA := AnsWalk.resB hA hb
  obtain ⟨a', c', rfl⟩ := owns_form hown
  have hU := ((own_of hown).mono hs).lt
  replace hs := Nat.le_trans hs hb.size
  clear hb HC hown
  have hO := resM w2 (.int .i64 4) (.int .i64 su) (.int .i64 nx) (.int .i64 gt) (.int .i64 sl) (.slice a' l.length c') 24
  have hn := hal w2 (.cells #[.int .i64 4, .int .i64 su, .int .i64 nx, .int .i64 gt, .int .i64 sl, .slice a' l.length c'] 24)
  replace hB := thenB hB hn
  replace hR := resB hR hn
  replace hX := resB hX hn
  replace hA := AnsWalk.resB hA hn
  replace hU := hU.below hn
  have hs3 := Nat.le_trans hs hn.size
  clear hn
  go_upto_region 4 with fail
  generalize w2.alloc _ = W2 at *
  generalize w2.heap.size = B3 at *
  go_upto_region 10 with fail
  clear hU
  go_wp2_with fail
  refine (C1.out _).mono ?_
  rintro e w3 ⟨rfl, hb⟩
  have hn := hal w3 (.cells #[.int .i64 rQ, .int .i64 rT, .int .i64 rZ, .int .i64 rM] 88)
  have h43 : B3 < w3.heap.size := Nat.lt_of_lt_of_le hO.1 hb.size
  replace hB := thenB (thenB hB hb) hn
  replace hX := resB (resB hX hb) hn
  replace hR := resB (resB hR hb) hn
  replace hA := AnsWalk.resB (AnsWalk.resB hA hb) hn
  replace hO := resB (resB hO hb) hn
  clear hb hn C1
  go_wp2_with fail
  refine (C2.out _).mono ?_
  have h44 : B3 < (w3.alloc (.cells #[.int .i64 rQ, .int .i64 rT, .int .i64 rZ, .int .i64 rM] 88)).heap.size := hO.1
  generalize w3.alloc _ = W4 at *
  rintro e w5 ⟨vl, rfl, hown, hb⟩
  obtain ⟨a6, c6, rfl⟩ := owns_form hown
  have hU := own_of hown
  replace hB := thenB hB hb
  replace hX := resB hX hb
  replace hR := resB hR hb
  replace hA := AnsWalk.resB hA hb
  replace hO := resB hO hb
  clear hb hown C2
  have HB := hide hB
  have HR := hide hR
  have HX := hide hX
  have HA := hide hA
  have HU := hide hU
  clear hB hR hX hA hU
  go_upto_region 14 with fail
  have q1 : B3 ≠ w.heap.size + 1 := by omega
  have q0 : B3 ≠ w.heap.size := by omega
  have q2 : B3 ≠ w.heap.size + 1 + 1 := by omega
  replace hO := res5 (res0 hO (.int .i64 5)) (.slice a6 L.length c6)
  have hR := resO (resO HR.out q1 0 (.int .i64 5)) q1 5 (.slice a6 L.length c6)
  have hX := resO (resO HX.out q0 0 (.int .i64 5)) q0 5 (.slice a6 L.length c6)
  have hA := ans_other (ans_other HA.out q2 0 (.int .i64 5)) q2 5 (.slice a6 L.length c6)
  have hB := (HB.out.setCell (p := ⟨B3, 0, none⟩) (show w.heap.size ≤ B3 by omega) (.int .i64 5)).setCell (p := ⟨B3, 5, none⟩) (show w.heap.size ≤ B3 by omega) (.slice a6 L.length c6)
  have hU := ((HU.out.set h44 0 (.int .i64 5)).set h44 5 (.slice a6 L.length c6)).mono (show w.heap.size + 1 + 1 + 1 ≤ W4.heap.size by omega)
  clear HB HR HX HA HU
  generalize (World.setCell _ _ _).setCell _ _ = W6 at *
  go_upto_region 16 with fail
  go_region
  go_wp2_with fail
  exact bodyPost_ret (v := .tuple #[.agg #[.int .i64 5, .int .i64 su, .int .i64 nx, .int .i64 gt, .int .i64 sl, .slice a6 L.length c6], .agg #[.int .i64 su, .int .i64 K, .int .i64 5], .int .i64 0]) (by simp [results, Tryz.results18, go_sem, hR, hA]) rfl ⟨_, rfl, (drewO (((((hU.set6 (Nat.lt_succ_of_lt (Nat.lt_succ_self _)) _ _ _ _ _ _).set (Nat.lt_succ_self _) 0 _).set (Nat.lt_succ_self _) 1 _).set (Nat.lt_succ_self _) 2 _))).mono (by omega), bD (AnsWalk.set3 (set6 hB (Nat.le_succ _)) (by omega))⟩
set_option maxRecDepth 100000 in
set_option maxHeartbeats 4000000 in
theorem ref_mfail (f : ByteArray) (d : FDev) (v : Value) (w : World) (hv : IsSt w v d.ops) (h : bothB f d = true) (h1 : d.sa = 4) (he : ¬ errS f d.sl d.gt = 0) : Calls Tryz.prog 18 #[.string f, .agg #[.int .i64 d.sa, .int .i64 d.su, .int .i64 d.nx, .int .i64 d.gt, .int .i64 d.sl, v]] w (RefOwn w (failedD 3) 0) := by
  have h := both_parts.1 h
  have hl := (dev_parts h.2).2.2.2
  have HD : Hid (∀ (w' : World), Below w.heap.size w w' → _) := fun w' hb => both_any f d v w' (hv.below hb)
  have HC : Hid (∀ (w' : World), Below w.heap.size w w' → _) := fun w' hb => copyRef_any d v w' (by omega) (hv.below hb)
  obtain ⟨W, hW, hX, hR, hA, hB, hs⟩ := three_boxes w (.int .i64 d.sa) (.int .i64 d.su) (.int .i64 d.nx) (.int .i64 d.gt) (.int .i64 d.sl) v
  rw [h.1, h.2, Bool.true_and] at HD
  have b2 := build_ans3
  unfold RefOwn
  have C1 := hide (fun w => refRof_any f d.sl d.gt w)
  have C2 := hide (fun w => refApp_any f (rofQ f d.sl d.gt) (rofT f d.sl d.gt) (rofZ f d.sl d.gt) (rofM f d.sl d.gt) w)
  have h2 : rofQ f d.sl d.gt = 0 ∧ rofT f d.sl d.gt = 0 ∧ rofZ f d.sl d.gt = 0 ∧ rofM f d.sl d.gt = 0 ∧ appOk f 0 0 0 0 = false ∧ recL f d.sl d.gt = [] := by
    rcases rec_ways f d.sl d.gt with ⟨h, _⟩ | ⟨_, h⟩
    · exact absurd h he
    · exact h
  obtain ⟨v1, v2, v3, v4, v5, v6⟩ := h2
  unfold recL at v6
  rw [v1, v2, v3, v4] at v6 C1 C2
  rw [v5, v6, show errP false = 800 from rfl] at C2
  dsimp only [List.length_nil] at C2
  have g1 := ne_t he
  clear v1 v2 v3 v4 v5 v6 he
  generalize errS f d.sl d.gt = E at *
  have hmn := fun ts t w => run_min255' (P := Tryz.prog) 0 ts t w
  have hk : tkI (failedD 3) = 0 := rfl
  rw [hk]
  clear hk
  unfold failedD
  obtain ⟨a, ca, rfl, _, _⟩ := hv
  clear h
  obtain ⟨sa, su, nx, gt, sl, l⟩ := d
  dsimp only at *
  subst h1
  subst hW
  go_enter Tryz.func18, Tryz.ntmps18
  go_upto_region 3 with (go_at_call 28; refine (HD.out _ hB).mono ?_; rintro e w' ⟨rfl, hb⟩; replace hB := thenB hB hb; replace hX := resB hX hb; replace hR := resB hR hb; replace hA := AnsWalk.resB hA hb; replace hs := Nat.le_trans (Nat.le_of_eq hs) hb.size; clear hb)
  clear HD
  go_wp2_with fail
  refine (HC.out _ hB).mono ?_
  rintro e w2 ⟨⟨u, rfl, hown⟩, hb⟩
  replace hB := thenB hB hb
  replace hR := resB hR hb
  replace hX := resB hX hb
  replace hA := AnsWalk.resB hA hb
  obtain ⟨a', c', rfl⟩ := owns_form hown
  have hU := ((own_of hown).mono hs).lt
  replace hs := Nat.le_trans hs hb.size
  clear hb HC hown
  have hO := resM w2 (.int .i64 4) (.int .i64 su) (.int .i64 nx) (.int .i64 gt) (.int .i64 sl) (.slice a' l.length c') 24
  have hn := hal w2 (.cells #[.int .i64 4, .int .i64 su, .int .i64 nx, .int .i64 gt, .int .i64 sl, .slice a' l.length c'] 24)
  replace hB := thenB hB hn
  replace hR := resB hR hn
  replace hX := resB hX hn
  replace hA := AnsWalk.resB hA hn
  replace hU := hU.below hn
  have hs3 := Nat.le_trans hs hn.size
  clear hn
  go_upto_region 4 with fail
  generalize w2.alloc _ = W2 at *
  generalize w2.heap.size = B3 at *
  go_upto_region 10 with fail
  clear hU
  go_wp2_with fail
  refine (C1.out _).mono ?_
  rintro e w3 ⟨rfl, hb⟩
  have hn := hal w3 (.cells #[.int .i64 0, .int .i64 0, .int .i64 0, .int .i64 0] 88)
  have h43 : B3 < w3.heap.size := Nat.lt_of_lt_of_le hO.1 hb.size
  replace hB := thenB (thenB hB hb) hn
  replace hX := resB (resB hX hb) hn
  replace hR := resB (resB hR hb) hn
  replace hA := AnsWalk.resB (AnsWalk.resB hA hb) hn
  replace hO := resB (resB hO hb) hn
  clear hb hn C1
  go_wp2_with fail
  refine (C2.out _).mono ?_
  have h44 : B3 < (w3.alloc (.cells #[.int .i64 0, .int .i64 0, .int .i64 0, .int .i64 0] 88)).heap.size := hO.1
  generalize w3.alloc _ = W4 at *
  rintro e w5 ⟨vl, rfl, hown, hb⟩
  obtain ⟨a6, c6, rfl⟩ := owns_form hown
  have hU := own_of hown
  replace hB := thenB hB hb
  replace hX := resB hX hb
  replace hR := resB hR hb
  replace hA := AnsWalk.resB hA hb
  replace hO := resB hO hb
  clear hb hown C2
  have HB := hide hB
  have HR := hide hR
  have HX := hide hX
  have HA := hide hA
  have HU := hide hU
  clear hB hR hX hA hU
  go_upto_region 14 with fail
  have q1 : B3 ≠ w.heap.size + 1 := by omega
  have q0 : B3 ≠ w.heap.size := by omega
  have q2 : B3 ≠ w.heap.size + 1 + 1 := by omega
  replace hO := res5 (res0 hO (.int .i64 5)) (.slice a6 0 c6)
  have hR := resO (resO HR.out q1 0 (.int .i64 5)) q1 5 (.slice a6 0 c6)
  have hX := resO (resO HX.out q0 0 (.int .i64 5)) q0 5 (.slice a6 0 c6)
  have hA := ans_other (ans_other HA.out q2 0 (.int .i64 5)) q2 5 (.slice a6 0 c6)
  have hB := (HB.out.setCell (p := ⟨B3, 0, none⟩) (show w.heap.size ≤ B3 by omega) (.int .i64 5)).setCell (p := ⟨B3, 5, none⟩) (show w.heap.size ≤ B3 by omega) (.slice a6 0 c6)
  clear HB HR HX HA HU
  generalize (World.setCell _ _ _).setCell _ _ = W6 at *
  go_upto_region 15 with fail
  go_wp2_with fail
  refine (DevRef.failedRef_any _ _).mono ?_
  rintro e w7 ⟨rfl, hb⟩
  replace hB := thenB hB hb
  replace hR := resB hR hb
  replace hA := AnsWalk.resB hA hb
  replace hO := resB hO hb
  clear hb hX
  have HB := hide hB
  have HR := hide hR
  have HA := hide hA
  clear hB hR hA
  go_upto_region 16 with fail
  replace hO := res6 hO (.int .i64 7) (.int .i64 3) (.int .i64 0) (.int .i64 0) (.int .i64 0) (.slice none 0 0)
  have hR := resO6 HR.out q1 (.int .i64 7) (.int .i64 3) (.int .i64 0) (.int .i64 0) (.int .i64 0) (.slice none 0 0)
  have hA := ansO6 HA.out q2 (.int .i64 7) (.int .i64 3) (.int .i64 0) (.int .i64 0) (.int .i64 0) (.slice none 0 0)
  have hB := set6 (x0 := .int .i64 7) (x1 := .int .i64 3) (x2 := .int .i64 0) (x3 := .int .i64 0) (x4 := .int .i64 0) (x5 := .slice none 0 0) HB.out (show w.heap.size ≤ B3 by omega)
  clear HB HR HA
  generalize (((((w7.setCell _ _).setCell _ _).setCell _ _).setCell _ _).setCell _ _).setCell _ _ = W8 at *
  go_region
  go_wp2_with fail
  exact bodyPost_ret (v := .tuple #[.agg #[.int .i64 7, .int .i64 3, .int .i64 0, .int .i64 0, .int .i64 0, .slice none 0 0], .agg #[.int .i64 3, .int .i64 0, .int .i64 7], .int .i64 0]) (by simp [results, Tryz.results18, go_sem, hR, hA]) rfl ⟨_, rfl, own_none _ _, bD (AnsWalk.set3 (set6 hB (Nat.le_succ _)) (by omega))⟩
theorem refGet_own (f : ByteArray) (d : FDev) (v : Value) (w : World) (hv : IsSt w v d.ops) : Calls Tryz.prog 18 #[.string f, .agg #[.int .i64 d.sa, .int .i64 d.su, .int .i64 d.nx, .int .i64 d.gt, .int .i64 d.sl, v]] w (RefOwn w (getD f d) (errT (bothB f d))) := by
  cases h : bothB f d with
  | false => rw [get_no h]; exact ref_no f d v w hv h
  | true =>
    rw [get_ok h]
    by_cases h1 : d.sa = 1
    · rw [ask_sync h1]
      unfold syncI
      by_cases h2 : d.ops.length = 0
      · rw [if_pos h2, List.length_eq_zero_iff.1 h2]
        exact ref_down f d v w hv h h1 (List.length_eq_zero_iff.1 h2)
      · rw [if_neg h2]
        exact ref_busy f d v w hv h h1 h2
    by_cases h4 : d.sa = 4
    · rw [ask_mani h4]
      unfold maniD
      by_cases he : errS f d.sl d.gt = 0
      · rw [if_pos he]
        exact ref_mani f d v w hv h h4 he
      · rw [if_neg he]
        exact ref_mfail f d v w hv h h4 he
    rw [ask_other h1 h4]
    exact ref_other f d v w hv h h1 h4
theorem refGet_any (f : ByteArray) (d : FDev) (v : Value) (w : World) (hv : IsSt w v d.ops) : Calls Tryz.prog 18 #[.string f, .agg #[.int .i64 d.sa, .int .i64 d.su, .int .i64 d.nx, .int .i64 d.gt, .int .i64 d.sl, v]] w (RefGot w (getD f d) (errT (bothB f d))) := (refGet_own f d v w hv).mono fun _ _ ⟨u, h, hO, hb⟩ => ⟨u, h, hO.is, hb⟩
end Go.Proofs.YtmlfkbkpkgaefaaGreatDoor.StsRef
