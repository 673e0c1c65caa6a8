/- The contract of upload.Give: whatever it is asked, the device, the bytes and the error that the plain functions give. -/
import Derived.Test.YthcknngmpcepfaaUplWalk
namespace Go.Proofs.Ythcknngmpcepfaa.UplGive
open Go.Proofs.Ythcknngmpcepfaa Go.RowKit Go.Proofs.Ythcknngmpcepfaa.Bytes Go.Proofs.Ythcknngmpcepfaa.Ops Go.Proofs.Ythcknngmpcepfaa.OpsRow Go.Proofs.Ythcknngmpcepfaa.Jou Go.Proofs.Ythcknngmpcepfaa.Act Go.Proofs.Ythcknngmpcepfaa.Dev Go.Proofs.Ythcknngmpcepfaa.DevRow Go.Proofs.Ythcknngmpcepfaa.DevSet Go.Proofs.Ythcknngmpcepfaa.Dnl Go.Proofs.Ythcknngmpcepfaa.DnlCopy Go.Proofs.Ythcknngmpcepfaa.Tic Go.Proofs.Ythcknngmpcepfaa.TicRow Go.Proofs.Ythcknngmpcepfaa.Upl Go.Proofs.Ythcknngmpcepfaa.UplWalk
open Go.Proofs.Ythcknngmpcepfaa.DevWalk (build_d0)
open Go.Proofs.Ythcknngmpcepfaa.DnlWalk (ne_t eq_f)
attribute [local go_sem ↓] Go.wp_at_zero Go.wp_at_succ
/-- What a call to Give gives: a device whose steps lie in memory made since and may be written, bytes, an error. -/
def Given (w : World) (d : FDev) (s : ByteArray) (e : Int) (r : Ending) (w' : World) : Prop := ∃ u, r = .returned (.tuple #[.agg #[.int .i64 d.sa, .int .i64 d.su, .int .i64 d.nx, .int .i64 d.gt, .int .i64 d.sl, u], .string s, .int .i64 e]) ∧ OwnSt w' w.heap.size u d.ops ∧ Below w.heap.size w w'
set_option maxRecDepth 100000 in
set_option maxHeartbeats 4000000 in
theorem give_no1 (f : ByteArray) (d : FDev) (v : Value) (b n : Int) (w : World) (hv : IsSt w v d.ops) (g0 : mayF f = false) : Calls Try.prog 10 #[.string f, .agg #[.int .i64 d.sa, .int .i64 d.su, .int .i64 d.nx, .int .i64 d.gt, .int .i64 d.sl, v], .int .i64 b, .int .i64 n] w (Given w newD ⟨#[]⟩ 2000) := by
  have HM := hide (fun w => NorWalk.may_any f w)
  have hmm : NorWalk.mayB f = mayF f := rfl
  rw [hmm, g0] at HM
  clear hmm g0
  obtain ⟨hX, hR, hB, hs⟩ := two_boxes w (.int .i64 d.sa) (.int .i64 d.su) (.int .i64 d.nx) (.int .i64 d.gt) (.int .i64 d.sl) v
  have b1 := build_d0
  unfold newD
  unfold Given
  obtain ⟨a, ca, rfl, _, _⟩ := hv
  obtain ⟨sa, su, nx, gt, sl, l⟩ := d
  dsimp only at *
  go_enter Try.func10, Try.ntmps10
  go_upto_region 2 with (first | (go_at_call 21; refine (HM.out _).mono ?_; rintro e w' ⟨rfl, rfl⟩))
  generalize (w.alloc _).alloc _ = W at *
  go_wp2_with fail
  exact bodyPost_ret (v := .tuple #[.agg #[.int .i64 0, .int .i64 0, .int .i64 0, .int .i64 0, .int .i64 0, .slice none 0 0], .string ⟨#[]⟩, .int .i64 2000]) (by simp [results, Try.results10, go_sem, hR]) rfl ⟨_, rfl, own_none _ _, set6 hB (Nat.le_succ _)⟩
set_option maxRecDepth 100000 in
set_option maxHeartbeats 4000000 in
theorem give_no2 (f : ByteArray) (d : FDev) (v : Value) (b n : Int) (w : World) (hv : IsSt w v d.ops) (g0 : mayF f = true) (g1 : devB d = false) : Calls Try.prog 10 #[.string f, .agg #[.int .i64 d.sa, .int .i64 d.su, .int .i64 d.nx, .int .i64 d.gt, .int .i64 d.sl, v], .int .i64 b, .int .i64 n] w (Given w newD ⟨#[]⟩ 2000) := by
  have HM := hide (fun w => NorWalk.may_any f w)
  have hmm : NorWalk.mayB f = mayF f := rfl
  rw [hmm, g0] at HM
  clear hmm g0
  have HD : Hid (∀ (w' : World), Below w.heap.size w w' → _) := fun w' hb => DevWalk.dmay_any d v w' (hv.below hb)
  rw [g1] at HD
  clear g1
  obtain ⟨hX, hR, hB, hs⟩ := two_boxes w (.int .i64 d.sa) (.int .i64 d.su) (.int .i64 d.nx) (.int .i64 d.gt) (.int .i64 d.sl) v
  have b1 := build_d0
  unfold newD
  unfold Given
  obtain ⟨a, ca, rfl, _, _⟩ := hv
  obtain ⟨sa, su, nx, gt, sl, l⟩ := d
  dsimp only at *
  go_enter Try.func10, Try.ntmps10
  go_wp2_with (first | (go_at_call 21; refine (HM.out _).mono ?_; rintro e w' ⟨rfl, rfl⟩) | (go_at_call 22; refine (HD.out _ hB).mono ?_; rintro e w' ⟨rfl, hb⟩; replace hB := thenB hB hb; replace hX := resB hX hb; replace hR := resB hR hb; clear hb))
  exact bodyPost_ret (v := .tuple #[.agg #[.int .i64 0, .int .i64 0, .int .i64 0, .int .i64 0, .int .i64 0, .slice none 0 0], .string ⟨#[]⟩, .int .i64 2000]) (by simp [results, Try.results10, go_sem, hR]) rfl ⟨_, rfl, own_none _ _, set6 hB (Nat.le_succ _)⟩
set_option maxRecDepth 100000 in
set_option maxHeartbeats 4000000 in
theorem give_no3 (f : ByteArray) (d : FDev) (v : Value) (b n : Int) (w : World) (hv : IsSt w v d.ops) (g0 : mayF f = true) (g1 : devB d = true) (g2 : readsB d.sa = false) : Calls Try.prog 10 #[.string f, .agg #[.int .i64 d.sa, .int .i64 d.su, .int .i64 d.nx, .int .i64 d.gt, .int .i64 d.sl, v], .int .i64 b, .int .i64 n] w (Given w newD ⟨#[]⟩ 2000) := by
  have HM := hide (fun w => NorWalk.may_any f w)
  have hmm : NorWalk.mayB f = mayF f := rfl
  rw [hmm, g0] at HM
  clear hmm g0
  have HD : Hid (∀ (w' : World), Below w.heap.size w w' → _) := fun w' hb => DevWalk.dmay_any d v w' (hv.below hb)
  rw [g1] at HD
  clear g1
  have HG := hide (fun w => reads_any d.sa w)
  rw [g2] at HG
  clear g2
  obtain ⟨hX, hR, hB, hs⟩ := two_boxes w (.int .i64 d.sa) (.int .i64 d.su) (.int .i64 d.nx) (.int .i64 d.gt) (.int .i64 d.sl) v
  have b1 := build_d0
  unfold newD
  unfold Given
  obtain ⟨a, ca, rfl, _, _⟩ := hv
  obtain ⟨sa, su, nx, gt, sl, l⟩ := d
  dsimp only at *
  go_enter Try.func10, Try.ntmps10
  go_wp2_with (first | (go_at_call 21; refine (HM.out _).mono ?_; rintro e w' ⟨rfl, rfl⟩) | (go_at_call 22; refine (HD.out _ hB).mono ?_; rintro e w' ⟨rfl, hb⟩; replace hB := thenB hB hb; replace hX := resB hX hb; replace hR := resB hR hb; clear hb) | (go_at_call 23; refine (HG.out _).mono ?_; rintro e w' ⟨rfl, rfl⟩))
  exact bodyPost_ret (v := .tuple #[.agg #[.int .i64 0, .int .i64 0, .int .i64 0, .int .i64 0, .int .i64 0, .slice none 0 0], .string ⟨#[]⟩, .int .i64 2000]) (by simp [results, Try.results10, go_sem, hR]) rfl ⟨_, rfl, own_none _ _, set6 hB (Nat.le_succ _)⟩
set_option maxRecDepth 100000 in
set_option maxHeartbeats 4000000 in
theorem give_no4 (f : ByteArray) (d : FDev) (v : Value) (b n : Int) (w : World) (hv : IsSt w v d.ops) (g0 : mayF f = true) (g1 : devB d = true) (g2 : readsB d.sa = true) (g3 : askB b n = false) : Calls Try.prog 10 #[.string f, .agg #[.int .i64 d.sa, .int .i64 d.su, .int .i64 d.nx, .int .i64 d.gt, .int .i64 d.sl, v], .int .i64 b, .int .i64 n] w (Given w newD ⟨#[]⟩ 2000) := by
  have HM := hide (fun w => NorWalk.may_any f w)
  have hmm : NorWalk.mayB f = mayF f := rfl
  rw [hmm, g0] at HM
  clear hmm g0
  have HD : Hid (∀ (w' : World), Below w.heap.size w w' → _) := fun w' hb => DevWalk.dmay_any d v w' (hv.below hb)
  rw [g1] at HD
  clear g1
  have HG := hide (fun w => reads_any d.sa w)
  rw [g2] at HG
  clear g2
  have HA := hide (fun w => umay_any b n w)
  rw [g3] at HA
  clear g3
  obtain ⟨hX, hR, hB, hs⟩ := two_boxes w (.int .i64 d.sa) (.int .i64 d.su) (.int .i64 d.nx) (.int .i64 d.gt) (.int .i64 d.sl) v
  have b1 := build_d0
  unfold newD
  unfold Given
  obtain ⟨a, ca, rfl, _, _⟩ := hv
  obtain ⟨sa, su, nx, gt, sl, l⟩ := d
  dsimp only at *
  go_enter Try.func10, Try.ntmps10
  go_wp2_with (first | (go_at_call 21; refine (HM.out _).mono ?_; rintro e w' ⟨rfl, rfl⟩) | (go_at_call 22; refine (HD.out _ hB).mono ?_; rintro e w' ⟨rfl, hb⟩; replace hB := thenB hB hb; replace hX := resB hX hb; replace hR := resB hR hb; clear hb) | (go_at_call 23; refine (HG.out _).mono ?_; rintro e w' ⟨rfl, rfl⟩) | (go_at_call 24; refine (HA.out _).mono ?_; rintro e w' ⟨rfl, hb⟩; replace hB := thenB hB hb; replace hX := resB hX hb; replace hR := resB hR hb; clear hb))
  exact bodyPost_ret (v := .tuple #[.agg #[.int .i64 0, .int .i64 0, .int .i64 0, .int .i64 0, .int .i64 0, .slice none 0 0], .string ⟨#[]⟩, .int .i64 2000]) (by simp [results, Try.results10, go_sem, hR]) rfl ⟨_, rfl, own_none _ _, set6 hB (Nat.le_succ _)⟩
theorem give_none (f : ByteArray) (d : FDev) (v : Value) (b n : Int) (w : World) (hv : IsSt w v d.ops) (h : okU f d b n = false) : Calls Try.prog 10 #[.string f, .agg #[.int .i64 d.sa, .int .i64 d.su, .int .i64 d.nx, .int .i64 d.gt, .int .i64 d.sl, v], .int .i64 b, .int .i64 n] w (Given w newD ⟨#[]⟩ 2000) := by
  rcases okU_no h with g0 | ⟨g0, g1⟩ | ⟨g0, g1, g2⟩ | ⟨g0, g1, g2, g3⟩
  · exact give_no1 f d v b n w hv g0
  · exact give_no2 f d v b n w hv g0 g1
  · exact give_no3 f d v b n w hv g0 g1 g2
  · exact give_no4 f d v b n w hv g0 g1 g2 g3
set_option maxRecDepth 100000 in
set_option maxHeartbeats 4000000 in
theorem give_file (f : ByteArray) (d : FDev) (v : Value) (b n : Int) (w : World) (hv : IsSt w v d.ops) (h : okU f d b n = true) (he : ¬ errA f = 0) : Calls Try.prog 10 #[.string f, .agg #[.int .i64 d.sa, .int .i64 d.su, .int .i64 d.nx, .int .i64 d.gt, .int .i64 d.sl, v], .int .i64 b, .int .i64 n] w (Given w (failedD 2) ⟨#[]⟩ 0) := by
  obtain ⟨h0, h1, h2, h3⟩ := okU_all h
  have HM := hide (fun w => NorWalk.may_any f w)
  have HD : Hid (∀ (w' : World), Below w.heap.size w w' → _) := fun w' hb => DevWalk.dmay_any d v w' (hv.below hb)
  have HG := hide (fun w => reads_any d.sa w)
  have HA := hide (fun w => umay_any b n w)
  have HF : Hid (∀ (w' : World), Below w.heap.size w w' → _) := fun w' hb => failed_any d v 2 w' (hv.below hb) h1 rfl
  have HI := hide (fun w => active_no f w he)
  obtain ⟨hX, hR, hB, hs⟩ := two_boxes w (.int .i64 d.sa) (.int .i64 d.su) (.int .i64 d.nx) (.int .i64 d.gt) (.int .i64 d.sl) v
  have hmm : NorWalk.mayB f = mayF f := rfl
  rw [hmm, h0] at HM
  rw [h1] at HD
  rw [h2] at HG
  rw [h3] at HA
  clear hmm h h0 h1 h2 h3 he
  unfold failedD
  unfold Given
  obtain ⟨a, ca, rfl, _, _⟩ := hv
  obtain ⟨sa, su, nx, gt, sl, l⟩ := d
  dsimp only at *
  go_enter Try.func10, Try.ntmps10
  go_wp2_with (first | (go_at_call 21; refine (HM.out _).mono ?_; rintro e w' ⟨rfl, rfl⟩) | (go_at_call 22; refine (HD.out _ hB).mono ?_; rintro e w' ⟨rfl, hb⟩; replace hB := thenB hB hb; replace hX := resB hX hb; replace hR := resB hR hb; clear hb) | (go_at_call 23; refine (HG.out _).mono ?_; rintro e w' ⟨rfl, rfl⟩) | (go_at_call 24; refine (HA.out _).mono ?_; rintro e w' ⟨rfl, hb⟩; replace hB := thenB hB hb; replace hX := resB hX hb; replace hR := resB hR hb; clear hb) | (go_at_call 25; refine (HI.out _).mono ?_; rintro e w' ⟨rfl, hb⟩; replace hB := thenB hB hb; replace hX := resB hX hb; replace hR := resB hR hb; clear hb) | (go_at_call 26; refine (HF.out _ hB).mono ?_; rintro e w' ⟨rfl, hb⟩; replace hB := thenB hB hb; replace hX := resB hX hb; replace hR := resB hR hb; clear hb))
  exact bodyPost_ret (v := .tuple #[.agg #[.int .i64 7, .int .i64 2, .int .i64 0, .int .i64 0, .int .i64 0, .slice none 0 0], .string ⟨#[]⟩, .int .i64 0]) (by simp [results, Try.results10, go_sem, hR]) rfl ⟨_, rfl, own_none _ _, set6 hB (Nat.le_succ _)⟩
set_option maxRecDepth 100000 in
set_option maxHeartbeats 4000000 in
theorem give_other (f : ByteArray) (d : FDev) (v : Value) (b n : Int) (w : World) (hv : IsSt w v d.ops) (h : okU f d b n = true) (he : errA f = 0) (hn : ¬ b = nextU d) : Calls Try.prog 10 #[.string f, .agg #[.int .i64 d.sa, .int .i64 d.su, .int .i64 d.nx, .int .i64 d.gt, .int .i64 d.sl, v], .int .i64 b, .int .i64 n] w (Given w (failedD 4) ⟨#[]⟩ 0) := by
  obtain ⟨h0, h1, h2, h3⟩ := okU_all h
  have HM := hide (fun w => NorWalk.may_any f w)
  have HD : Hid (∀ (w' : World), Below w.heap.size w w' → _) := fun w' hb => DevWalk.dmay_any d v w' (hv.below hb)
  have HG := hide (fun w => reads_any d.sa w)
  have HA := hide (fun w => umay_any b n w)
  have HF : Hid (∀ (w' : World), Below w.heap.size w w' → _) := fun w' hb => failed_any (begunD d) v 4 w' (hv.below hb) (begun_may h1) rfl
  have HI := hide (fun w => active_yes f w he)
  have HN : Hid (∀ (w' : World), Below w.heap.size w w' → _) := fun w' hb => begun_any d v w' (hv.below hb)
  have hk := ne_t hn
  obtain ⟨hX, hR, hB, hs⟩ := two_boxes w (.int .i64 d.sa) (.int .i64 d.su) (.int .i64 d.nx) (.int .i64 d.gt) (.int .i64 d.sl) v
  have hne : w.heap.size ≠ w.heap.size + 1 := Nat.ne_of_lt (Nat.lt_succ_self _)
  have hmm : NorWalk.mayB f = mayF f := rfl
  rw [hmm, h0] at HM
  rw [h1] at HD
  rw [h2] at HG
  rw [h3] at HA
  clear hmm h h0 h1 h2 h3 he hn
  unfold failedD
  unfold Given
  unfold begunD at HF
  dsimp only at HF
  generalize nextU d = NX at *
  generalize actS f = SA at *
  obtain ⟨a, ca, rfl, _, _⟩ := hv
  obtain ⟨sa, su, nx, gt, sl, l⟩ := d
  dsimp only at *
  go_enter Try.func10, Try.ntmps10
  go_upto_region 6 with (first | (go_at_call 21; refine (HM.out _).mono ?_; rintro e w' ⟨rfl, rfl⟩) | (go_at_call 22; refine (HD.out _ hB).mono ?_; rintro e w' ⟨rfl, hb⟩; replace hB := thenB hB hb; replace hX := resB hX hb; replace hR := resB hR hb; clear hb) | (go_at_call 23; refine (HG.out _).mono ?_; rintro e w' ⟨rfl, rfl⟩) | (go_at_call 24; refine (HA.out _).mono ?_; rintro e w' ⟨rfl, hb⟩; replace hB := thenB hB hb; replace hX := resB hX hb; replace hR := resB hR hb; clear hb) | (go_at_call 25; refine (HI.out _).mono ?_; rintro e w' ⟨rfl, hb⟩; replace hB := thenB hB hb; replace hX := resB hX hb; replace hR := resB hR hb; clear hb))
  clear HM HD HG HA HI
  go_wp2_with fail
  refine (HN.out _ hB).mono ?_
  rintro e w2 ⟨rfl, hb⟩
  replace hB := thenB hB hb
  replace hX := resB hX hb
  replace hR := resB hR hb
  clear hb HN
  have HB := hide hB
  have HR := hide hR
  clear hB hR
  go_upto_region 7 with fail
  replace hX := res6 hX (.int .i64 sa) (.int .i64 su) (.int .i64 NX) (.int .i64 gt) (.int .i64 sl) (.slice a l.length ca)
  have hR := resO6 HR.out hne (.int .i64 sa) (.int .i64 su) (.int .i64 NX) (.int .i64 gt) (.int .i64 sl) (.slice a l.length ca)
  have hB := set6 (x0 := .int .i64 sa) (x1 := .int .i64 su) (x2 := .int .i64 NX) (x3 := .int .i64 gt) (x4 := .int .i64 sl) (x5 := .slice a l.length ca) HB.out (Nat.le_refl w.heap.size)
  clear HB HR
  generalize (((((w2.setCell _ _).setCell _ _).setCell _ _).setCell _ _).setCell _ _).setCell _ _ = W4 at *
  go_wp2_with (go_at_call 26; refine (HF.out _ hB).mono ?_; rintro e w' ⟨rfl, hb⟩; replace hB := thenB hB hb; replace hX := resB hX hb; replace hR := resB hR hb; clear hb)
  exact bodyPost_ret (v := .tuple #[.agg #[.int .i64 7, .int .i64 4, .int .i64 0, .int .i64 0, .int .i64 0, .slice none 0 0], .string ⟨#[]⟩, .int .i64 0]) (by simp [results, Try.results10, go_sem, hR]) rfl ⟨_, rfl, own_none _ _, set6 hB (Nat.le_succ _)⟩
set_option maxRecDepth 100000 in
set_option maxHeartbeats 4000000 in
theorem give_data (f : ByteArray) (d : FDev) (v : Value) (b n : Int) (w : World) (hv : IsSt w v d.ops) (h : okU f d b n = true) (he : errA f = 0) (hn : b = nextU d) : Calls Try.prog 10 #[.string f, .agg #[.int .i64 d.sa, .int .i64 d.su, .int .i64 d.nx, .int .i64 d.gt, .int .i64 d.sl, v], .int .i64 b, .int .i64 n] w (Given w (behindD (begunD d) (dataS f d n).size) (dataS f d n) 0) := by
  obtain ⟨h0, h1, h2, h3⟩ := okU_all h
  have hp := okU_parts.1 h
  have hni := next_in h1
  obtain ⟨m, hm⟩ : ∃ m : Nat, n = (m : Int) := ⟨n.toNat, by omega⟩
  obtain ⟨k, hk⟩ : ∃ k : Nat, nextU d = (k : Int) := ⟨(nextU d).toNat, by omega⟩
  have HM := hide (fun w => NorWalk.may_any f w)
  have HD : Hid (∀ (w' : World), Below w.heap.size w w' → _) := fun w' hb => DevWalk.dmay_any d v w' (hv.below hb)
  have HG := hide (fun w => reads_any d.sa w)
  have HA := hide (fun w => umay_any b n w)
  have HI := hide (fun w => active_yes f w he)
  have HN : Hid (∀ (w' : World), Below w.heap.size w w' → _) := fun w' hb => begun_any d v w' (hv.below hb)
  have HP := hide (fun w => piece_any (actS f) k m w (size_actS f) (by omega) (by omega))
  have HE : Hid (∀ (w' : World), Below w.heap.size w w' → _) := fun w' hb => behind_any (begunD d) v (dataS f d n).size w' (hv.below hb) (begun_may h1)
  have hS : pieceN (actS f) k m = dataS f d n := by unfold dataS; rw [hk, hm, Int.toNat_natCast, Int.toNat_natCast]
  rw [hS] at HP
  obtain ⟨hX, hR, hB, hs⟩ := two_boxes w (.int .i64 d.sa) (.int .i64 d.su) (.int .i64 d.nx) (.int .i64 d.gt) (.int .i64 d.sl) v
  have hne : w.heap.size ≠ w.heap.size + 1 := Nat.ne_of_lt (Nat.lt_succ_self _)
  have hmm : NorWalk.mayB f = mayF f := rfl
  rw [hmm, h0] at HM
  rw [h1] at HD
  rw [h2] at HG
  rw [h3] at HA
  clear hmm h h0 h1 h2 h3 he hp hS
  unfold Given
  have hbd : begunD d = ⟨d.sa, d.su, nextU d, d.gt, d.sl, d.ops⟩ := rfl
  rw [hk] at hn hni hbd HN
  subst hn hm
  generalize dataS f d (m : Int) = SD at *
  generalize behindD (begunD d) SD.size = D at *
  rw [hbd] at HE
  dsimp only at HE
  clear hbd hk
  generalize actS f = SA at *
  obtain ⟨a, ca, rfl, _, _⟩ := hv
  obtain ⟨xa, xu, xn, xg, xl, xo⟩ := D
  obtain ⟨sa, su, nx, gt, sl, l⟩ := d
  dsimp only at *
  go_enter Try.func10, Try.ntmps10
  go_upto_region 6 with (first | (go_at_call 21; refine (HM.out _).mono ?_; rintro e w' ⟨rfl, rfl⟩) | (go_at_call 22; refine (HD.out _ hB).mono ?_; rintro e w' ⟨rfl, hb⟩; replace hB := thenB hB hb; replace hX := resB hX hb; replace hR := resB hR hb; replace hs := Nat.le_trans (Nat.le_of_eq hs) hb.size; clear hb) | (go_at_call 23; refine (HG.out _).mono ?_; rintro e w' ⟨rfl, rfl⟩) | (go_at_call 24; refine (HA.out _).mono ?_; rintro e w' ⟨rfl, hb⟩; replace hB := thenB hB hb; replace hX := resB hX hb; replace hR := resB hR hb; replace hs := Nat.le_trans hs hb.size; clear hb) | (go_at_call 25; refine (HI.out _).mono ?_; rintro e w' ⟨rfl, hb⟩; replace hB := thenB hB hb; replace hX := resB hX hb; replace hR := resB hR hb; replace hs := Nat.le_trans hs hb.size; clear hb))
  clear HM HD HG HA HI
  go_wp2_with fail
  refine (HN.out _ hB).mono ?_
  rintro e w2 ⟨rfl, hb⟩
  replace hB := thenB hB hb
  replace hX := resB hX hb
  replace hR := resB hR hb
  replace hs := Nat.le_trans hs hb.size
  clear hb HN
  have HB := hide hB
  have HR := hide hR
  clear hB hR
  go_upto_region 7 with fail
  replace hX := res6 hX (.int .i64 sa) (.int .i64 su) (.int .i64 (k : Int)) (.int .i64 gt) (.int .i64 sl) (.slice a l.length ca)
  have hR := resO6 HR.out hne (.int .i64 sa) (.int .i64 su) (.int .i64 (k : Int)) (.int .i64 gt) (.int .i64 sl) (.slice a l.length ca)
  have hB := set6 (x0 := .int .i64 sa) (x1 := .int .i64 su) (x2 := .int .i64 (k : Int)) (x3 := .int .i64 gt) (x4 := .int .i64 sl) (x5 := .slice a l.length ca) HB.out (Nat.le_refl w.heap.size)
  have hs2 : w.heap.size + 1 + 1 ≤ ((((((w2.setCell ⟨w.heap.size, 0, none⟩ (.int .i64 sa)).setCell ⟨w.heap.size, 1, none⟩ (.int .i64 su)).setCell ⟨w.heap.size, 2, none⟩ (.int .i64 (k : Int))).setCell ⟨w.heap.size, 3, none⟩ (.int .i64 gt)).setCell ⟨w.heap.size, 4, none⟩ (.int .i64 sl)).setCell ⟨w.heap.size, 5, none⟩ (.slice a l.length ca)).heap.size := by simp only [size_set]; exact hs
  clear HB HR hs
  generalize (((((w2.setCell _ _).setCell _ _).setCell _ _).setCell _ _).setCell _ _).setCell _ _ = W4 at *
  go_upto_region 10 with (go_at_call 28; refine (HP.out _).mono ?_; rintro e w' ⟨rfl, rfl⟩)
  clear HP
  go_wp2_with fail
  refine (HE.out _ hB).mono ?_
  rintro e w5 ⟨u, rfl, hO, hb⟩
  obtain ⟨a', c', rfl⟩ := hO.form
  replace hO := hO.mono hs2
  replace hB := thenB hB hb
  replace hR := resB hR hb
  clear hb HE hX hs2
  go_wp2_with fail
  exact bodyPost_ret (v := .tuple #[.agg #[.int .i64 xa, .int .i64 xu, .int .i64 xn, .int .i64 xg, .int .i64 xl, .slice a' xo.length c'], .string SD, .int .i64 0]) (by simp [results, Try.results10, go_sem, hR]) rfl ⟨_, rfl, (hO.set6 (show w.heap.size + 1 < w.heap.size + 1 + 1 by omega) _ _ _ _ _ _).mono (by omega), set6 hB (Nat.le_succ _)⟩
theorem give_any (f : ByteArray) (d : FDev) (v : Value) (b n : Int) (w : World) (hv : IsSt w v d.ops) : Calls Try.prog 10 #[.string f, .agg #[.int .i64 d.sa, .int .i64 d.su, .int .i64 d.nx, .int .i64 d.gt, .int .i64 d.sl, v], .int .i64 b, .int .i64 n] w (Given w (giveD f d b n) (giveS f d b n) (errV (okU f d b n))) := by
  cases h : okU f d b n with
  | false => rw [(give_no h).1, (give_no h).2]; exact give_none f d v b n w hv h
  | true =>
    rw [(give_ok h).1, (give_ok h).2]
    by_cases he : errA f = 0
    · by_cases hn : b = nextU d
      · rw [(told_is n he hn).1, (told_is n he hn).2]; exact give_data f d v b n w hv h he hn
      · rw [(told_other n he hn).1, (told_other n he hn).2]; exact give_other f d v b n w hv h he hn
    · rw [(told_none d b n he).1, (told_none d b n he).2]; exact give_file f d v b n w hv h he
end Go.Proofs.Ythcknngmpcepfaa.UplGive
