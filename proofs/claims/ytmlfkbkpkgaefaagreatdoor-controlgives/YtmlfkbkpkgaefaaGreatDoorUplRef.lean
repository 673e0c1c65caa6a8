/- The contract of the document's own answer to package upload: it gives what the same plain functions give. -/
import Derived.Test.YtmlfkbkpkgaefaaGreatDoorBagUpl
import Derived.Test.YtmlfkbkpkgaefaaGreatDoorDnlRef
import Derived.Test.YtmlfkbkpkgaefaaGreatDoorBagDoc
import Derived.Test.YtmlfkbkpkgaefaaGreatDoorBagAct
namespace Go.Proofs.YtmlfkbkpkgaefaaGreatDoor.UplRef
open Go.Proofs.YtmlfkbkpkgaefaaGreatDoor Go.RowKit Go.Proofs.YtmlfkbkpkgaefaaGreatDoor.Bytes Go.Proofs.YtmlfkbkpkgaefaaGreatDoor.Ops Go.Proofs.YtmlfkbkpkgaefaaGreatDoor.OpsRow Go.Proofs.YtmlfkbkpkgaefaaGreatDoor.Jou Go.Proofs.YtmlfkbkpkgaefaaGreatDoor.JouRow Go.Proofs.YtmlfkbkpkgaefaaGreatDoor.Act Go.Proofs.YtmlfkbkpkgaefaaGreatDoor.ActRef Go.Proofs.YtmlfkbkpkgaefaaGreatDoor.ActNext Go.Proofs.YtmlfkbkpkgaefaaGreatDoor.Dev Go.Proofs.YtmlfkbkpkgaefaaGreatDoor.DevRow Go.Proofs.YtmlfkbkpkgaefaaGreatDoor.DevSet Go.Proofs.YtmlfkbkpkgaefaaGreatDoor.Dnl Go.Proofs.YtmlfkbkpkgaefaaGreatDoor.DnlCopy Go.Proofs.YtmlfkbkpkgaefaaGreatDoor.DnlRef Go.Proofs.YtmlfkbkpkgaefaaGreatDoor.Tic Go.Proofs.YtmlfkbkpkgaefaaGreatDoor.TicRow Go.Proofs.YtmlfkbkpkgaefaaGreatDoor.Upl Go.Proofs.YtmlfkbkpkgaefaaGreatDoor.UplWalk Go.Proofs.YtmlfkbkpkgaefaaGreatDoor.UplGive
open Go.Proofs.YtmlfkbkpkgaefaaGreatDoor.DevWalk (build_d0)
open Go.Proofs.YtmlfkbkpkgaefaaGreatDoor.DnlWalk (ne_t eq_f)
attribute [local go_sem ↓] Go.wp_at_zero Go.wp_at_succ
/-- What a call to the document's Upload gives. -/
def RefGiven (w : World) (d : FDev) (s : ByteArray) (e : Int) (r : Ending) (w' : World) : Prop := ∃ u, r = .returned (.tuple #[.agg #[.int .i64 d.sa, .int .i64 d.su, .int .i64 d.nx, .int .i64 d.gt, .int .i64 d.sl, u], .string s, .int .i64 e]) ∧ IsSt w' u d.ops ∧ Below w.heap.size w w'
/-- The same, its steps in memory made since. -/
def RefOwn (w : World) (d : FDev) (s : ByteArray) (e : Int) (r : Ending) (w' : World) : Prop := ∃ u, r = .returned (.tuple #[.agg #[.int .i64 d.sa, .int .i64 d.su, .int .i64 d.nx, .int .i64 d.gt, .int .i64 d.sl, u], .string s, .int .i64 e]) ∧ OwnSt w' w.heap.size u d.ops ∧ Below w.heap.size w w'
/-- A store into a block made behind the row's. -/
theorem in_other {w : World} {base n : Nat} {v : Value} {l : List FOp} (h : OwnIn w base n v l) {B : Nat} (hB : n ≤ B) (i : Nat) (y : Value) : OwnIn (w.setCell ⟨B, i, none⟩ y) base n v l := by
  obtain ⟨a, cap, rfl, h0, h⟩ := h
  refine ⟨a, cap, rfl, h0, ?_⟩
  rcases h with h | ⟨b, o, rfl, h1, h2, h3, h7, h4, h5, h6⟩
  · exact .inl h
  · have hne : ∀ j, (w.setCell ⟨B, i, none⟩ y).cell? ⟨b, j, none⟩ = w.cell? ⟨b, j, none⟩ := fun j => World.cell?_setCell_other w _ _ _ (ne_blk (by omega))
    exact .inr ⟨b, o, rfl, h1, h2, h3, h7, by rw [size_set]; exact h4, ⟨fun i hi => by rw [hne]; exact h5.er i hi, fun i hi => by rw [hne]; exact h5.pl i hi, fun i hi => by rw [hne]; exact h5.tx i hi⟩, fun i => by rw [World.frozen?_setCell]; exact h6 i⟩
theorem ref_ways {f : ByteArray} {d : FDev} {b n : Int} (h : okU f d b n = false) : (mayF f && devB d) = false ∨ ((mayF f && devB d) = true ∧ (d.sa != 0) = true ∧ (d.sa != 6) = true) ∨ ((mayF f && devB d) = true ∧ d.sa = 0 ∧ upB b 65535 = false) ∨ ((mayF f && devB d) = true ∧ d.sa = 6 ∧ upB b 65535 = false) ∨ ((mayF f && devB d) = true ∧ d.sa = 0 ∧ upB b 65535 = true ∧ upB n 32 = false) ∨ ((mayF f && devB d) = true ∧ d.sa = 6 ∧ upB b 65535 = true ∧ upB n 32 = false) := by
  cases h1 : (mayF f && devB d) with
  | false => exact .inl rfl
  | true =>
    right
    unfold okU bothB readsB askB at h
    rw [h1, Bool.true_and] at h
    by_cases g0 : d.sa = 0
    · right
      rw [decide_eq_true (Or.inl g0), Bool.true_and] at h
      cases h2 : upB b 65535 with
      | false => exact .inl ⟨rfl, g0, rfl⟩
      | true => rw [h2, Bool.true_and] at h; exact .inr (.inr (.inl ⟨rfl, g0, rfl, h⟩))
    by_cases g6 : d.sa = 6
    · right
      rw [decide_eq_true (Or.inr g6), Bool.true_and] at h
      cases h2 : upB b 65535 with
      | false => exact .inr (.inl ⟨rfl, g6, rfl⟩)
      | true => rw [h2, Bool.true_and] at h; exact .inr (.inr (.inr ⟨rfl, g6, rfl, h⟩))
    exact .inl ⟨rfl, ne_t g0, ne_t g6⟩
set_option maxRecDepth 100000 in
set_option maxHeartbeats 4000000 in
theorem ref_no (f : ByteArray) (d : FDev) (v : Value) (b n : Int) (w : World) (hv : IsSt w v d.ops) (h : okU f d b n = false) : Calls Tryz.prog 20 #[.string f, .agg #[.int .i64 d.sa, .int .i64 d.su, .int .i64 d.nx, .int .i64 d.gt, .int .i64 d.sl, v], .int .i64 b, .int .i64 n] w (RefOwn w newD ⟨#[]⟩ 2000) := by
  have HD : Hid (∀ (w' : World), Below w.heap.size w w' → _) := fun w' hb => both_any f d v w' (hv.below hb)
  have HU := hide (fun x k w => DevRef.up16_any x k w)
  obtain ⟨hX, hR, hB, hs⟩ := two_boxes w (.int .i64 d.sa) (.int .i64 d.su) (.int .i64 d.nx) (.int .i64 d.gt) (.int .i64 d.sl) v
  replace hs := Nat.le_of_eq hs
  have b1 := build_d0
  unfold newD
  unfold RefOwn
  have hw := ref_ways h
  clear h
  obtain ⟨a, ca, rfl, _, _⟩ := hv
  generalize (mayF f && devB d) = r0 at *
  obtain ⟨sa, su, nx, gt, sl, l⟩ := d
  dsimp only at *
  rcases hw with rfl | ⟨rfl, g1, g2⟩ | ⟨rfl, rfl, g1⟩ | ⟨rfl, rfl, g1⟩ | ⟨rfl, rfl, g1, g2⟩ | ⟨rfl, rfl, g1, g2⟩
  all_goals
    go_enter Tryz.func20, Tryz.ntmps20
    go_wp2_with (first | (go_at_call 28; refine (HD.out _ hB).mono ?_; rintro e w' ⟨rfl, hb⟩; replace hB := thenB hB hb; replace hX := resB hX hb; replace hR := resB hR hb; replace hs := Nat.le_trans hs hb.size; clear hb) | (go_at_call 43; refine (HU.out _ _ _).mono ?_; rintro e w' ⟨rfl, rfl⟩))
    exact bodyPost_ret (v := .tuple #[.agg #[.int .i64 0, .int .i64 0, .int .i64 0, .int .i64 0, .int .i64 0, .slice none 0 0], .string ⟨#[]⟩, .int .i64 2000]) (by simp [results, Tryz.results20, go_sem, hR]) rfl ⟨_, rfl, own_none _ _, set6 hB (Nat.le_succ _)⟩
set_option maxRecDepth 100000 in
set_option maxHeartbeats 4000000 in
theorem ref_file0 (f : ByteArray) (d : FDev) (v : Value) (b n : Int) (w : World) (hv : IsSt w v d.ops) (h : okU f d b n = true) (hsa : d.sa = 0) (he : ¬ errA f = 0) : Calls Tryz.prog 20 #[.string f, .agg #[.int .i64 d.sa, .int .i64 d.su, .int .i64 d.nx, .int .i64 d.gt, .int .i64 d.sl, v], .int .i64 b, .int .i64 n] w (RefOwn w (failedD 2) ⟨#[]⟩ 0) := by
  obtain ⟨h0, h1, h2, h3⟩ := okU_parts.1 h
  have hni := next_in h1
  have hN : nextU d = 0 := by unfold nextU; rw [hsa]; rfl
  have HD : Hid (∀ (w' : World), Below w.heap.size w w' → _) := fun w' hb => both_any f d v w' (hv.below hb)
  have HU := hide (fun x k w => DevRef.up16_any x k w)
  have u1 : upB b 65535 = true := upB_iff.2 h3.1
  have u2 : upB n 32 = true := upB_iff.2 h3.2
  have CA := hide (fun w => refActive_any f w)
  have CF := hide (fun w => DevRef.failedRef_any 2 w)
  obtain ⟨hX, hR, hB, hs⟩ := two_boxes w (.int .i64 d.sa) (.int .i64 d.su) (.int .i64 d.nx) (.int .i64 d.gt) (.int .i64 d.sl) v
  have hne : w.heap.size ≠ w.heap.size + 1 := Nat.ne_of_lt (Nat.lt_succ_self _)
  replace hs := Nat.le_of_eq hs
  rw [h0, h1, Bool.true_and] at HD
  rw [hN] at hni
  unfold RefOwn
  have he1 := ne_t he
  generalize errA f = E at *
  generalize actV f = P at *
  clear he hN hni
  clear h h0 h1 h2
  obtain ⟨a, ca, rfl, _, _⟩ := hv
  obtain ⟨sa, su, nx, gt, sl, l⟩ := d
  dsimp only at *
  subst hsa
  go_enter Tryz.func20, Tryz.ntmps20
  go_upto_region 3 with (first | (go_at_call 28; refine (HD.out _ hB).mono ?_; rintro e w' ⟨rfl, hb⟩; replace hB := thenB hB hb; replace hX := resB hX hb; replace hR := resB hR hb; replace hs := Nat.le_trans hs hb.size; clear hb) | (go_at_call 43; refine (HU.out _ _ _).mono ?_; rintro e w' ⟨rfl, rfl⟩))
  clear HD HU
  go_wp2_with fail
  refine (CA.out _).mono ?_
  rintro e w2 ⟨rfl, hb⟩
  replace hB := thenB hB hb
  replace hX := resB hX hb
  replace hR := resB hR hb
  replace hs := Nat.le_trans hs hb.size
  clear hb CA
  have hP := box5M w2 (.int .i64 P.pa) (.int .i64 P.pq) (.int .i64 P.pt) (.int .i64 P.pz) (.int .i64 P.pm) 96
  have hal2 := hal w2 (.cells #[.int .i64 P.pa, .int .i64 P.pq, .int .i64 P.pt, .int .i64 P.pz, .int .i64 P.pm] 96)
  replace hB := thenB hB hal2
  replace hX := resB hX hal2
  replace hR := resB hR hal2
  replace hs := Nat.le_trans hs hal2.size
  clear hal2
  unfold Box5 at hP
  go_upto_region 4 with fail
  generalize w2.alloc _ = W2 at *
  generalize w2.heap.size = G2 at *
  go_wp2_with (go_at_call 46; refine (CF.out _).mono ?_; rintro e w' ⟨rfl, hb⟩; replace hB := thenB hB hb; replace hX := resB hX hb; replace hR := resB hR hb; clear hb)
  exact bodyPost_ret (v := .tuple #[.agg #[.int .i64 7, .int .i64 2, .int .i64 0, .int .i64 0, .int .i64 0, .slice none 0 0], .string ⟨#[]⟩, .int .i64 0]) (by simp [results, Tryz.results20, go_sem, hR]) rfl ⟨_, rfl, own_none _ _, set6 hB (Nat.le_succ _)⟩
set_option maxRecDepth 100000 in
set_option maxHeartbeats 4000000 in
theorem ref_other0 (f : ByteArray) (d : FDev) (v : Value) (b n : Int) (w : World) (hv : IsSt w v d.ops) (h : okU f d b n = true) (hsa : d.sa = 0) (he : errA f = 0) (hn : ¬ b = nextU d) : Calls Tryz.prog 20 #[.string f, .agg #[.int .i64 d.sa, .int .i64 d.su, .int .i64 d.nx, .int .i64 d.gt, .int .i64 d.sl, v], .int .i64 b, .int .i64 n] w (RefOwn w (failedD 4) ⟨#[]⟩ 0) := by
  obtain ⟨h0, h1, h2, h3⟩ := okU_parts.1 h
  have hni := next_in h1
  have hN : nextU d = 0 := by unfold nextU; rw [hsa]; rfl
  have HD : Hid (∀ (w' : World), Below w.heap.size w w' → _) := fun w' hb => both_any f d v w' (hv.below hb)
  have HU := hide (fun x k w => DevRef.up16_any x k w)
  have u1 : upB b 65535 = true := upB_iff.2 h3.1
  have u2 : upB n 32 = true := upB_iff.2 h3.2
  have CA := hide (fun w => refActive_any f w)
  have CF := hide (fun w => DevRef.failedRef_any 4 w)
  obtain ⟨hX, hR, hB, hs⟩ := two_boxes w (.int .i64 d.sa) (.int .i64 d.su) (.int .i64 d.nx) (.int .i64 d.gt) (.int .i64 d.sl) v
  have hne : w.heap.size ≠ w.heap.size + 1 := Nat.ne_of_lt (Nat.lt_succ_self _)
  replace hs := Nat.le_of_eq hs
  rw [h0, h1, Bool.true_and] at HD
  rw [hN] at hni
  unfold RefOwn
  rw [he] at CA
  have hk1 : (b != 0) = true := ne_t (by rw [← hN]; exact hn)
  generalize actV f = P at *
  clear he hN hni hn
  clear h h0 h1 h2
  obtain ⟨a, ca, rfl, _, _⟩ := hv
  obtain ⟨sa, su, nx, gt, sl, l⟩ := d
  dsimp only at *
  subst hsa
  go_enter Tryz.func20, Tryz.ntmps20
  go_upto_region 3 with (first | (go_at_call 28; refine (HD.out _ hB).mono ?_; rintro e w' ⟨rfl, hb⟩; replace hB := thenB hB hb; replace hX := resB hX hb; replace hR := resB hR hb; replace hs := Nat.le_trans hs hb.size; clear hb) | (go_at_call 43; refine (HU.out _ _ _).mono ?_; rintro e w' ⟨rfl, rfl⟩))
  clear HD HU
  go_wp2_with fail
  refine (CA.out _).mono ?_
  rintro e w2 ⟨rfl, hb⟩
  replace hB := thenB hB hb
  replace hX := resB hX hb
  replace hR := resB hR hb
  replace hs := Nat.le_trans hs hb.size
  clear hb CA
  have hP := box5M w2 (.int .i64 P.pa) (.int .i64 P.pq) (.int .i64 P.pt) (.int .i64 P.pz) (.int .i64 P.pm) 96
  have hal2 := hal w2 (.cells #[.int .i64 P.pa, .int .i64 P.pq, .int .i64 P.pt, .int .i64 P.pz, .int .i64 P.pm] 96)
  replace hB := thenB hB hal2
  replace hX := resB hX hal2
  replace hR := resB hR hal2
  replace hs := Nat.le_trans hs hal2.size
  clear hal2
  unfold Box5 at hP
  go_upto_region 4 with fail
  generalize w2.alloc _ = W2 at *
  generalize w2.heap.size = G2 at *
  go_wp2_with (go_at_call 46; refine (CF.out _).mono ?_; rintro e w' ⟨rfl, hb⟩; replace hB := thenB hB hb; replace hX := resB hX hb; replace hR := resB hR hb; clear hb)
  exact bodyPost_ret (v := .tuple #[.agg #[.int .i64 7, .int .i64 4, .int .i64 0, .int .i64 0, .int .i64 0, .slice none 0 0], .string ⟨#[]⟩, .int .i64 0]) (by simp [results, Tryz.results20, go_sem, hR]) rfl ⟨_, rfl, own_none _ _, set6 hB (Nat.le_succ _)⟩
set_option maxRecDepth 100000 in
set_option maxHeartbeats 4000000 in
theorem ref_short0 (f : ByteArray) (d : FDev) (v : Value) (b n : Int) (w : World) (hv : IsSt w v d.ops) (h : okU f d b n = true) (hsa : d.sa = 0) (he : errA f = 0) (hn : b = nextU d) (hsh : (dataS f d n).size < 32) : Calls Tryz.prog 20 #[.string f, .agg #[.int .i64 d.sa, .int .i64 d.su, .int .i64 d.nx, .int .i64 d.gt, .int .i64 d.sl, v], .int .i64 b, .int .i64 n] w (RefOwn w (behindD (begunD d) (dataS f d n).size) (dataS f d n) 0) := by
  obtain ⟨h0, h1, h2, h3⟩ := okU_parts.1 h
  have hni := next_in h1
  have hN : nextU d = 0 := by unfold nextU; rw [hsa]; rfl
  have HD : Hid (∀ (w' : World), Below w.heap.size w w' → _) := fun w' hb => both_any f d v w' (hv.below hb)
  have HU := hide (fun x k w => DevRef.up16_any x k w)
  have u1 : upB b 65535 = true := upB_iff.2 h3.1
  have u2 : upB n 32 = true := upB_iff.2 h3.2
  have CA := hide (fun w => refActive_any f w)
  obtain ⟨m, hm⟩ : ∃ m : Nat, n = (m : Int) := ⟨n.toNat, by omega⟩
  obtain ⟨k, hk⟩ : ∃ k : Nat, nextU d = (k : Int) := ⟨(nextU d).toNat, by omega⟩
  have hk16 : k ≤ 16 := by omega
  have CI := hide (fun w => refImage_any f (actV f).pq (actV f).pt (actV f).pz (actV f).pm w)
  have CN := hide (fun w => DevRef.newRef_any w)
  obtain ⟨hX, hR, hB, hs⟩ := two_boxes w (.int .i64 d.sa) (.int .i64 d.su) (.int .i64 d.nx) (.int .i64 d.gt) (.int .i64 d.sl) v
  have hne : w.heap.size ≠ w.heap.size + 1 := Nat.ne_of_lt (Nat.lt_succ_self _)
  replace hs := Nat.le_of_eq hs
  rw [h0, h1, Bool.true_and] at HD
  rw [hN] at hni
  unfold RefOwn
  rw [he] at CA
  rw [act_img he, show errI true = 0 from rfl] at CI
  have hSA : imgS f (actV f).pq (actV f).pt (actV f).pz (actV f).pm = actS f := rfl
  rw [hSA] at CI
  have hS : pieceN (actS f) k m = dataS f d n := by unfold dataS; rw [hk, hm, Int.toNat_natCast, Int.toNat_natCast]
  obtain ⟨p, hp⟩ : ∃ p : Nat, p = fromN (actS f) k := ⟨_, rfl⟩
  obtain ⟨q, hq⟩ : ∃ q : Nat, q = endN (actS f) k m := ⟨_, rfl⟩
  have hp1 : p ≤ (actS f).size := by rw [hp]; exact from_le _ _
  have hq1 : q ≤ (actS f).size := by rw [hq]; exact end_le _ _ _
  have hpq : p ≤ q := by rw [hp, hq]; exact from_end _ _ _
  have hz := size_actS f
  have m1 := fun ts t' w => run_min2 (P := Tryz.prog) ((actS f).size : Int) (0 : Int) (p : Int) (by rw [hp]; unfold fromN; omega) ts t' w
  have m2 := fun ts t' w => run_min2 (P := Tryz.prog) ((actS f).size : Int) ((p : Int) + (m : Int)) (q : Int) (by rw [hq]; unfold endN; rw [← hp]; omega) ts t' w
  have HX : Hid ((actS f).extract p q = dataS f d n) := by show _ = _; rw [← hS]; subst hp hq; rfl
  have hsz : ((actS f).extract p q).size = (dataS f d n).size := by rw [HX.out]
  have hbd : behindD (begunD d) (dataS f d n).size = newD := by unfold behindD; rw [if_pos hsh]
  rw [hbd]
  unfold newD
  have hqs : q - p = (dataS f d n).size := by rw [← hsz, ByteArray.size_extract]; omega
  have hlen : (((actS f).extract p q).size : Int) = ((q - p : Nat) : Int) := by rw [hsz, hqs]
  have hsh2 : (((q - p : Nat) : Int) < 32) := by rw [hqs]; omega
  have hbz : b = 0 := by omega
  obtain rfl : k = 0 := by omega
  generalize dataS f d n = SD at *
  generalize actS f = SA at *
  generalize actV f = P at *
  subst hm hbz
  clear he hN hni hn hk hS hp hq hSA hbd hsh hsz hqs hlen
  clear h h0 h1 h2
  obtain ⟨a, ca, rfl, _, _⟩ := hv
  obtain ⟨sa, su, nx, gt, sl, l⟩ := d
  dsimp only at *
  subst hsa
  go_enter Tryz.func20, Tryz.ntmps20
  go_upto_region 3 with (first | (go_at_call 28; refine (HD.out _ hB).mono ?_; rintro e w' ⟨rfl, hb⟩; replace hB := thenB hB hb; replace hX := resB hX hb; replace hR := resB hR hb; replace hs := Nat.le_trans hs hb.size; clear hb) | (go_at_call 43; refine (HU.out _ _ _).mono ?_; rintro e w' ⟨rfl, rfl⟩))
  clear HD HU
  go_wp2_with fail
  refine (CA.out _).mono ?_
  rintro e w2 ⟨rfl, hb⟩
  replace hB := thenB hB hb
  replace hX := resB hX hb
  replace hR := resB hR hb
  replace hs := Nat.le_trans hs hb.size
  clear hb CA
  have hP := box5M w2 (.int .i64 P.pa) (.int .i64 P.pq) (.int .i64 P.pt) (.int .i64 P.pz) (.int .i64 P.pm) 96
  have hal2 := hal w2 (.cells #[.int .i64 P.pa, .int .i64 P.pq, .int .i64 P.pt, .int .i64 P.pz, .int .i64 P.pm] 96)
  replace hB := thenB hB hal2
  replace hX := resB hX hal2
  replace hR := resB hR hal2
  replace hs := Nat.le_trans hs hal2.size
  clear hal2
  unfold Box5 at hP
  go_upto_region 4 with fail
  generalize w2.alloc _ = W2 at *
  generalize w2.heap.size = G2 at *
  go_upto_region 11 with fail
  go_wp2_with fail
  refine (CI.out _).mono ?_
  rintro e w3 ⟨rfl, hb⟩
  replace hB := thenB hB hb
  replace hX := resB hX hb
  replace hR := resB hR hb
  replace hs := Nat.le_trans hs hb.size
  clear hb CI hP
  go_wp2_with (go_at_call 31; refine (CN.out _).mono ?_; rintro e w' ⟨rfl, hb⟩; replace hB := thenB hB hb; replace hR := resB hR hb; clear hb)
  exact bodyPost_ret (v := .tuple #[.agg #[.int .i64 0, .int .i64 0, .int .i64 0, .int .i64 0, .int .i64 0, .slice none 0 0], .string (SA.extract p q), .int .i64 0]) (by simp [results, Tryz.results20, go_sem, hR]) rfl ⟨_, by rw [HX.out], own_none _ _, set6 hB (Nat.le_succ _)⟩
set_option maxRecDepth 100000 in
set_option maxHeartbeats 4000000 in
theorem ref_long0 (f : ByteArray) (d : FDev) (v : Value) (b n : Int) (w : World) (hv : IsSt w v d.ops) (h : okU f d b n = true) (hsa : d.sa = 0) (he : errA f = 0) (hn : b = nextU d) (hsh : ¬ (dataS f d n).size < 32) : Calls Tryz.prog 20 #[.string f, .agg #[.int .i64 d.sa, .int .i64 d.su, .int .i64 d.nx, .int .i64 d.gt, .int .i64 d.sl, v], .int .i64 b, .int .i64 n] w (RefOwn w (behindD (begunD d) (dataS f d n).size) (dataS f d n) 0) := by
  obtain ⟨h0, h1, h2, h3⟩ := okU_parts.1 h
  have hni := next_in h1
  have hN : nextU d = 0 := by unfold nextU; rw [hsa]; rfl
  have HD : Hid (∀ (w' : World), Below w.heap.size w w' → _) := fun w' hb => both_any f d v w' (hv.below hb)
  have HU := hide (fun x k w => DevRef.up16_any x k w)
  have u1 : upB b 65535 = true := upB_iff.2 h3.1
  have u2 : upB n 32 = true := upB_iff.2 h3.2
  have CA := hide (fun w => refActive_any f w)
  obtain ⟨m, hm⟩ : ∃ m : Nat, n = (m : Int) := ⟨n.toNat, by omega⟩
  obtain ⟨k, hk⟩ : ∃ k : Nat, nextU d = (k : Int) := ⟨(nextU d).toNat, by omega⟩
  have hk16 : k ≤ 16 := by omega
  have CI := hide (fun w => refImage_any f (actV f).pq (actV f).pt (actV f).pz (actV f).pm w)
  have HC : Hid (∀ (w' : World), Below w.heap.size w w' → _) := fun w' hb => copyRef_any d v w' (by have := (dev_parts h1).2.2.2; omega) (hv.below hb)
  obtain ⟨hX, hR, hB, hs⟩ := two_boxes w (.int .i64 d.sa) (.int .i64 d.su) (.int .i64 d.nx) (.int .i64 d.gt) (.int .i64 d.sl) v
  have hne : w.heap.size ≠ w.heap.size + 1 := Nat.ne_of_lt (Nat.lt_succ_self _)
  replace hs := Nat.le_of_eq hs
  rw [h0, h1, Bool.true_and] at HD
  rw [hN] at hni
  unfold RefOwn
  rw [he] at CA
  rw [act_img he, show errI true = 0 from rfl] at CI
  have hSA : imgS f (actV f).pq (actV f).pt (actV f).pz (actV f).pm = actS f := rfl
  rw [hSA] at CI
  have hS : pieceN (actS f) k m = dataS f d n := by unfold dataS; rw [hk, hm, Int.toNat_natCast, Int.toNat_natCast]
  obtain ⟨p, hp⟩ : ∃ p : Nat, p = fromN (actS f) k := ⟨_, rfl⟩
  obtain ⟨q, hq⟩ : ∃ q : Nat, q = endN (actS f) k m := ⟨_, rfl⟩
  have hp1 : p ≤ (actS f).size := by rw [hp]; exact from_le _ _
  have hq1 : q ≤ (actS f).size := by rw [hq]; exact end_le _ _ _
  have hpq : p ≤ q := by rw [hp, hq]; exact from_end _ _ _
  have hz := size_actS f
  have m1 := fun ts t' w => run_min2 (P := Tryz.prog) ((actS f).size : Int) (0 : Int) (p : Int) (by rw [hp]; unfold fromN; omega) ts t' w
  have m2 := fun ts t' w => run_min2 (P := Tryz.prog) ((actS f).size : Int) ((p : Int) + (m : Int)) (q : Int) (by rw [hq]; unfold endN; rw [← hp]; omega) ts t' w
  have HX : Hid ((actS f).extract p q = dataS f d n) := by show _ = _; rw [← hS]; subst hp hq; rfl
  have hsz : ((actS f).extract p q).size = (dataS f d n).size := by rw [HX.out]
  have hbd : behindD (begunD d) (dataS f d n).size = ⟨6, d.su, min (nextU d + 1) 16, d.gt, d.sl, d.ops⟩ := by unfold behindD; rw [if_neg hsh]; rfl
  rw [hbd, hk]
  have hmn := fun ts t w => run_min2 (P := Tryz.prog) 1 16 (min ((k : Int) + 1) 16) (by omega) ts t w
  generalize min ((k : Int) + 1) 16 = K at *
  have hqs : q - p = (dataS f d n).size := by rw [← hsz, ByteArray.size_extract]; omega
  have hlen : (((actS f).extract p q).size : Int) = ((q - p : Nat) : Int) := by rw [hsz, hqs]
  have hsh2 : ¬ (((q - p : Nat) : Int) < 32) := by rw [hqs]; omega
  have hbz : b = 0 := by omega
  obtain rfl : k = 0 := by omega
  generalize dataS f d n = SD at *
  generalize actS f = SA at *
  generalize actV f = P at *
  subst hm hbz
  clear he hN hni hn hk hS hp hq hSA hbd hsh hsz hqs hlen
  clear h h0 h1 h2
  obtain ⟨a, ca, rfl, _, _⟩ := hv
  obtain ⟨sa, su, nx, gt, sl, l⟩ := d
  dsimp only at *
  subst hsa
  go_enter Tryz.func20, Tryz.ntmps20
  go_upto_region 3 with (first | (go_at_call 28; refine (HD.out _ hB).mono ?_; rintro e w' ⟨rfl, hb⟩; replace hB := thenB hB hb; replace hX := resB hX hb; replace hR := resB hR hb; replace hs := Nat.le_trans hs hb.size; clear hb) | (go_at_call 43; refine (HU.out _ _ _).mono ?_; rintro e w' ⟨rfl, rfl⟩))
  clear HD HU
  go_wp2_with fail
  refine (CA.out _).mono ?_
  rintro e w2 ⟨rfl, hb⟩
  replace hB := thenB hB hb
  replace hX := resB hX hb
  replace hR := resB hR hb
  replace hs := Nat.le_trans hs hb.size
  clear hb CA
  have hP := box5M w2 (.int .i64 P.pa) (.int .i64 P.pq) (.int .i64 P.pt) (.int .i64 P.pz) (.int .i64 P.pm) 96
  have hal2 := hal w2 (.cells #[.int .i64 P.pa, .int .i64 P.pq, .int .i64 P.pt, .int .i64 P.pz, .int .i64 P.pm] 96)
  replace hB := thenB hB hal2
  replace hX := resB hX hal2
  replace hR := resB hR hal2
  replace hs := Nat.le_trans hs hal2.size
  clear hal2
  unfold Box5 at hP
  go_upto_region 4 with fail
  generalize w2.alloc _ = W2 at *
  generalize w2.heap.size = G2 at *
  go_upto_region 11 with fail
  go_wp2_with fail
  refine (CI.out _).mono ?_
  rintro e w3 ⟨rfl, hb⟩
  replace hB := thenB hB hb
  replace hX := resB hX hb
  replace hR := resB hR hb
  replace hs := Nat.le_trans hs hb.size
  clear hb CI hP
  go_upto_region 16 with fail
  go_wp2_with fail
  refine (HC.out _ hB).mono ?_
  rintro e w4 ⟨⟨u, rfl, hown⟩, hb⟩
  replace hB := thenB hB hb
  replace hR := resB hR hb
  obtain ⟨a', c', rfl⟩ := owns_form hown
  have hU := ((own_of hown).mono hs).lt
  replace hs := Nat.le_trans hs hb.size
  clear hb hown HC hX
  have hO := resM w4 (.int .i64 0) (.int .i64 su) (.int .i64 nx) (.int .i64 gt) (.int .i64 sl) (.slice a' l.length c') 24
  have hal4 := hal w4 (.cells #[.int .i64 0, .int .i64 su, .int .i64 nx, .int .i64 gt, .int .i64 sl, .slice a' l.length c'] 24)
  replace hR := resB hR hal4
  replace hU := hU.below hal4
  replace hB := thenB hB hal4
  have hlt : w.heap.size + 1 < w4.heap.size := by omega
  have HB := hide hB
  have HR := hide hR
  have HU := hide hU
  clear hB hR hU hal4
  go_upto_region 17 with fail
  generalize w4.alloc _ = W4 at *
  generalize w4.heap.size = G4 at *
  go_upto_region 19 with fail
  replace hO := res2 (res0 hO (.int .i64 6)) (.int .i64 K)
  have hR := resO (resO HR.out (show G4 ≠ w.heap.size + 1 by omega) 0 (.int .i64 6)) (show G4 ≠ w.heap.size + 1 by omega) 2 (.int .i64 K)
  have hB := (HB.out.setCell (p := ⟨G4, 0, none⟩) (show w.heap.size ≤ G4 by omega) (.int .i64 6)).setCell (p := ⟨G4, 2, none⟩) (show w.heap.size ≤ G4 by omega) (.int .i64 K)
  have hU := in_other (in_other HU.out (Nat.le_refl G4) 0 (.int .i64 6)) (Nat.le_refl G4) 2 (.int .i64 K)
  clear HB HR HU
  generalize (World.setCell _ _ _).setCell _ _ = W5 at *
  go_wp2_with fail
  exact bodyPost_ret (v := .tuple #[.agg #[.int .i64 6, .int .i64 su, .int .i64 K, .int .i64 gt, .int .i64 sl, .slice a' l.length c'], .string (SA.extract p q), .int .i64 0]) (by simp [results, Tryz.results20, go_sem, hR]) rfl ⟨_, by rw [HX.out], (hU.st.set6 (show w.heap.size + 1 < w.heap.size + 1 + 1 by omega) _ _ _ _ _ _).mono (by omega), set6 hB (Nat.le_succ _)⟩
set_option maxRecDepth 100000 in
set_option maxHeartbeats 4000000 in
theorem ref_file6 (f : ByteArray) (d : FDev) (v : Value) (b n : Int) (w : World) (hv : IsSt w v d.ops) (h : okU f d b n = true) (hsa : d.sa = 6) (he : ¬ errA f = 0) : Calls Tryz.prog 20 #[.string f, .agg #[.int .i64 d.sa, .int .i64 d.su, .int .i64 d.nx, .int .i64 d.gt, .int .i64 d.sl, v], .int .i64 b, .int .i64 n] w (RefOwn w (failedD 2) ⟨#[]⟩ 0) := by
  obtain ⟨h0, h1, h2, h3⟩ := okU_parts.1 h
  have hni := next_in h1
  have hN : nextU d = d.nx := by unfold nextU; rw [hsa]; rfl
  have HD : Hid (∀ (w' : World), Below w.heap.size w w' → _) := fun w' hb => both_any f d v w' (hv.below hb)
  have HU := hide (fun x k w => DevRef.up16_any x k w)
  have u1 : upB b 65535 = true := upB_iff.2 h3.1
  have u2 : upB n 32 = true := upB_iff.2 h3.2
  have CA := hide (fun w => refActive_any f w)
  have CF := hide (fun w => DevRef.failedRef_any 2 w)
  obtain ⟨hX, hR, hB, hs⟩ := two_boxes w (.int .i64 d.sa) (.int .i64 d.su) (.int .i64 d.nx) (.int .i64 d.gt) (.int .i64 d.sl) v
  have hne : w.heap.size ≠ w.heap.size + 1 := Nat.ne_of_lt (Nat.lt_succ_self _)
  replace hs := Nat.le_of_eq hs
  rw [h0, h1, Bool.true_and] at HD
  rw [hN] at hni
  unfold RefOwn
  have he1 := ne_t he
  generalize errA f = E at *
  generalize actV f = P at *
  clear he hN hni
  clear h h0 h1 h2
  obtain ⟨a, ca, rfl, _, _⟩ := hv
  obtain ⟨sa, su, nx, gt, sl, l⟩ := d
  dsimp only at *
  subst hsa
  go_enter Tryz.func20, Tryz.ntmps20
  go_upto_region 3 with (first | (go_at_call 28; refine (HD.out _ hB).mono ?_; rintro e w' ⟨rfl, hb⟩; replace hB := thenB hB hb; replace hX := resB hX hb; replace hR := resB hR hb; replace hs := Nat.le_trans hs hb.size; clear hb) | (go_at_call 43; refine (HU.out _ _ _).mono ?_; rintro e w' ⟨rfl, rfl⟩))
  clear HD HU
  go_wp2_with fail
  refine (CA.out _).mono ?_
  rintro e w2 ⟨rfl, hb⟩
  replace hB := thenB hB hb
  replace hX := resB hX hb
  replace hR := resB hR hb
  replace hs := Nat.le_trans hs hb.size
  clear hb CA
  have hP := box5M w2 (.int .i64 P.pa) (.int .i64 P.pq) (.int .i64 P.pt) (.int .i64 P.pz) (.int .i64 P.pm) 96
  have hal2 := hal w2 (.cells #[.int .i64 P.pa, .int .i64 P.pq, .int .i64 P.pt, .int .i64 P.pz, .int .i64 P.pm] 96)
  replace hB := thenB hB hal2
  replace hX := resB hX hal2
  replace hR := resB hR hal2
  replace hs := Nat.le_trans hs hal2.size
  clear hal2
  unfold Box5 at hP
  go_upto_region 4 with fail
  generalize w2.alloc _ = W2 at *
  generalize w2.heap.size = G2 at *
  go_wp2_with (go_at_call 46; refine (CF.out _).mono ?_; rintro e w' ⟨rfl, hb⟩; replace hB := thenB hB hb; replace hX := resB hX hb; replace hR := resB hR hb; clear hb)
  exact bodyPost_ret (v := .tuple #[.agg #[.int .i64 7, .int .i64 2, .int .i64 0, .int .i64 0, .int .i64 0, .slice none 0 0], .string ⟨#[]⟩, .int .i64 0]) (by simp [results, Tryz.results20, go_sem, hR]) rfl ⟨_, rfl, own_none _ _, set6 hB (Nat.le_succ _)⟩
set_option maxRecDepth 100000 in
set_option maxHeartbeats 4000000 in
theorem ref_other6 (f : ByteArray) (d : FDev) (v : Value) (b n : Int) (w : World) (hv : IsSt w v d.ops) (h : okU f d b n = true) (hsa : d.sa = 6) (he : errA f = 0) (hn : ¬ b = nextU d) : Calls Tryz.prog 20 #[.string f, .agg #[.int .i64 d.sa, .int .i64 d.su, .int .i64 d.nx, .int .i64 d.gt, .int .i64 d.sl, v], .int .i64 b, .int .i64 n] w (RefOwn w (failedD 4) ⟨#[]⟩ 0) := by
  obtain ⟨h0, h1, h2, h3⟩ := okU_parts.1 h
  have hni := next_in h1
  have hN : nextU d = d.nx := by unfold nextU; rw [hsa]; rfl
  have HD : Hid (∀ (w' : World), Below w.heap.size w w' → _) := fun w' hb => both_any f d v w' (hv.below hb)
  have HU := hide (fun x k w => DevRef.up16_any x k w)
  have u1 : upB b 65535 = true := upB_iff.2 h3.1
  have u2 : upB n 32 = true := upB_iff.2 h3.2
  have CA := hide (fun w => refActive_any f w)
  have CF := hide (fun w => DevRef.failedRef_any 4 w)
  obtain ⟨hX, hR, hB, hs⟩ := two_boxes w (.int .i64 d.sa) (.int .i64 d.su) (.int .i64 d.nx) (.int .i64 d.gt) (.int .i64 d.sl) v
  have hne : w.heap.size ≠ w.heap.size + 1 := Nat.ne_of_lt (Nat.lt_succ_self _)
  replace hs := Nat.le_of_eq hs
  rw [h0, h1, Bool.true_and] at HD
  rw [hN] at hni
  unfold RefOwn
  rw [he] at CA
  have hk1 : (b != d.nx) = true := ne_t (by rw [← hN]; exact hn)
  generalize actV f = P at *
  clear he hN hni hn
  clear h h0 h1 h2
  obtain ⟨a, ca, rfl, _, _⟩ := hv
  obtain ⟨sa, su, nx, gt, sl, l⟩ := d
  dsimp only at *
  subst hsa
  go_enter Tryz.func20, Tryz.ntmps20
  go_upto_region 3 with (first | (go_at_call 28; refine (HD.out _ hB).mono ?_; rintro e w' ⟨rfl, hb⟩; replace hB := thenB hB hb; replace hX := resB hX hb; replace hR := resB hR hb; replace hs := Nat.le_trans hs hb.size; clear hb) | (go_at_call 43; refine (HU.out _ _ _).mono ?_; rintro e w' ⟨rfl, rfl⟩))
  clear HD HU
  go_wp2_with fail
  refine (CA.out _).mono ?_
  rintro e w2 ⟨rfl, hb⟩
  replace hB := thenB hB hb
  replace hX := resB hX hb
  replace hR := resB hR hb
  replace hs := Nat.le_trans hs hb.size
  clear hb CA
  have hP := box5M w2 (.int .i64 P.pa) (.int .i64 P.pq) (.int .i64 P.pt) (.int .i64 P.pz) (.int .i64 P.pm) 96
  have hal2 := hal w2 (.cells #[.int .i64 P.pa, .int .i64 P.pq, .int .i64 P.pt, .int .i64 P.pz, .int .i64 P.pm] 96)
  replace hB := thenB hB hal2
  replace hX := resB hX hal2
  replace hR := resB hR hal2
  replace hs := Nat.le_trans hs hal2.size
  clear hal2
  unfold Box5 at hP
  go_upto_region 4 with fail
  generalize w2.alloc _ = W2 at *
  generalize w2.heap.size = G2 at *
  go_wp2_with (go_at_call 46; refine (CF.out _).mono ?_; rintro e w' ⟨rfl, hb⟩; replace hB := thenB hB hb; replace hX := resB hX hb; replace hR := resB hR hb; clear hb)
  exact bodyPost_ret (v := .tuple #[.agg #[.int .i64 7, .int .i64 4, .int .i64 0, .int .i64 0, .int .i64 0, .slice none 0 0], .string ⟨#[]⟩, .int .i64 0]) (by simp [results, Tryz.results20, go_sem, hR]) rfl ⟨_, rfl, own_none _ _, set6 hB (Nat.le_succ _)⟩
set_option maxRecDepth 100000 in
set_option maxHeartbeats 4000000 in
theorem ref_short6 (f : ByteArray) (d : FDev) (v : Value) (b n : Int) (w : World) (hv : IsSt w v d.ops) (h : okU f d b n = true) (hsa : d.sa = 6) (he : errA f = 0) (hn : b = nextU d) (hsh : (dataS f d n).size < 32) : Calls Tryz.prog 20 #[.string f, .agg #[.int .i64 d.sa, .int .i64 d.su, .int .i64 d.nx, .int .i64 d.gt, .int .i64 d.sl, v], .int .i64 b, .int .i64 n] w (RefOwn w (behindD (begunD d) (dataS f d n).size) (dataS f d n) 0) := by
  obtain ⟨h0, h1, h2, h3⟩ := okU_parts.1 h
  have hni := next_in h1
  have hN : nextU d = d.nx := by unfold nextU; rw [hsa]; rfl
  have HD : Hid (∀ (w' : World), Below w.heap.size w w' → _) := fun w' hb => both_any f d v w' (hv.below hb)
  have HU := hide (fun x k w => DevRef.up16_any x k w)
  have u1 : upB b 65535 = true := upB_iff.2 h3.1
  have u2 : upB n 32 = true := upB_iff.2 h3.2
  have CA := hide (fun w => refActive_any f w)
  obtain ⟨m, hm⟩ : ∃ m : Nat, n = (m : Int) := ⟨n.toNat, by omega⟩
  obtain ⟨k, hk⟩ : ∃ k : Nat, nextU d = (k : Int) := ⟨(nextU d).toNat, by omega⟩
  have hk16 : k ≤ 16 := by omega
  have CI := hide (fun w => refImage_any f (actV f).pq (actV f).pt (actV f).pz (actV f).pm w)
  have CN := hide (fun w => DevRef.newRef_any w)
  obtain ⟨hX, hR, hB, hs⟩ := two_boxes w (.int .i64 d.sa) (.int .i64 d.su) (.int .i64 d.nx) (.int .i64 d.gt) (.int .i64 d.sl) v
  have hne : w.heap.size ≠ w.heap.size + 1 := Nat.ne_of_lt (Nat.lt_succ_self _)
  replace hs := Nat.le_of_eq hs
  rw [h0, h1, Bool.true_and] at HD
  rw [hN] at hni
  unfold RefOwn
  rw [he] at CA
  rw [act_img he, show errI true = 0 from rfl] at CI
  have hSA : imgS f (actV f).pq (actV f).pt (actV f).pz (actV f).pm = actS f := rfl
  rw [hSA] at CI
  have hS : pieceN (actS f) k m = dataS f d n := by unfold dataS; rw [hk, hm, Int.toNat_natCast, Int.toNat_natCast]
  obtain ⟨p, hp⟩ : ∃ p : Nat, p = fromN (actS f) k := ⟨_, rfl⟩
  obtain ⟨q, hq⟩ : ∃ q : Nat, q = endN (actS f) k m := ⟨_, rfl⟩
  have hp1 : p ≤ (actS f).size := by rw [hp]; exact from_le _ _
  have hq1 : q ≤ (actS f).size := by rw [hq]; exact end_le _ _ _
  have hpq : p ≤ q := by rw [hp, hq]; exact from_end _ _ _
  have hz := size_actS f
  have m1 := fun ts t' w => run_min2 (P := Tryz.prog) ((actS f).size : Int) (32 * (k : Int)) (p : Int) (by rw [hp]; unfold fromN; omega) ts t' w
  have m2 := fun ts t' w => run_min2 (P := Tryz.prog) ((actS f).size : Int) ((p : Int) + (m : Int)) (q : Int) (by rw [hq]; unfold endN; rw [← hp]; omega) ts t' w
  have HX : Hid ((actS f).extract p q = dataS f d n) := by show _ = _; rw [← hS]; subst hp hq; rfl
  have hsz : ((actS f).extract p q).size = (dataS f d n).size := by rw [HX.out]
  have hkn : d.nx = (k : Int) := by omega
  rw [hkn] at hX
  have hbd : behindD (begunD d) (dataS f d n).size = newD := by unfold behindD; rw [if_pos hsh]
  rw [hbd]
  unfold newD
  have hqs : q - p = (dataS f d n).size := by rw [← hsz, ByteArray.size_extract]; omega
  have hlen : (((actS f).extract p q).size : Int) = ((q - p : Nat) : Int) := by rw [hsz, hqs]
  have hsh2 : (((q - p : Nat) : Int) < 32) := by rw [hqs]; omega
  have hbz : b = (k : Int) := by omega
  generalize dataS f d n = SD at *
  generalize actS f = SA at *
  generalize actV f = P at *
  subst hm hbz
  clear he hN hni hn hk hS hp hq hSA hbd hsh hsz hqs hlen
  clear h h0 h1 h2
  obtain ⟨a, ca, rfl, _, _⟩ := hv
  obtain ⟨sa, su, nx, gt, sl, l⟩ := d
  dsimp only at *
  subst hsa
  subst hkn
  go_enter Tryz.func20, Tryz.ntmps20
  go_upto_region 3 with (first | (go_at_call 28; refine (HD.out _ hB).mono ?_; rintro e w' ⟨rfl, hb⟩; replace hB := thenB hB hb; replace hX := resB hX hb; replace hR := resB hR hb; replace hs := Nat.le_trans hs hb.size; clear hb) | (go_at_call 43; refine (HU.out _ _ _).mono ?_; rintro e w' ⟨rfl, rfl⟩))
  clear HD HU
  go_wp2_with fail
  refine (CA.out _).mono ?_
  rintro e w2 ⟨rfl, hb⟩
  replace hB := thenB hB hb
  replace hX := resB hX hb
  replace hR := resB hR hb
  replace hs := Nat.le_trans hs hb.size
  clear hb CA
  have hP := box5M w2 (.int .i64 P.pa) (.int .i64 P.pq) (.int .i64 P.pt) (.int .i64 P.pz) (.int .i64 P.pm) 96
  have hal2 := hal w2 (.cells #[.int .i64 P.pa, .int .i64 P.pq, .int .i64 P.pt, .int .i64 P.pz, .int .i64 P.pm] 96)
  replace hB := thenB hB hal2
  replace hX := resB hX hal2
  replace hR := resB hR hal2
  replace hs := Nat.le_trans hs hal2.size
  clear hal2
  unfold Box5 at hP
  go_upto_region 4 with fail
  generalize w2.alloc _ = W2 at *
  generalize w2.heap.size = G2 at *
  go_upto_region 11 with fail
  go_wp2_with fail
  refine (CI.out _).mono ?_
  rintro e w3 ⟨rfl, hb⟩
  replace hB := thenB hB hb
  replace hX := resB hX hb
  replace hR := resB hR hb
  replace hs := Nat.le_trans hs hb.size
  clear hb CI hP
  go_wp2_with (go_at_call 31; refine (CN.out _).mono ?_; rintro e w' ⟨rfl, hb⟩; replace hB := thenB hB hb; replace hR := resB hR hb; clear hb)
  exact bodyPost_ret (v := .tuple #[.agg #[.int .i64 0, .int .i64 0, .int .i64 0, .int .i64 0, .int .i64 0, .slice none 0 0], .string (SA.extract p q), .int .i64 0]) (by simp [results, Tryz.results20, go_sem, hR]) rfl ⟨_, by rw [HX.out], own_none _ _, set6 hB (Nat.le_succ _)⟩
set_option maxRecDepth 100000 in
set_option maxHeartbeats 4000000 in
theorem ref_long6 (f : ByteArray) (d : FDev) (v : Value) (b n : Int) (w : World) (hv : IsSt w v d.ops) (h : okU f d b n = true) (hsa : d.sa = 6) (he : errA f = 0) (hn : b = nextU d) (hsh : ¬ (dataS f d n).size < 32) : Calls Tryz.prog 20 #[.string f, .agg #[.int .i64 d.sa, .int .i64 d.su, .int .i64 d.nx, .int .i64 d.gt, .int .i64 d.sl, v], .int .i64 b, .int .i64 n] w (RefOwn w (behindD (begunD d) (dataS f d n).size) (dataS f d n) 0) := by
  obtain ⟨h0, h1, h2, h3⟩ := okU_parts.1 h
  have hni := next_in h1
  have hN : nextU d = d.nx := by unfold nextU; rw [hsa]; rfl
  have HD : Hid (∀ (w' : World), Below w.heap.size w w' → _) := fun w' hb => both_any f d v w' (hv.below hb)
  have HU := hide (fun x k w => DevRef.up16_any x k w)
  have u1 : upB b 65535 = true := upB_iff.2 h3.1
  have u2 : upB n 32 = true := upB_iff.2 h3.2
  have CA := hide (fun w => refActive_any f w)
  obtain ⟨m, hm⟩ : ∃ m : Nat, n = (m : Int) := ⟨n.toNat, by omega⟩
  obtain ⟨k, hk⟩ : ∃ k : Nat, nextU d = (k : Int) := ⟨(nextU d).toNat, by omega⟩
  have hk16 : k ≤ 16 := by omega
  have CI := hide (fun w => refImage_any f (actV f).pq (actV f).pt (actV f).pz (actV f).pm w)
  have HC : Hid (∀ (w' : World), Below w.heap.size w w' → _) := fun w' hb => copyRef_any d v w' (by have := (dev_parts h1).2.2.2; omega) (hv.below hb)
  obtain ⟨hX, hR, hB, hs⟩ := two_boxes w (.int .i64 d.sa) (.int .i64 d.su) (.int .i64 d.nx) (.int .i64 d.gt) (.int .i64 d.sl) v
  have hne : w.heap.size ≠ w.heap.size + 1 := Nat.ne_of_lt (Nat.lt_succ_self _)
  replace hs := Nat.le_of_eq hs
  rw [h0, h1, Bool.true_and] at HD
  rw [hN] at hni
  unfold RefOwn
  rw [he] at CA
  rw [act_img he, show errI true = 0 from rfl] at CI
  have hSA : imgS f (actV f).pq (actV f).pt (actV f).pz (actV f).pm = actS f := rfl
  rw [hSA] at CI
  have hS : pieceN (actS f) k m = dataS f d n := by unfold dataS; rw [hk, hm, Int.toNat_natCast, Int.toNat_natCast]
  obtain ⟨p, hp⟩ : ∃ p : Nat, p = fromN (actS f) k := ⟨_, rfl⟩
  obtain ⟨q, hq⟩ : ∃ q : Nat, q = endN (actS f) k m := ⟨_, rfl⟩
  have hp1 : p ≤ (actS f).size := by rw [hp]; exact from_le _ _
  have hq1 : q ≤ (actS f).size := by rw [hq]; exact end_le _ _ _
  have hpq : p ≤ q := by rw [hp, hq]; exact from_end _ _ _
  have hz := size_actS f
  have m1 := fun ts t' w => run_min2 (P := Tryz.prog) ((actS f).size : Int) (32 * (k : Int)) (p : Int) (by rw [hp]; unfold fromN; omega) ts t' w
  have m2 := fun ts t' w => run_min2 (P := Tryz.prog) ((actS f).size : Int) ((p : Int) + (m : Int)) (q : Int) (by rw [hq]; unfold endN; rw [← hp]; omega) ts t' w
  have HX : Hid ((actS f).extract p q = dataS f d n) := by show _ = _; rw [← hS]; subst hp hq; rfl
  have hsz : ((actS f).extract p q).size = (dataS f d n).size := by rw [HX.out]
  have hkn : d.nx = (k : Int) := by omega
  rw [hkn] at hX
  have hbd : behindD (begunD d) (dataS f d n).size = ⟨6, d.su, min (nextU d + 1) 16, d.gt, d.sl, d.ops⟩ := by unfold behindD; rw [if_neg hsh]; rfl
  rw [hbd, hk]
  have hmn := fun ts t w => run_min2 (P := Tryz.prog) ((k : Int) + 1) 16 (min ((k : Int) + 1) 16) (by omega) ts t w
  generalize min ((k : Int) + 1) 16 = K at *
  have hqs : q - p = (dataS f d n).size := by rw [← hsz, ByteArray.size_extract]; omega
  have hlen : (((actS f).extract p q).size : Int) = ((q - p : Nat) : Int) := by rw [hsz, hqs]
  have hsh2 : ¬ (((q - p : Nat) : Int) < 32) := by rw [hqs]; omega
  have hbz : b = (k : Int) := by omega
  generalize dataS f d n = SD at *
  generalize actS f = SA at *
  generalize actV f = P at *
  subst hm hbz
  clear he hN hni hn hk hS hp hq hSA hbd hsh hsz hqs hlen
  clear h h0 h1 h2
  obtain ⟨a, ca, rfl, _, _⟩ := hv
  obtain ⟨sa, su, nx, gt, sl, l⟩ := d
  dsimp only at *
  subst hsa
  subst hkn
  go_enter Tryz.func20, Tryz.ntmps20
  go_upto_region 3 with (first | (go_at_call 28; refine (HD.out _ hB).mono ?_; rintro e w' ⟨rfl, hb⟩; replace hB := thenB hB hb; replace hX := resB hX hb; replace hR := resB hR hb; replace hs := Nat.le_trans hs hb.size; clear hb) | (go_at_call 43; refine (HU.out _ _ _).mono ?_; rintro e w' ⟨rfl, rfl⟩))
  clear HD HU
  go_wp2_with fail
  refine (CA.out _).mono ?_
  rintro e w2 ⟨rfl, hb⟩
  replace hB := thenB hB hb
  replace hX := resB hX hb
  replace hR := resB hR hb
  replace hs := Nat.le_trans hs hb.size
  clear hb CA
  have hP := box5M w2 (.int .i64 P.pa) (.int .i64 P.pq) (.int .i64 P.pt) (.int .i64 P.pz) (.int .i64 P.pm) 96
  have hal2 := hal w2 (.cells #[.int .i64 P.pa, .int .i64 P.pq, .int .i64 P.pt, .int .i64 P.pz, .int .i64 P.pm] 96)
  replace hB := thenB hB hal2
  replace hX := resB hX hal2
  replace hR := resB hR hal2
  replace hs := Nat.le_trans hs hal2.size
  clear hal2
  unfold Box5 at hP
  go_upto_region 4 with fail
  generalize w2.alloc _ = W2 at *
  generalize w2.heap.size = G2 at *
  go_upto_region 11 with fail
  go_wp2_with fail
  refine (CI.out _).mono ?_
  rintro e w3 ⟨rfl, hb⟩
  replace hB := thenB hB hb
  replace hX := resB hX hb
  replace hR := resB hR hb
  replace hs := Nat.le_trans hs hb.size
  clear hb CI hP
  go_upto_region 16 with fail
  go_wp2_with fail
  refine (HC.out _ hB).mono ?_
  rintro e w4 ⟨⟨u, rfl, hown⟩, hb⟩
  replace hB := thenB hB hb
  replace hR := resB hR hb
  obtain ⟨a', c', rfl⟩ := owns_form hown
  have hU := ((own_of hown).mono hs).lt
  replace hs := Nat.le_trans hs hb.size
  clear hb hown HC hX
  have hO := resM w4 (.int .i64 6) (.int .i64 su) (.int .i64 (k : Int)) (.int .i64 gt) (.int .i64 sl) (.slice a' l.length c') 24
  have hal4 := hal w4 (.cells #[.int .i64 6, .int .i64 su, .int .i64 (k : Int), .int .i64 gt, .int .i64 sl, .slice a' l.length c'] 24)
  replace hR := resB hR hal4
  replace hU := hU.below hal4
  replace hB := thenB hB hal4
  have hlt : w.heap.size + 1 < w4.heap.size := by omega
  have HB := hide hB
  have HR := hide hR
  have HU := hide hU
  clear hB hR hU hal4
  go_upto_region 17 with fail
  generalize w4.alloc _ = W4 at *
  generalize w4.heap.size = G4 at *
  go_upto_region 19 with fail
  replace hO := res2 (res0 hO (.int .i64 6)) (.int .i64 K)
  have hR := resO (resO HR.out (show G4 ≠ w.heap.size + 1 by omega) 0 (.int .i64 6)) (show G4 ≠ w.heap.size + 1 by omega) 2 (.int .i64 K)
  have hB := (HB.out.setCell (p := ⟨G4, 0, none⟩) (show w.heap.size ≤ G4 by omega) (.int .i64 6)).setCell (p := ⟨G4, 2, none⟩) (show w.heap.size ≤ G4 by omega) (.int .i64 K)
  have hU := in_other (in_other HU.out (Nat.le_refl G4) 0 (.int .i64 6)) (Nat.le_refl G4) 2 (.int .i64 K)
  clear HB HR HU
  generalize (World.setCell _ _ _).setCell _ _ = W5 at *
  go_wp2_with fail
  exact bodyPost_ret (v := .tuple #[.agg #[.int .i64 6, .int .i64 su, .int .i64 K, .int .i64 gt, .int .i64 sl, .slice a' l.length c'], .string (SA.extract p q), .int .i64 0]) (by simp [results, Tryz.results20, go_sem, hR]) rfl ⟨_, by rw [HX.out], (hU.st.set6 (show w.heap.size + 1 < w.heap.size + 1 + 1 by omega) _ _ _ _ _ _).mono (by omega), set6 hB (Nat.le_succ _)⟩
theorem refUpload_own (f : ByteArray) (d : FDev) (v : Value) (b n : Int) (w : World) (hv : IsSt w v d.ops) : Calls Tryz.prog 20 #[.string f, .agg #[.int .i64 d.sa, .int .i64 d.su, .int .i64 d.nx, .int .i64 d.gt, .int .i64 d.sl, v], .int .i64 b, .int .i64 n] w (RefOwn w (giveD f d b n) (giveS f d b n) (errV (okU f d b n))) := by
  cases h : okU f d b n with
  | false => rw [(give_no h).1, (give_no h).2]; exact ref_no f d v b n w hv h
  | true =>
    rw [(give_ok h).1, (give_ok h).2]
    by_cases he : errA f = 0
    · by_cases hn : b = nextU d
      · rw [(told_is n he hn).1, (told_is n he hn).2]
        by_cases hsh : (dataS f d n).size < 32
        · rcases (okU_parts.1 h).2.2.1 with hsa | hsa
          · exact ref_short0 f d v b n w hv h hsa he hn hsh
          · exact ref_short6 f d v b n w hv h hsa he hn hsh
        · rcases (okU_parts.1 h).2.2.1 with hsa | hsa
          · exact ref_long0 f d v b n w hv h hsa he hn hsh
          · exact ref_long6 f d v b n w hv h hsa he hn hsh
      · rw [(told_other n he hn).1, (told_other n he hn).2]
        rcases (okU_parts.1 h).2.2.1 with hsa | hsa
        · exact ref_other0 f d v b n w hv h hsa he hn
        · exact ref_other6 f d v b n w hv h hsa he hn
    · rw [(told_none d b n he).1, (told_none d b n he).2]
      rcases (okU_parts.1 h).2.2.1 with hsa | hsa
      · exact ref_file0 f d v b n w hv h hsa he
      · exact ref_file6 f d v b n w hv h hsa he
theorem refUpload_any (f : ByteArray) (d : FDev) (v : Value) (b n : Int) (w : World) (hv : IsSt w v d.ops) : Calls Tryz.prog 20 #[.string f, .agg #[.int .i64 d.sa, .int .i64 d.su, .int .i64 d.nx, .int .i64 d.gt, .int .i64 d.sl, v], .int .i64 b, .int .i64 n] w (RefGiven w (giveD f d b n) (giveS f d b n) (errV (okU f d b n))) := (refUpload_own f d v b n w hv).mono fun _ _ ⟨u, h, hO, hb⟩ => ⟨u, h, hO.is, hb⟩
end Go.Proofs.YtmlfkbkpkgaefaaGreatDoor.UplRef
