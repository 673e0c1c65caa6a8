/- The contracts of 'sent' and 'awake' of the laws over package download: a device that took a block; what is known of a few blocks: true. -/
import Derived.Test.YthpoefaipmcceaaBagDnl
import Derived.Test.YthpoefaipmcceaaDnlDoc
import Derived.Test.YthpoefaipmcceaaBagDev
import Derived.Deep.RegionHeld3
namespace Go.Proofs.Ythpoefaipmcceaa.DnlAwake
open Go.Proofs.Ythpoefaipmcceaa Go.RowKit Go.Proofs.Ythpoefaipmcceaa.Bytes Go.Proofs.Ythpoefaipmcceaa.Nor Go.Proofs.Ythpoefaipmcceaa.Ops Go.Proofs.Ythpoefaipmcceaa.OpsRow Go.Proofs.Ythpoefaipmcceaa.Act Go.Proofs.Ythpoefaipmcceaa.Cho Go.Proofs.Ythpoefaipmcceaa.Sta Go.Proofs.Ythpoefaipmcceaa.Dev Go.Proofs.Ythpoefaipmcceaa.DevRow Go.Proofs.Ythpoefaipmcceaa.DevSet Go.Proofs.Ythpoefaipmcceaa.Dnl Go.Proofs.Ythpoefaipmcceaa.DnlMore Go.Proofs.Ythpoefaipmcceaa.DnlCopy Go.Proofs.Ythpoefaipmcceaa.DnlWalk
open Go.Proofs.Ythpoefaipmcceaa.DevWalk (build_d0)
open Go.Proofs.Ythpoefaipmcceaa.DevAwake (hal)
/-- What Take gives, with its steps' number told: it is taken. -/
theorem took {f : ByteArray} {d : FDev} {b : Int} {t : ByteArray} {D : FDev} {n : Nat} (ho : okB f d b t = true) (h : takeD f d b t = D) (hn : D.ops.length = n) (v : Value) (w : World) (hv : IsSt w v d.ops) : Calls Try.prog 9 #[.string f, .agg #[.int .i64 d.sa, .int .i64 d.su, .int .i64 d.nx, .int .i64 d.gt, .int .i64 d.sl, v], .int .i64 b, .string t] w fun r w' => ∃ a c, r = .returned (.tuple #[.agg #[.int .i64 D.sa, .int .i64 D.su, .int .i64 D.nx, .int .i64 D.gt, .int .i64 D.sl, .slice a n c], .int .i64 0]) ∧ IsSt w' (.slice a n c) D.ops ∧ Below w.heap.size w w' := by
  have g := DnlTake.take_any f d v b t w hv
  rw [ho, h, show errL true = 0 from rfl] at g
  refine g.mono ?_
  rintro e w' ⟨u, rfl, hown, hb⟩
  rw [hn] at hown
  obtain ⟨a, c, rfl⟩ := owns_form hown
  exact ⟨a, c, rfl, ownsS_is hown, hb⟩
theorem refused {f : ByteArray} {d : FDev} {b : Int} {t : ByteArray} (ho : okB f d b t = false) (v : Value) (w : World) (hv : IsSt w v d.ops) : Calls Try.prog 9 #[.string f, .agg #[.int .i64 d.sa, .int .i64 d.su, .int .i64 d.nx, .int .i64 d.gt, .int .i64 d.sl, v], .int .i64 b, .string t] w fun r w' => ∃ a c, r = .returned (.tuple #[.agg #[.int .i64 0, .int .i64 0, .int .i64 0, .int .i64 0, .int .i64 0, .slice a 0 c], .int .i64 1700]) ∧ IsSt w' (.slice a 0 c) [] ∧ Below w.heap.size w w' := by
  have g := DnlTake.take_any f d v b t w hv
  rw [ho, take_no ho, show errL false = 1700 from rfl] at g
  refine g.mono ?_
  rintro e w' ⟨u, rfl, hown, hb⟩
  obtain ⟨a, c, rfl⟩ := owns_form hown
  exact ⟨a, c, rfl, ownsS_is hown, hb⟩
def txt32 : ByteArray := ⟨#[48, 49, 50, 51, 52, 53, 54, 55, 56, 57, 97, 98, 99, 100, 101, 102, 48, 49, 50, 51, 52, 53, 54, 55, 56, 57, 97, 98, 99, 100, 101, 102]⟩
def sentL : List FOp := erL 0 ++ wordsL (baseI 0) txt32
theorem sent_len : sentL.length = 11 := by unfold sentL; rw [length_start 0 txt32 (by omega) (by omega) (by decide)]; rfl
theorem sent_is : okB blankS newD 0 txt32 = true ∧ takeD blankS newD 0 txt32 = ⟨1, 0, 1, 32, 0, sentL⟩ := by
  obtain ⟨h1, h2⟩ := start_is (t := txt32) may_blank (by decide) (by decide)
  rw [oth_blank] at h2
  exact ⟨h1, h2⟩
theorem down_sent (w : World) : Calls Try.prog 10 #[.string blankS, .agg #[.int .i64 0, .int .i64 0, .int .i64 0, .int .i64 0, .int .i64 0, .slice none 0 0], .int .i64 0, .string txt32] w fun r w' => ∃ a c, r = .returned (.tuple #[.agg #[.int .i64 1, .int .i64 0, .int .i64 1, .int .i64 32, .int .i64 0, .slice a 11 c], .int .i64 0]) ∧ w'.ownsRow w.heap.size 44 3 (.slice a 11 c) 11 (flat sentL) ∧ Below w.heap.size w w' := by
  have g := DnlDoc.refTake_any blankS newD (.slice none 0 0) 0 txt32 w (isSt_nil w)
  rw [sent_is.1, sent_is.2, show errL true = 0 from rfl] at g
  refine g.mono ?_
  rintro e w' ⟨u, rfl, hown, hb⟩
  dsimp only at hown
  rw [sent_len] at hown
  obtain ⟨a, c, rfl⟩ := owns_form hown
  exact ⟨a, c, rfl, hown, hb⟩
set_option maxRecDepth 100000 in
set_option maxHeartbeats 1000000 in
theorem sent_any (w : World) : Calls Try.prog 17 #[] w fun r w' => ∃ a c, r = .returned (.agg #[.int .i64 1, .int .i64 0, .int .i64 1, .int .i64 32, .int .i64 0, .slice a 11 c]) ∧ IsSt w' (.slice a 11 c) sentL ∧ Below w.heap.size w w' := by
  have HD := hide down_sent
  have hR := resM w (.int .i64 0) (.int .i64 0) (.int .i64 0) (.int .i64 0) (.int .i64 0) (.slice none 0 0) 24
  have hB := (Below.refl w.heap.size w).alloc (Nat.le_refl _) (.cells #[.int .i64 0, .int .i64 0, .int .i64 0, .int .i64 0, .int .i64 0, .slice none 0 0] 24)
  go_enter Try.func17, Try.ntmps17
  go_wp2_with (first | (go_at_call 15; refine (NorRef.refBlank_any _).mono ?_; rintro e w' ⟨rfl, hb⟩; replace hB := thenB hB hb; replace hR := resB hR hb; clear hb) | (go_at_call 34; refine (DevRef.newRef_any _).mono ?_; rintro e w' ⟨rfl, hb⟩; replace hB := thenB hB hb; replace hR := resB hR hb; clear hb))
  refine (HD.out _).mono ?_
  rintro e w2 ⟨a, c, rfl, hI, hb⟩
  replace hB := thenB hB hb
  replace hI := owns_mono hI (Nat.succ_le_of_lt hR.1)
  replace hR := resB hR hb
  clear hb
  have hn := hal w2 (.cells #[.int .i64 1, .int .i64 0, .int .i64 1, .int .i64 32, .int .i64 0, .slice a 11 c] 24)
  replace hB := thenB hB hn
  replace hR := resB hR hn
  replace hI := owns_below hI hn
  clear hn
  go_wp2_with fail
  exact bodyPost_ret (v := .agg #[.int .i64 1, .int .i64 0, .int .i64 1, .int .i64 32, .int .i64 0, .slice a 11 c]) (by simp [results, Try.results17, go_sem, hR]) rfl ⟨a, c, rfl, ownsS_is (own6 hI (Nat.lt_succ_self _) _ _ _ _ _ _), set6 hB (Nat.le_refl _)⟩
def abcd : ByteArray := ⟨#[97, 98, 99, 100]⟩
def xy : ByteArray := ⟨#[120, 121]⟩
def ex : ByteArray := ⟨#[120]⟩
def l1 : List FOp := erL 0 ++ wordsL (baseI 0) abcd
def l2 : List FOp := [⟨false, 224, ⟨#[120, 121, 255, 255]⟩⟩]
theorem k1 (w : World) : Calls Try.prog 9 #[.string blankS, .agg #[.int .i64 0, .int .i64 0, .int .i64 0, .int .i64 0, .int .i64 0, .slice none 0 0], .int .i64 0, .string abcd] w fun r w' => ∃ a c, r = .returned (.tuple #[.agg #[.int .i64 1, .int .i64 0, .int .i64 1, .int .i64 4, .int .i64 0, .slice a 4 c], .int .i64 0]) ∧ IsSt w' (.slice a 4 c) l1 ∧ Below w.heap.size w w' := by
  obtain ⟨h1, h2⟩ := start_is (t := abcd) may_blank (by decide) (by decide)
  rw [oth_blank] at h2
  exact took (n := 4) h1 h2 (by show (erL 0 ++ wordsL (baseI 0) abcd).length = 4; rw [length_start 0 abcd (by omega) (by omega) (by decide)]; rfl) _ w (isSt_nil w)
theorem down_ok (b : Int) (t : ByteArray) (h0 : 0 ≤ b) (h1 : b ≤ 65535) (ht : t.size ≤ 32) : okB blankS (downD 1 32) b t = true := ok_down may_blank (by omega) (by omega) (by omega) (by omega) h0 h1 ht
theorem k2 (w : World) : Calls Try.prog 9 #[.string blankS, .agg #[.int .i64 3, .int .i64 0, .int .i64 1, .int .i64 32, .int .i64 0, .slice none 0 0], .int .i64 0, .string ex] w fun r w' => ∃ a c, r = .returned (.tuple #[.agg #[.int .i64 1, .int .i64 0, .int .i64 1, .int .i64 32, .int .i64 0, .slice a 0 c], .int .i64 0]) ∧ IsSt w' (.slice a 0 c) [] ∧ Below w.heap.size w w' :=
  took (n := 0) (down_ok 0 ex (by omega) (by omega) (by decide)) (again_is (down_ok 0 ex (by omega) (by omega) (by decide)) rfl) rfl _ w (isSt_nil w)
theorem words_xy : wordsL (192 + 32) xy = l2 := by
  rw [wordsL_ok (by decide)]
  rfl
theorem k3 (w : World) : Calls Try.prog 9 #[.string blankS, .agg #[.int .i64 3, .int .i64 0, .int .i64 1, .int .i64 32, .int .i64 0, .slice none 0 0], .int .i64 1, .string xy] w fun r w' => ∃ a c, r = .returned (.tuple #[.agg #[.int .i64 1, .int .i64 0, .int .i64 2, .int .i64 34, .int .i64 0, .slice a 1 c], .int .i64 0]) ∧ IsSt w' (.slice a 1 c) l2 ∧ Below w.heap.size w w' := by
  have h := more_is (down_ok 1 xy (by omega) (by omega) (by decide)) (by decide) (by decide) (by decide) (by decide)
  rw [words_xy] at h
  exact took (n := 1) (down_ok 1 xy (by omega) (by omega) (by decide)) h rfl _ w (isSt_nil w)
theorem k4 (w : World) : Calls Try.prog 9 #[.string blankS, .agg #[.int .i64 3, .int .i64 0, .int .i64 1, .int .i64 32, .int .i64 0, .slice none 0 0], .int .i64 1, .string ⟨#[]⟩] w fun r w' => ∃ a c, r = .returned (.tuple #[.agg #[.int .i64 4, .int .i64 0, .int .i64 1, .int .i64 32, .int .i64 0, .slice a 0 c], .int .i64 0]) ∧ IsSt w' (.slice a 0 c) [] ∧ Below w.heap.size w w' :=
  took (n := 0) (down_ok 1 ⟨#[]⟩ (by omega) (by omega) (by decide)) (none_is (down_ok 1 ⟨#[]⟩ (by omega) (by omega) (by decide)) rfl) rfl _ w (isSt_nil w)
theorem k5 (w : World) : Calls Try.prog 9 #[.string blankS, .agg #[.int .i64 3, .int .i64 0, .int .i64 1, .int .i64 32, .int .i64 0, .slice none 0 0], .int .i64 2, .string xy] w fun r w' => ∃ a c, r = .returned (.tuple #[.agg #[.int .i64 7, .int .i64 4, .int .i64 0, .int .i64 0, .int .i64 0, .slice a 0 c], .int .i64 0]) ∧ IsSt w' (.slice a 0 c) [] ∧ Below w.heap.size w w' :=
  took (n := 0) (down_ok 2 xy (by omega) (by omega) (by decide)) (other_is (down_ok 2 xy (by omega) (by omega) (by decide)) (by omega) (by omega)) rfl _ w (isSt_nil w)
theorem no_sync (f t : ByteArray) (b : Int) (d : FDev) (h : d.sa = 1) : okB f d b t = false := by
  cases hc : okB f d b t with
  | false => rfl
  | true => have := (okB_parts.1 hc).2.2.1; omega
theorem k6 (v : Value) (w : World) (hv : IsSt w v sentL) : Calls Try.prog 9 #[.string blankS, .agg #[.int .i64 1, .int .i64 0, .int .i64 1, .int .i64 32, .int .i64 0, v], .int .i64 1, .string xy] w fun r w' => ∃ a c, r = .returned (.tuple #[.agg #[.int .i64 0, .int .i64 0, .int .i64 0, .int .i64 0, .int .i64 0, .slice a 0 c], .int .i64 1700]) ∧ IsSt w' (.slice a 0 c) [] ∧ Below w.heap.size w w' :=
  refused (d := ⟨1, 0, 1, 32, 0, sentL⟩) (no_sync _ _ _ _ rfl) v w hv
set_option maxRecDepth 100000 in
set_option maxHeartbeats 4000000 in
theorem awake_any (w : World) : Calls Try.prog 14 #[] w fun e w' => e = .returned (.bool true) ∧ Below w.heap.size w w' := by
  have b1 := build_d0
  have b2 := OpsWalk.build_at
  have hB := Below.refl w.heap.size w
  go_enter Try.func14, Try.ntmps14
  go_wp2_with fail
  refine (NorRef.refBlank_any _).mono ?_; rintro e u1 ⟨rfl, hb⟩; replace hB := thenB hB hb; clear hb
  go_wp2_with fail
  refine (k1 _).mono ?_; rintro e u2 ⟨aa, ac, rfl, _, hb⟩; replace hB := thenB hB hb; clear hb
  have hA := resM u2 (.int .i64 1) (.int .i64 0) (.int .i64 1) (.int .i64 4) (.int .i64 0) (.slice aa 4 ac) 24
  have hn := hal u2 (.cells #[.int .i64 1, .int .i64 0, .int .i64 1, .int .i64 4, .int .i64 0, .slice aa 4 ac] 24)
  replace hB := thenB hB hn
  clear hn
  go_wp2_with fail
  generalize u2.alloc _ = W2 at *
  generalize u2.heap.size = G2 at *
  refine (sent_any _).mono ?_; rintro e u3 ⟨da, dc, rfl, _, hb⟩; replace hB := thenB hB hb; replace hA := resB hA hb; clear hb
  have hG := hB.size
  have hne : u3.heap.size ≠ G2 := Nat.ne_of_gt hA.1
  have hD := resM u3 (.int .i64 1) (.int .i64 0) (.int .i64 1) (.int .i64 32) (.int .i64 0) (.slice da 11 dc) 24
  have hn := hal u3 (.cells #[.int .i64 1, .int .i64 0, .int .i64 1, .int .i64 32, .int .i64 0, .slice da 11 dc] 24)
  replace hB := thenB hB hn
  replace hA := resB hA hn
  clear hn
  go_upto_region 4 with fail
  generalize u3.alloc _ = W3 at *
  generalize u3.heap.size = G3 at *
  have HB := hide hB
  have HA := hide hA
  clear hB hA
  go_upto_region 6 with fail
  replace hD := res5 (res0 hD (.int .i64 3)) (.slice none 0 0)
  have hA := resO (resO HA.out hne 0 (.int .i64 3)) hne 5 (.slice none 0 0)
  have hB := (HB.out.setCell (p := ⟨G3, 0, none⟩) hG (.int .i64 3)).setCell (p := ⟨G3, 5, none⟩) hG (.slice none 0 0)
  clear HA HB
  generalize (W3.setCell _ _).setCell _ _ = W4 at *
  go_wp2_with fail
  refine (k2 _).mono ?_; rintro e u5 ⟨sy, cy, rfl, _, hb⟩; replace hB := thenB hB hb; replace hA := resB hA hb; replace hD := resB hD hb; clear hb
  have hY := resM u5 (.int .i64 1) (.int .i64 0) (.int .i64 1) (.int .i64 32) (.int .i64 0) (.slice sy 0 cy) 24
  have hn := hal u5 (.cells #[.int .i64 1, .int .i64 0, .int .i64 1, .int .i64 32, .int .i64 0, .slice sy 0 cy] 24)
  replace hB := thenB hB hn
  replace hA := resB hA hn
  replace hD := resB hD hn
  clear hn
  go_upto_region 7 with fail
  generalize u5.alloc _ = WY at *
  generalize u5.heap.size = GY at *
  go_wp2_with fail
  refine (k3 _).mono ?_; rintro e u6 ⟨sc, cc, rfl, hI, hb⟩; replace hB := thenB hB hb; replace hA := resB hA hb; replace hD := resB hD hb; replace hY := resB hY hb; clear hb
  have hC := resM u6 (.int .i64 1) (.int .i64 0) (.int .i64 2) (.int .i64 34) (.int .i64 0) (.slice sc 1 cc) 24
  have hn := hal u6 (.cells #[.int .i64 1, .int .i64 0, .int .i64 2, .int .i64 34, .int .i64 0, .slice sc 1 cc] 24)
  replace hB := thenB hB hn
  replace hA := resB hA hn
  replace hD := resB hD hn
  replace hY := resB hY hn
  replace hI := hI.below hn
  clear hn
  go_upto_region 8 with fail
  generalize u6.alloc _ = WC at *
  generalize u6.heap.size = GC at *
  go_wp2_with fail
  refine (k4 _).mono ?_; rintro e u7 ⟨sp, cp, rfl, _, hb⟩; replace hB := thenB hB hb; replace hA := resB hA hb; replace hD := resB hD hb; replace hY := resB hY hb; replace hC := resB hC hb; replace hI := hI.below hb; clear hb
  have hP := resM u7 (.int .i64 4) (.int .i64 0) (.int .i64 1) (.int .i64 32) (.int .i64 0) (.slice sp 0 cp) 24
  have hn := hal u7 (.cells #[.int .i64 4, .int .i64 0, .int .i64 1, .int .i64 32, .int .i64 0, .slice sp 0 cp] 24)
  replace hB := thenB hB hn
  replace hA := resB hA hn
  replace hD := resB hD hn
  replace hY := resB hY hn
  replace hC := resB hC hn
  replace hI := hI.below hn
  clear hn
  go_upto_region 9 with fail
  generalize u7.alloc _ = WP at *
  generalize u7.heap.size = GP at *
  go_wp2_with fail
  refine (k5 _).mono ?_; rintro e u8 ⟨sq, cq, rfl, _, hb⟩; replace hB := thenB hB hb; replace hA := resB hA hb; replace hD := resB hD hb; replace hY := resB hY hb; replace hC := resB hC hb; replace hP := resB hP hb; replace hI := hI.below hb; clear hb
  have hQ := resM u8 (.int .i64 7) (.int .i64 4) (.int .i64 0) (.int .i64 0) (.int .i64 0) (.slice sq 0 cq) 24
  have hn := hal u8 (.cells #[.int .i64 7, .int .i64 4, .int .i64 0, .int .i64 0, .int .i64 0, .slice sq 0 cq] 24)
  replace hB := thenB hB hn
  replace hA := resB hA hn
  replace hD := resB hD hn
  replace hY := resB hY hn
  replace hC := resB hC hn
  replace hP := resB hP hn
  replace hI := hI.below hn
  clear hn
  go_upto_region 10 with fail
  generalize u8.alloc _ = WQ at *
  generalize u8.heap.size = GQ at *
  go_wp2_with fail
  refine (sent_any _).mono ?_; rintro e u9 ⟨sk, ck, rfl, hK, hb⟩; replace hB := thenB hB hb; replace hA := resB hA hb; replace hD := resB hD hb; replace hY := resB hY hb; replace hC := resB hC hb; replace hP := resB hP hb; replace hQ := resB hQ hb; replace hI := hI.below hb; clear hb
  go_wp2_with fail
  refine (k6 _ _ hK).mono ?_; rintro e u10 ⟨se, ce, rfl, _, hb⟩; replace hB := thenB hB hb; replace hA := resB hA hb; replace hD := resB hD hb; replace hY := resB hY hb; replace hC := resB hC hb; replace hP := resB hP hb; replace hQ := resB hQ hb; replace hI := hI.below hb; clear hb
  have hE := resM u10 (.int .i64 0) (.int .i64 0) (.int .i64 0) (.int .i64 0) (.int .i64 0) (.slice se 0 ce) 24
  have hn := hal u10 (.cells #[.int .i64 0, .int .i64 0, .int .i64 0, .int .i64 0, .int .i64 0, .slice se 0 ce] 24)
  replace hB := thenB hB hn
  replace hA := resB hA hn
  replace hD := resB hD hn
  replace hY := resB hY hn
  replace hC := resB hC hn
  replace hP := resB hP hn
  replace hQ := resB hQ hn
  replace hI := hI.below hn
  clear hn
  clear hE hD hK
  go_upto_region 11 with fail
  generalize u10.alloc _ = WE at *
  generalize u10.heap.size = GE at *
  go_wp2_with (go_at_call 12; refine (DevHelp.num_any _ _).mono ?_; rintro e w' ⟨rfl, rfl⟩)
  have hM := madeS_is w' l2 44 1 rfl (by decide)
  have hn := hal w' (.cells #[.bool false, .int .i64 224, .string ⟨#[120, 121, 255, 255]⟩] 44)
  refine (DevHelp.sameSt_yes _ _ l2 _ (hI.below hn) hM).mono ?_
  rintro e w9 ⟨rfl, hb⟩
  replace hB := thenB hB hn; replace hA := resB hA hn; replace hY := resB hY hn; replace hC := resB hC hn; replace hP := resB hP hn; replace hQ := resB hQ hn; replace hI := hI.below hn; 
  replace hB := thenB hB hb; replace hA := resB hA hb; replace hY := resB hY hb; replace hC := resB hC hb; replace hP := resB hP hb; replace hQ := resB hQ hb; replace hI := hI.below hb; 
  clear hb hn hM
  go_wp2_with (go_at_call 12; refine (DevHelp.num_any _ _).mono ?_; rintro e w' ⟨rfl, rfl⟩)
  go_ret
  exact ⟨rfl, hB⟩
end Go.Proofs.Ythpoefaipmcceaa.DnlAwake
