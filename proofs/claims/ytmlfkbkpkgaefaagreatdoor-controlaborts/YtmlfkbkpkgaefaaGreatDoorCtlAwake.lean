/- The contract of 'awake' of the laws over package control, which asks what is known of a few requests: it answers true. -/
import Derived.Test.YtmlfkbkpkgaefaaGreatDoorBagCtl
import Derived.Test.YtmlfkbkpkgaefaaGreatDoorSetRef
import Derived.Test.YtmlfkbkpkgaefaaGreatDoorBagDnl
import Derived.Test.YtmlfkbkpkgaefaaGreatDoorBagDev
import Derived.Test.YtmlfkbkpkgaefaaGreatDoorBagNor
namespace Go.Proofs.YtmlfkbkpkgaefaaGreatDoor.CtlAwake
open Go.Proofs.YtmlfkbkpkgaefaaGreatDoor Go.RowKit Go.Proofs.YtmlfkbkpkgaefaaGreatDoor.Bytes Go.Proofs.YtmlfkbkpkgaefaaGreatDoor.Nor Go.Proofs.YtmlfkbkpkgaefaaGreatDoor.Ops Go.Proofs.YtmlfkbkpkgaefaaGreatDoor.OpsRow Go.Proofs.YtmlfkbkpkgaefaaGreatDoor.Jou Go.Proofs.YtmlfkbkpkgaefaaGreatDoor.Act Go.Proofs.YtmlfkbkpkgaefaaGreatDoor.Cho Go.Proofs.YtmlfkbkpkgaefaaGreatDoor.Sta Go.Proofs.YtmlfkbkpkgaefaaGreatDoor.Dev Go.Proofs.YtmlfkbkpkgaefaaGreatDoor.DevRow Go.Proofs.YtmlfkbkpkgaefaaGreatDoor.DevSet Go.Proofs.YtmlfkbkpkgaefaaGreatDoor.Dnl Go.Proofs.YtmlfkbkpkgaefaaGreatDoor.DnlMore Go.Proofs.YtmlfkbkpkgaefaaGreatDoor.Tic Go.Proofs.YtmlfkbkpkgaefaaGreatDoor.Sup Go.Proofs.YtmlfkbkpkgaefaaGreatDoor.Tab Go.Proofs.YtmlfkbkpkgaefaaGreatDoor.TabLaid Go.Proofs.YtmlfkbkpkgaefaaGreatDoor.Ctl
open Go.Proofs.YtmlfkbkpkgaefaaGreatDoor.DevWalk (build_d0)
open Go.Proofs.YtmlfkbkpkgaefaaGreatDoor.CtlWalk (build_p0 build_p1 build_p2)
open Go.Proofs.YtmlfkbkpkgaefaaGreatDoor.UplWalk (hal)
theorem build_cn (c n : Int) (w : World) : (Instr.build 42 #[(0, .int .i64 c), (2, .int .i64 n)]).run Tryz.prog w = .ok (.agg #[.int .i64 c, .int .i64 0, .int .i64 n]) w := run_build w 42 _ _ (by kernel_rfl)
theorem set_put {c v n : Int} (h : supB c v n = true) (w : World) : Calls Tryz.prog 14 #[.agg #[.int .i64 c, .int .i64 v, .int .i64 n]] w fun e w' => e = .returned (.tuple #[.string (supS c v n), .int .i64 0]) ∧ Below w.heap.size w w' := by
  have g := SetRef.refPut_any c v n w
  rw [h, show errU true = 0 from rfl] at g
  exact g
/-- What Handle gives, with its steps' number told. -/
theorem handed {f : ByteArray} {d : FDev} {s t : ByteArray} {D : FDev} {B : Bool} {S : ByteArray} {n : Nat} (hb : bothB f d = true) (h : handD f d s t = D ∧ handB f d s t = B ∧ handS f d s t = S) (hn : D.ops.length = n) (v : Value) (w : World) (hv : IsSt w v d.ops) (hT : TabAt w) : Calls Tryz.prog 8 #[.string f, .agg #[.int .i64 d.sa, .int .i64 d.su, .int .i64 d.nx, .int .i64 d.gt, .int .i64 d.sl, v], .string s, .string t] w fun r w' => ∃ a c, r = .returned (.tuple #[.agg #[.int .i64 D.sa, .int .i64 D.su, .int .i64 D.nx, .int .i64 D.gt, .int .i64 D.sl, .slice a n c], .agg #[.bool false, .bool B, .string S], .int .i64 0]) ∧ IsSt w' (.slice a n c) D.ops ∧ Below w.heap.size w w' := by
  obtain ⟨h1, h2, h3⟩ := h
  have g := CtlHand.hand_any f d v s t w hv hT
  rw [hb, h1, h2, h3, show errC true = 0 from rfl] at g
  refine g.mono ?_
  rintro e w' ⟨u, rfl, hO, hb⟩
  obtain ⟨a, c, rfl⟩ := hO.form
  have h2 := hO.is
  rw [hn] at h2 ⊢
  exact ⟨a, c, rfl, h2, hb⟩
theorem none_handed {f : ByteArray} {d : FDev} (s t : ByteArray) (hb : bothB f d = false) (v : Value) (w : World) (hv : IsSt w v d.ops) (hT : TabAt w) : Calls Tryz.prog 8 #[.string f, .agg #[.int .i64 d.sa, .int .i64 d.su, .int .i64 d.nx, .int .i64 d.gt, .int .i64 d.sl, v], .string s, .string t] w fun r w' => ∃ a c, r = .returned (.tuple #[.agg #[.int .i64 0, .int .i64 0, .int .i64 0, .int .i64 0, .int .i64 0, .slice a 0 c], .agg #[.bool false, .bool false, .string ⟨#[]⟩], .int .i64 2100]) ∧ IsSt w' (.slice a 0 c) [] ∧ Below w.heap.size w w' := by
  obtain ⟨h1, h2, h3⟩ := hand_no s t hb
  have g := CtlHand.hand_any f d v s t w hv hT
  rw [hb, h1, h2, h3, show errC false = 2100 from rfl] at g
  refine g.mono ?_
  rintro e w' ⟨u, rfl, hO, hb⟩
  obtain ⟨a, c, rfl⟩ := hO.form
  exact ⟨a, c, rfl, hO.is, hb⟩
/-- A device and a reply that a call gave, in memory. -/
theorem dev_reply (w : World) (x0 x1 x2 x3 x4 x5 y0 y1 y2 : Value) : Res ((w.alloc (.cells #[x0, x1, x2, x3, x4, x5] 24)).alloc (.cells #[y0, y1, y2] 27)) w.heap.size x0 x1 x2 x3 x4 x5 ∧ (w.heap.size + 1 < ((w.alloc (.cells #[x0, x1, x2, x3, x4, x5] 24)).alloc (.cells #[y0, y1, y2] 27)).heap.size ∧ ((w.alloc (.cells #[x0, x1, x2, x3, x4, x5] 24)).alloc (.cells #[y0, y1, y2] 27)).cell? ⟨w.heap.size + 1, 0, none⟩ = some y0 ∧ ((w.alloc (.cells #[x0, x1, x2, x3, x4, x5] 24)).alloc (.cells #[y0, y1, y2] 27)).cell? ⟨w.heap.size + 1, 1, none⟩ = some y1 ∧ ((w.alloc (.cells #[x0, x1, x2, x3, x4, x5] 24)).alloc (.cells #[y0, y1, y2] 27)).cell? ⟨w.heap.size + 1, 2, none⟩ = some y2 ∧ ∀ i, ((w.alloc (.cells #[x0, x1, x2, x3, x4, x5] 24)).alloc (.cells #[y0, y1, y2] 27)).frozen? ⟨w.heap.size + 1, i, none⟩ = false) ∧ Below w.heap.size w ((w.alloc (.cells #[x0, x1, x2, x3, x4, x5] 24)).alloc (.cells #[y0, y1, y2] 27)) := by
  have hR := SetWalk.resM (w.alloc (.cells #[x0, x1, x2, x3, x4, x5] 24)) y0 y1 y2 27
  rw [show (w.alloc (.cells #[x0, x1, x2, x3, x4, x5] 24)).heap.size = w.heap.size + 1 from by simp] at hR
  exact ⟨resB (resM w x0 x1 x2 x3 x4 x5 24) (hal _ _), hR, thenB (hal _ _) (hal _ _)⟩
def abcd : ByteArray := ⟨#[97, 98, 99, 100]⟩
def l4 : List FOp := erL 0 ++ wordsL (baseI 0) abcd
theorem len_l4 : l4.length = 4 := by unfold l4; rw [length_start 0 abcd (by omega) (by omega) (by decide)]; rfl
theorem may_l4 : devB ⟨1, 0, 1, 4, 0, l4⟩ = true := by decide +kernel
theorem s1 : supB 1 0 4 = true := by decide
theorem s5 : supB 5 0 1 = true := by decide
theorem go_is {d : FDev} {c v n : Int} {t : ByteArray} (h : supB c v n = true) (h2 : (t.size : Int) = carI c n) (h3 : tabB d.sa c = true) : goB d (supS c v n) t = true := by
  obtain ⟨h1, e1, _, e3⟩ := got_put h
  exact go_parts.2 ⟨h1, by rw [e1, e3]; exact h2, by rw [e1]; exact h3⟩
theorem go_not {d : FDev} {c v n : Int} {t : ByteArray} (h : supB c v n = true) (h3 : ¬ (t.size : Int) = carI c n ∨ tabB d.sa c = false) : goB d (supS c v n) t = false := by
  obtain ⟨h1, e1, _, e3⟩ := got_put h
  cases hg : goB d (supS c v n) t with
  | false => rfl
  | true =>
    obtain ⟨_, g2, g3⟩ := go_parts.1 hg
    rw [e1] at g2 g3
    rw [e3] at g2
    rcases h3 with h3 | h3
    · exact absurd g2 h3
    · rw [g3] at h3; cases h3
theorem do_is (f : ByteArray) (d : FDev) {c v n : Int} (t : ByteArray) (h : supB c v n = true) : doD f d (supS c v n) t = doneD f d c v n t ∧ doS f d (supS c v n) = doneS f d c v n := by
  obtain ⟨_, e1, e2, e3⟩ := got_put h
  unfold doD doS
  rw [e1, e2, e3]
  exact ⟨rfl, rfl⟩
/-- What an allowed request makes. -/
theorem hand_is {f : ByteArray} {d : FDev} {c v n : Int} {t : ByteArray} (hb : bothB f d = true) (h : supB c v n = true) (h2 : (t.size : Int) = carI c n) (h3 : tabB d.sa c = true) : handD f d (supS c v n) t = doneD f d c v n t ∧ handB f d (supS c v n) t = stallB d (doneD f d c v n t) ∧ handS f d (supS c v n) t = textS (stallB d (doneD f d c v n t)) (doneS f d c v n) := by
  obtain ⟨e1, e2, e3⟩ := hand_ok hb (go_is (d := d) h h2 h3)
  obtain ⟨e4, e5⟩ := do_is f d (c := c) (v := v) (n := n) t h
  rw [e1, e2, e3, e4, e5]
  exact ⟨rfl, rfl, rfl⟩
theorem k1 {f : ByteArray} (hf : mayF f = true) (ho : othI f = 0) (w : World) (hT : TabAt w) : Calls Tryz.prog 8 #[.string f, .agg #[.int .i64 0, .int .i64 0, .int .i64 0, .int .i64 0, .int .i64 0, .slice none 0 0], .string (supS 1 0 4), .string abcd] w fun r w' => ∃ a c, r = .returned (.tuple #[.agg #[.int .i64 1, .int .i64 0, .int .i64 1, .int .i64 4, .int .i64 0, .slice a 4 c], .agg #[.bool false, .bool false, .string ⟨#[]⟩], .int .i64 0]) ∧ IsSt w' (.slice a 4 c) l4 ∧ Below w.heap.size w w' := by
  have hb : bothB f newD = true := both_parts.2 ⟨hf, dev_new⟩
  obtain ⟨e1, e2, e3⟩ := hand_is (d := newD) (t := abcd) hb s1 rfl rfl
  have e4 : doneD f newD 1 0 4 abcd = ⟨1, 0, 1, 4, 0, l4⟩ := by
    rw [(done_1 f newD 0 4 abcd).1, (start_is hf (by decide) (by decide)).2, ho]
    rfl
  rw [e4] at e1 e2 e3
  exact handed (d := newD) (D := ⟨1, 0, 1, 4, 0, l4⟩) hb ⟨e1, e2, e3⟩ len_l4 _ w (isSt_nil w) hT
theorem k2 {f : ByteArray} (hf : mayF f = true) (v : Value) (w : World) (hv : IsSt w v l4) (hT : TabAt w) : Calls Tryz.prog 8 #[.string f, .agg #[.int .i64 1, .int .i64 0, .int .i64 1, .int .i64 4, .int .i64 0, v], .string (supS 1 0 4), .string abcd] w fun r w' => ∃ a c, r = .returned (.tuple #[.agg #[.int .i64 7, .int .i64 6, .int .i64 0, .int .i64 0, .int .i64 0, .slice a 0 c], .agg #[.bool false, .bool true, .string ⟨#[]⟩], .int .i64 0]) ∧ IsSt w' (.slice a 0 c) [] ∧ Below w.heap.size w w' := by
  have hb : bothB f ⟨1, 0, 1, 4, 0, l4⟩ = true := both_parts.2 ⟨hf, may_l4⟩
  exact handed (d := ⟨1, 0, 1, 4, 0, l4⟩) (D := failedD 6) hb (hand_stall hb (go_not s1 (.inr rfl))) rfl v w hv hT
theorem k3 {f : ByteArray} (hf : mayF f = true) (v : Value) (w : World) (hv : IsSt w v []) (hT : TabAt w) : Calls Tryz.prog 8 #[.string f, .agg #[.int .i64 7, .int .i64 6, .int .i64 0, .int .i64 0, .int .i64 0, v], .string (supS 5 0 1), .string ⟨#[]⟩] w fun r w' => ∃ a c, r = .returned (.tuple #[.agg #[.int .i64 7, .int .i64 6, .int .i64 0, .int .i64 0, .int .i64 0, .slice a 0 c], .agg #[.bool false, .bool false, .string ⟨#[7]⟩], .int .i64 0]) ∧ IsSt w' (.slice a 0 c) [] ∧ Below w.heap.size w w' := by
  have hb : bothB f (failedD 6) = true := both_parts.2 ⟨hf, rfl⟩
  exact handed (d := failedD 6) (D := failedD 6) hb (hand_is (d := failedD 6) (t := ⟨#[]⟩) hb s5 rfl rfl) rfl v w hv hT
theorem k4 (s : ByteArray) (w : World) (hT : TabAt w) : Calls Tryz.prog 8 #[.string ⟨#[]⟩, .agg #[.int .i64 0, .int .i64 0, .int .i64 0, .int .i64 0, .int .i64 0, .slice none 0 0], .string s, .string ⟨#[]⟩] w fun r w' => ∃ a c, r = .returned (.tuple #[.agg #[.int .i64 0, .int .i64 0, .int .i64 0, .int .i64 0, .int .i64 0, .slice a 0 c], .agg #[.bool false, .bool false, .string ⟨#[]⟩], .int .i64 2100]) ∧ IsSt w' (.slice a 0 c) [] ∧ Below w.heap.size w w' :=
  none_handed (f := ⟨#[]⟩) (d := newD) s ⟨#[]⟩ (by decide) _ w (isSt_nil w) hT
set_option maxRecDepth 100000 in
set_option maxHeartbeats 4000000 in
theorem awake_any (w : World) (hT : TabAt w) : Calls Tryz.prog 13 #[] w fun e w' => e = .returned (.bool true) ∧ Below w.heap.size w w' := by
  have b1 := build_d0
  have b2 := build_p0
  have b3 := build_p1
  have b4 := build_p2
  have b5 := build_cn
  have HT := hide hT
  have hB := Below.refl w.heap.size w
  have HBl := hide (fun w => NorRef.refBlank_any w)
  have P1 := hide (fun w => set_put s1 w)
  have P5 := hide (fun w => set_put s5 w)
  have K1 := hide (fun w h => k1 may_blank oth_blank w h)
  have K2 := hide (fun v w g h => k2 may_blank v w g h)
  have K3 := hide (fun v w g h => k3 may_blank v w g h)
  have K4 := hide (fun w h => k4 (supS 5 0 1) w h)
  have HS := hide (fun u v w h g => DevHelp.sameDev_yes ⟨7, 6, 0, 0, 0, []⟩ u v w h g)
  dsimp only at HS
  unfold abcd at K1 K2
  generalize blankS = F at *
  generalize supS 1 0 4 = S1 at *
  generalize supS 5 0 1 = S5 at *
  clear hT
  go_enter Tryz.func13, Tryz.ntmps13
  go_upto_region 2 with (go_at_call 16; refine (HBl.out _).mono ?_; rintro e u1 ⟨rfl, hb⟩; replace hB := thenB hB hb; clear hb)
  go_upto_region 3 with (go_at_call 14; refine (P1.out _).mono ?_; rintro e u2 ⟨rfl, hb⟩; replace hB := thenB hB hb; clear hb)
  go_upto_region 4 with (go_at_call 14; refine (P5.out _).mono ?_; rintro e u3 ⟨rfl, hb⟩; replace hB := thenB hB hb; clear hb)
  clear HBl P1 P5
  go_wp2_with fail
  refine (K1.out _ (HT.out.below hB)).mono ?_; rintro e u4 ⟨a1, c1, rfl, hI, hb⟩; replace hB := thenB hB hb; clear hb
  obtain ⟨hA, hAr, hn⟩ := dev_reply u4 (.int .i64 1) (.int .i64 0) (.int .i64 1) (.int .i64 4) (.int .i64 0) (.slice a1 4 c1) (.bool false) (.bool false) (.string ⟨#[]⟩)
  replace hB := thenB hB hn
  replace hI := hI.below hn
  clear hn K1
  go_upto_region 5 with fail
  generalize (u4.alloc _).alloc _ = W1 at *
  generalize u4.heap.size = G1 at *
  go_wp2_with fail
  refine (K2.out _ _ hI (HT.out.below hB)).mono ?_; rintro e u5 ⟨a2, c2, rfl, hJ, hb⟩; replace hB := thenB hB hb; replace hA := resB hA hb; replace hAr := SetWalk.resB hAr hb; clear hb hI
  obtain ⟨hC, hCr, hn⟩ := dev_reply u5 (.int .i64 7) (.int .i64 6) (.int .i64 0) (.int .i64 0) (.int .i64 0) (.slice a2 0 c2) (.bool false) (.bool true) (.string ⟨#[]⟩)
  replace hB := thenB hB hn
  replace hA := resB hA hn
  replace hAr := SetWalk.resB hAr hn
  replace hJ := hJ.below hn
  clear hn K2
  go_upto_region 6 with fail
  generalize (u5.alloc _).alloc _ = W2 at *
  generalize u5.heap.size = G2 at *
  go_wp2_with fail
  refine (K3.out _ _ hJ (HT.out.below hB)).mono ?_; rintro e u6 ⟨a3, c3, rfl, hK, hb⟩; replace hB := thenB hB hb; replace hA := resB hA hb; replace hAr := SetWalk.resB hAr hb; replace hC := resB hC hb; replace hCr := SetWalk.resB hCr hb; replace hJ := hJ.below hb; clear hb
  obtain ⟨hP, hPr, hn⟩ := dev_reply u6 (.int .i64 7) (.int .i64 6) (.int .i64 0) (.int .i64 0) (.int .i64 0) (.slice a3 0 c3) (.bool false) (.bool false) (.string ⟨#[7]⟩)
  replace hB := thenB hB hn
  replace hA := resB hA hn
  replace hAr := SetWalk.resB hAr hn
  replace hC := resB hC hn
  replace hCr := SetWalk.resB hCr hn
  replace hJ := hJ.below hn
  replace hK := hK.below hn
  clear hn K3
  go_upto_region 7 with fail
  generalize (u6.alloc _).alloc _ = W3 at *
  generalize u6.heap.size = G3 at *
  go_wp2_with fail
  refine (K4.out _ (HT.out.below hB)).mono ?_; rintro e u7 ⟨a4, c4, rfl, _, hb⟩; replace hB := thenB hB hb; replace hA := resB hA hb; replace hAr := SetWalk.resB hAr hb; replace hC := resB hC hb; replace hCr := SetWalk.resB hCr hb; replace hP := resB hP hb; replace hPr := SetWalk.resB hPr hb; replace hJ := hJ.below hb; replace hK := hK.below hb; clear hb
  obtain ⟨_, _, hn⟩ := dev_reply u7 (.int .i64 0) (.int .i64 0) (.int .i64 0) (.int .i64 0) (.int .i64 0) (.slice a4 0 c4) (.bool false) (.bool false) (.string ⟨#[]⟩)
  replace hB := thenB hB hn
  replace hA := resB hA hn
  replace hAr := SetWalk.resB hAr hn
  replace hC := resB hC hn
  replace hCr := SetWalk.resB hCr hn
  replace hP := resB hP hn
  replace hPr := SetWalk.resB hPr hn
  replace hJ := hJ.below hn
  replace hK := hK.below hn
  clear hn K4 HT
  go_upto_region 8 with fail
  generalize (u7.alloc _).alloc _ = W4 at *
  generalize u7.heap.size = G4 at *
  go_wp2_with (first | (go_at_call 11; refine (DevHelp.num_any _ _).mono ?_; rintro e w' ⟨rfl, rfl⟩) | (go_at_call 10; refine (HS.out _ _ _ hJ hK).mono ?_; rintro e w9 ⟨rfl, hb⟩; replace hB := thenB hB hb; replace hP := resB hP hb; replace hPr := SetWalk.resB hPr hb; clear hb hJ hK))
  go_ret
  exact ⟨rfl, hB⟩
end Go.Proofs.YtmlfkbkpkgaefaaGreatDoor.CtlAwake
