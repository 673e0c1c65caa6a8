/- The contract of the document's own answer to package control: it gives what the same plain functions give. -/
import Derived.Test.YtmlfkbkpkgaefaaGreatDoorBagCtl
import Derived.Test.YtmlfkbkpkgaefaaGreatDoorUplRef
import Derived.Test.YtmlfkbkpkgaefaaGreatDoorStsRef
import Derived.Test.YtmlfkbkpkgaefaaGreatDoorDnlDoc
import Derived.Test.YtmlfkbkpkgaefaaGreatDoorTabRef
import Derived.Test.YtmlfkbkpkgaefaaGreatDoorSetGet
import Derived.Test.YtmlfkbkpkgaefaaGreatDoorBagDoc
namespace Go.Proofs.YtmlfkbkpkgaefaaGreatDoor.CtlRef
open Go.Proofs.YtmlfkbkpkgaefaaGreatDoor Go.RowKit Go.Proofs.YtmlfkbkpkgaefaaGreatDoor.Bytes Go.Proofs.YtmlfkbkpkgaefaaGreatDoor.Ops Go.Proofs.YtmlfkbkpkgaefaaGreatDoor.OpsRow Go.Proofs.YtmlfkbkpkgaefaaGreatDoor.Jou Go.Proofs.YtmlfkbkpkgaefaaGreatDoor.JouRow Go.Proofs.YtmlfkbkpkgaefaaGreatDoor.Act Go.Proofs.YtmlfkbkpkgaefaaGreatDoor.Dev Go.Proofs.YtmlfkbkpkgaefaaGreatDoor.DevRow Go.Proofs.YtmlfkbkpkgaefaaGreatDoor.DevSet Go.Proofs.YtmlfkbkpkgaefaaGreatDoor.Dnl Go.Proofs.YtmlfkbkpkgaefaaGreatDoor.DnlCopy Go.Proofs.YtmlfkbkpkgaefaaGreatDoor.DnlRef Go.Proofs.YtmlfkbkpkgaefaaGreatDoor.Tic Go.Proofs.YtmlfkbkpkgaefaaGreatDoor.TicRow Go.Proofs.YtmlfkbkpkgaefaaGreatDoor.Sts Go.Proofs.YtmlfkbkpkgaefaaGreatDoor.Upl Go.Proofs.YtmlfkbkpkgaefaaGreatDoor.Sup Go.Proofs.YtmlfkbkpkgaefaaGreatDoor.Tab Go.Proofs.YtmlfkbkpkgaefaaGreatDoor.Ctl Go.Proofs.YtmlfkbkpkgaefaaGreatDoor.CtlWalk
open Go.Proofs.YtmlfkbkpkgaefaaGreatDoor.DevWalk (build_d0)
open Go.Proofs.YtmlfkbkpkgaefaaGreatDoor.DnlWalk (ne_t eq_f text_none)
open Go.Proofs.YtmlfkbkpkgaefaaGreatDoor.UplWalk (hal)

attribute [local go_sem ↓] Go.wp_at_zero Go.wp_at_succ
theorem stall_boxes (w : World) : ∃ W, (w.alloc (.cells #[.int .i64 0, .int .i64 0, .int .i64 0, .int .i64 0, .int .i64 0, .slice none 0 0] 24)).alloc (.cells #[.bool false, .bool false, .string ⟨#[]⟩] 27) = W ∧ Res W w.heap.size (.int .i64 0) (.int .i64 0) (.int .i64 0) (.int .i64 0) (.int .i64 0) (.slice none 0 0) ∧ (w.heap.size + 1 < W.heap.size ∧ W.cell? ⟨w.heap.size + 1, 0, none⟩ = some (.bool false) ∧ W.cell? ⟨w.heap.size + 1, 1, none⟩ = some (.bool false) ∧ W.cell? ⟨w.heap.size + 1, 2, none⟩ = some (.string ⟨#[]⟩) ∧ ∀ i, W.frozen? ⟨w.heap.size + 1, i, none⟩ = false) ∧ Below w.heap.size w W := by
  refine ⟨_, rfl, ?_⟩
  have h1 := resM w (.int .i64 0) (.int .i64 0) (.int .i64 0) (.int .i64 0) (.int .i64 0) (.slice none 0 0) 24
  have n1 := hal w (.cells #[.int .i64 0, .int .i64 0, .int .i64 0, .int .i64 0, .int .i64 0, .slice none 0 0] 24)
  have s1 : (w.alloc (.cells #[.int .i64 0, .int .i64 0, .int .i64 0, .int .i64 0, .int .i64 0, .slice none 0 0] 24)).heap.size = w.heap.size + 1 := by simp
  generalize w.alloc (.cells #[.int .i64 0, .int .i64 0, .int .i64 0, .int .i64 0, .int .i64 0, .slice none 0 0] 24) = W1 at *
  have h3 := SetWalk.resM W1 (.bool false) (.bool false) (.string ⟨#[]⟩) 27
  have n3 := hal W1 (.cells #[.bool false, .bool false, .string ⟨#[]⟩] 27)
  rw [s1] at h3
  exact ⟨resB h1 n3, h3, thenB n1 n3⟩
set_option maxRecDepth 100000 in
set_option maxHeartbeats 2000000 in
theorem refStall_any (w : World) : Calls Tryz.prog 30 #[] w fun r w' => r = .returned (.tuple #[.agg #[.int .i64 7, .int .i64 6, .int .i64 0, .int .i64 0, .int .i64 0, .slice none 0 0], .agg #[.bool false, .bool true, .string ⟨#[]⟩], .int .i64 0]) ∧ Below w.heap.size w w' := by
  have CF := hide (fun w => DevRef.failedRef_any 6 w)
  obtain ⟨W, hW, hR, hA, hB⟩ := stall_boxes w
  have b1 := build_p1
  subst hW
  go_enter Tryz.func30, Tryz.ntmps30
  go_wp2_with (go_at_call 46; refine (CF.out _).mono ?_; rintro e w' ⟨rfl, hb⟩; replace hB := thenB hB hb; replace hR := resB hR hb; replace hA := AnsWalk.resB hA hb; clear hb)
  exact bodyPost_ret (v := .tuple #[.agg #[.int .i64 7, .int .i64 6, .int .i64 0, .int .i64 0, .int .i64 0, .slice none 0 0], .agg #[.bool false, .bool true, .string ⟨#[]⟩], .int .i64 0]) (by simp [results, Tryz.results30, go_sem, hR, hA]) rfl ⟨rfl, AnsWalk.set3 (set6 hB (Nat.le_refl _)) (Nat.le_succ _)⟩
set_option maxRecDepth 100000 in
set_option maxHeartbeats 8000000 in
theorem ref_none (f : ByteArray) (d : FDev) (v : Value) (s t : ByteArray) (w : World) (hv : IsSt w v d.ops) (h : bothB f d = false) : Calls Tryz.prog 9 #[.string f, .agg #[.int .i64 d.sa, .int .i64 d.su, .int .i64 d.nx, .int .i64 d.gt, .int .i64 d.sl, v], .string s, .string t] w (CtlHand.Handed w newD false ⟨#[]⟩ 2100) := by
  have HD : Hid (∀ (w' : World), Below w.heap.size w w' → _) := fun w' hb => both_any f d v w' (hv.below hb)
  obtain ⟨W, hW, hX, hR, hA, hB, hs⟩ := reply_boxes w (.int .i64 d.sa) (.int .i64 d.su) (.int .i64 d.nx) (.int .i64 d.gt) (.int .i64 d.sl) v (.int .i64 0) (.int .i64 0) (.int .i64 0) (.int .i64 0) (.int .i64 0) (.slice none 0 0)
  have hs' := Nat.le_of_eq hs
  have b1 := build_d0
  have b2 := build_p0
  have hd : (mayF f && devB d) = false := h
  rw [hd] at HD
  clear hd h hs
  unfold newD
  unfold CtlHand.Handed
  obtain ⟨a, ca, rfl, _, _⟩ := hv
  subst hW
  go_enter Tryz.func9, Tryz.ntmps9
  go_wp2_with (go_at_call 28; refine (HD.out _ hB).mono ?_; rintro e w' ⟨rfl, hb⟩; replace hs' := Nat.le_trans hs' hb.size; replace hB := thenB hB hb; replace hX := resB hX hb; replace hR := resB hR hb; replace hA := AnsWalk.resB hA hb; clear hb)
  exact bodyPost_ret (v := .tuple #[.agg #[.int .i64 0, .int .i64 0, .int .i64 0, .int .i64 0, .int .i64 0, .slice none 0 0], .agg #[.bool false, .bool false, .string ⟨#[]⟩], .int .i64 2100]) (by simp [results, Tryz.results9, go_sem, hR, hA]) rfl ⟨_, rfl, own_none _ _, AnsWalk.set3 (set6 hB (Nat.le_succ _)) (by omega)⟩
set_option maxRecDepth 100000 in
set_option maxHeartbeats 8000000 in
theorem ref_noA (f : ByteArray) (d : FDev) (v : Value) (s t : ByteArray) (w : World) (hv : IsSt w v d.ops) (h : bothB f d = true) (g1 : gotB s = false) : Calls Tryz.prog 9 #[.string f, .agg #[.int .i64 d.sa, .int .i64 d.su, .int .i64 d.nx, .int .i64 d.gt, .int .i64 d.sl, v], .string s, .string t] w (CtlHand.Handed w (failedD 6) true ⟨#[]⟩ 0) := by
  have HD : Hid (∀ (w' : World), Below w.heap.size w w' → _) := fun w' hb => both_any f d v w' (hv.below hb)
  have HG := hide (fun w => SetGet.refGet_any s w)
  have HA := hide (fun w => TabRef.refAllowed_any d.sa (gc s) w)
  have HS := hide (fun w => refStall_any w)
  obtain ⟨W, hW, hX, hR, hA, hB, hs⟩ := reply_boxes w (.int .i64 d.sa) (.int .i64 d.su) (.int .i64 d.nx) (.int .i64 d.gt) (.int .i64 d.sl) v (.int .i64 0) (.int .i64 0) (.int .i64 0) (.int .i64 0) (.int .i64 0) (.slice none 0 0)
  have hs' := Nat.le_of_eq hs
  have hd : (mayF f && devB d) = true := h
  rw [hd] at HD
  clear hd h hs
  unfold failedD
  unfold CtlHand.Handed
  obtain ⟨e1, e2, e3⟩ := got_no g1
  rw [e1] at HA
  rw [e1, e2, e3, g1, show errU false = 1300 from rfl] at HG
  clear e1 e2 e3 g1
  generalize tabB d.sa 0 = A at *
  generalize Tab.errT (tokB d.sa 0) = E2 at *
  obtain ⟨a, ca, rfl, _, _⟩ := hv
  obtain ⟨sa, su, nx, gt, sl, l⟩ := d
  dsimp only at *
  subst hW
  go_enter Tryz.func9, Tryz.ntmps9
  go_upto_region 3 with (go_at_call 28; refine (HD.out _ hB).mono ?_; rintro e w' ⟨rfl, hb⟩; replace hs' := Nat.le_trans hs' hb.size; replace hB := thenB hB hb; replace hX := resB hX hb; replace hR := resB hR hb; replace hA := AnsWalk.resB hA hb; clear hb)
  clear HD
  go_wp2_with fail
  refine (HG.out _).mono ?_
  rintro e w2 ⟨rfl, hb⟩
  replace hB := thenB hB hb
  replace hX := resB hX hb
  replace hR := resB hR hb
  replace hA := AnsWalk.resB hA hb
  clear hb HG
  have hS := SetWalk.resM w2 (.int .i64 0) (.int .i64 0) (.int .i64 0) 42
  have hn := hal w2 (.cells #[.int .i64 0, .int .i64 0, .int .i64 0] 42)
  replace hB := thenB hB hn
  replace hX := resB hX hn
  replace hR := resB hR hn
  replace hA := AnsWalk.resB hA hn
  clear hn
  go_upto_region 4 with fail
  generalize w2.alloc _ = W2 at *
  generalize w2.heap.size = G2 at *
  go_wp2_with (first | (go_at_call 15; refine (HA.out _).mono ?_; rintro e w' ⟨rfl, rfl⟩) | (go_at_call 30; refine (HS.out _).mono ?_; rintro e w' ⟨rfl, hb⟩; replace hB := thenB hB hb; replace hR := resB hR hb; replace hA := AnsWalk.resB hA hb; clear hb))
  exact bodyPost_ret (v := .tuple #[.agg #[.int .i64 7, .int .i64 6, .int .i64 0, .int .i64 0, .int .i64 0, .slice none 0 0], .agg #[.bool false, .bool true, .string ⟨#[]⟩], .int .i64 0]) (by simp [results, Tryz.results9, go_sem, hR, hA]) rfl ⟨_, rfl, own_none _ _, AnsWalk.set3 (set6 hB (Nat.le_succ _)) (by omega)⟩
set_option maxRecDepth 100000 in
set_option maxHeartbeats 8000000 in
theorem ref_noB1 (f : ByteArray) (d : FDev) (v : Value) (s t : ByteArray) (w : World) (hv : IsSt w v d.ops) (h : bothB f d = true) (g1 : gotB s = true) (hc : gc s = 1) (g2 : ¬ (t.size : Int) = carI (gc s) (gn s)) : Calls Tryz.prog 9 #[.string f, .agg #[.int .i64 d.sa, .int .i64 d.su, .int .i64 d.nx, .int .i64 d.gt, .int .i64 d.sl, v], .string s, .string t] w (CtlHand.Handed w (failedD 6) true ⟨#[]⟩ 0) := by
  have HD : Hid (∀ (w' : World), Below w.heap.size w w' → _) := fun w' hb => both_any f d v w' (hv.below hb)
  have HG := hide (fun w => SetGet.refGet_any s w)
  have HA := hide (fun w => TabRef.refAllowed_any d.sa (gc s) w)
  have HS := hide (fun w => refStall_any w)
  obtain ⟨W, hW, hX, hR, hA, hB, hs⟩ := reply_boxes w (.int .i64 d.sa) (.int .i64 d.su) (.int .i64 d.nx) (.int .i64 d.gt) (.int .i64 d.sl) v (.int .i64 0) (.int .i64 0) (.int .i64 0) (.int .i64 0) (.int .i64 0) (.slice none 0 0)
  have hs' := Nat.le_of_eq hs
  have hd : (mayF f && devB d) = true := h
  rw [hd] at HD
  clear hd h hs
  unfold failedD
  unfold CtlHand.Handed
  rw [g1, hc, show errU true = 0 from rfl] at HG
  rw [hc] at HA
  have g3 := ne_t (show ¬ (t.size : Int) = gn s by rw [hc] at g2; exact g2)
  clear g1 g2 hc
  generalize tabB d.sa 1 = A at *
  generalize gv s = b at *
  generalize gn s = n at *
  generalize Tab.errT (tokB d.sa 1) = E2 at *
  obtain ⟨a, ca, rfl, _, _⟩ := hv
  obtain ⟨sa, su, nx, gt, sl, l⟩ := d
  dsimp only at *
  subst hW
  go_enter Tryz.func9, Tryz.ntmps9
  go_upto_region 3 with (go_at_call 28; refine (HD.out _ hB).mono ?_; rintro e w' ⟨rfl, hb⟩; replace hs' := Nat.le_trans hs' hb.size; replace hB := thenB hB hb; replace hX := resB hX hb; replace hR := resB hR hb; replace hA := AnsWalk.resB hA hb; clear hb)
  clear HD
  go_wp2_with fail
  refine (HG.out _).mono ?_
  rintro e w2 ⟨rfl, hb⟩
  replace hB := thenB hB hb
  replace hX := resB hX hb
  replace hR := resB hR hb
  replace hA := AnsWalk.resB hA hb
  clear hb HG
  have hS := SetWalk.resM w2 (.int .i64 1) (.int .i64 b) (.int .i64 n) 42
  have hn := hal w2 (.cells #[.int .i64 1, .int .i64 b, .int .i64 n] 42)
  replace hB := thenB hB hn
  replace hX := resB hX hn
  replace hR := resB hR hn
  replace hA := AnsWalk.resB hA hn
  clear hn
  go_upto_region 4 with fail
  generalize w2.alloc _ = W2 at *
  generalize w2.heap.size = G2 at *
  go_wp2_with (first | (go_at_call 15; refine (HA.out _).mono ?_; rintro e w' ⟨rfl, rfl⟩) | (go_at_call 30; refine (HS.out _).mono ?_; rintro e w' ⟨rfl, hb⟩; replace hB := thenB hB hb; replace hR := resB hR hb; replace hA := AnsWalk.resB hA hb; clear hb))
  exact bodyPost_ret (v := .tuple #[.agg #[.int .i64 7, .int .i64 6, .int .i64 0, .int .i64 0, .int .i64 0, .slice none 0 0], .agg #[.bool false, .bool true, .string ⟨#[]⟩], .int .i64 0]) (by simp [results, Tryz.results9, go_sem, hR, hA]) rfl ⟨_, rfl, own_none _ _, AnsWalk.set3 (set6 hB (Nat.le_succ _)) (by omega)⟩
set_option maxRecDepth 100000 in
set_option maxHeartbeats 8000000 in
theorem ref_noB2 (f : ByteArray) (d : FDev) (v : Value) (s t : ByteArray) (w : World) (hv : IsSt w v d.ops) (h : bothB f d = true) (g1 : gotB s = true) (hc : ¬ gc s = 1) (g2 : ¬ (t.size : Int) = carI (gc s) (gn s)) : Calls Tryz.prog 9 #[.string f, .agg #[.int .i64 d.sa, .int .i64 d.su, .int .i64 d.nx, .int .i64 d.gt, .int .i64 d.sl, v], .string s, .string t] w (CtlHand.Handed w (failedD 6) true ⟨#[]⟩ 0) := by
  have HD : Hid (∀ (w' : World), Below w.heap.size w w' → _) := fun w' hb => both_any f d v w' (hv.below hb)
  have HG := hide (fun w => SetGet.refGet_any s w)
  have HA := hide (fun w => TabRef.refAllowed_any d.sa (gc s) w)
  have HS := hide (fun w => refStall_any w)
  obtain ⟨W, hW, hX, hR, hA, hB, hs⟩ := reply_boxes w (.int .i64 d.sa) (.int .i64 d.su) (.int .i64 d.nx) (.int .i64 d.gt) (.int .i64 d.sl) v (.int .i64 0) (.int .i64 0) (.int .i64 0) (.int .i64 0) (.int .i64 0) (.slice none 0 0)
  have hs' := Nat.le_of_eq hs
  have hd : (mayF f && devB d) = true := h
  rw [hd] at HD
  clear hd h hs
  unfold failedD
  unfold CtlHand.Handed
  rw [g1, show errU true = 0 from rfl] at HG
  have g3 := ne_t (show ¬ (t.size : Int) = 0 by unfold carI at g2; rw [if_neg hc] at g2; exact g2)
  have h1 := eq_f hc
  clear g1 g2 hc
  generalize gc s = c at *
  generalize tabB d.sa c = A at *
  generalize gv s = b at *
  generalize gn s = n at *
  generalize Tab.errT (tokB d.sa c) = E2 at *
  obtain ⟨a, ca, rfl, _, _⟩ := hv
  obtain ⟨sa, su, nx, gt, sl, l⟩ := d
  dsimp only at *
  subst hW
  go_enter Tryz.func9, Tryz.ntmps9
  go_upto_region 3 with (go_at_call 28; refine (HD.out _ hB).mono ?_; rintro e w' ⟨rfl, hb⟩; replace hs' := Nat.le_trans hs' hb.size; replace hB := thenB hB hb; replace hX := resB hX hb; replace hR := resB hR hb; replace hA := AnsWalk.resB hA hb; clear hb)
  clear HD
  go_wp2_with fail
  refine (HG.out _).mono ?_
  rintro e w2 ⟨rfl, hb⟩
  replace hB := thenB hB hb
  replace hX := resB hX hb
  replace hR := resB hR hb
  replace hA := AnsWalk.resB hA hb
  clear hb HG
  have hS := SetWalk.resM w2 (.int .i64 c) (.int .i64 b) (.int .i64 n) 42
  have hn := hal w2 (.cells #[.int .i64 c, .int .i64 b, .int .i64 n] 42)
  replace hB := thenB hB hn
  replace hX := resB hX hn
  replace hR := resB hR hn
  replace hA := AnsWalk.resB hA hn
  clear hn
  go_upto_region 4 with fail
  generalize w2.alloc _ = W2 at *
  generalize w2.heap.size = G2 at *
  go_wp2_with (first | (go_at_call 15; refine (HA.out _).mono ?_; rintro e w' ⟨rfl, rfl⟩) | (go_at_call 30; refine (HS.out _).mono ?_; rintro e w' ⟨rfl, hb⟩; replace hB := thenB hB hb; replace hR := resB hR hb; replace hA := AnsWalk.resB hA hb; clear hb))
  exact bodyPost_ret (v := .tuple #[.agg #[.int .i64 7, .int .i64 6, .int .i64 0, .int .i64 0, .int .i64 0, .slice none 0 0], .agg #[.bool false, .bool true, .string ⟨#[]⟩], .int .i64 0]) (by simp [results, Tryz.results9, go_sem, hR, hA]) rfl ⟨_, rfl, own_none _ _, AnsWalk.set3 (set6 hB (Nat.le_succ _)) (by omega)⟩
set_option maxRecDepth 100000 in
set_option maxHeartbeats 8000000 in
theorem ref_noC1 (f : ByteArray) (d : FDev) (v : Value) (s t : ByteArray) (w : World) (hv : IsSt w v d.ops) (h : bothB f d = true) (g1 : gotB s = true) (hc : gc s = 1) (g2 : (t.size : Int) = carI (gc s) (gn s)) (g3 : tabB d.sa (gc s) = false) : Calls Tryz.prog 9 #[.string f, .agg #[.int .i64 d.sa, .int .i64 d.su, .int .i64 d.nx, .int .i64 d.gt, .int .i64 d.sl, v], .string s, .string t] w (CtlHand.Handed w (failedD 6) true ⟨#[]⟩ 0) := by
  have HD : Hid (∀ (w' : World), Below w.heap.size w w' → _) := fun w' hb => both_any f d v w' (hv.below hb)
  have HG := hide (fun w => SetGet.refGet_any s w)
  have HA := hide (fun w => TabRef.refAllowed_any d.sa (gc s) w)
  have HS := hide (fun w => refStall_any w)
  obtain ⟨W, hW, hX, hR, hA, hB, hs⟩ := reply_boxes w (.int .i64 d.sa) (.int .i64 d.su) (.int .i64 d.nx) (.int .i64 d.gt) (.int .i64 d.sl) v (.int .i64 0) (.int .i64 0) (.int .i64 0) (.int .i64 0) (.int .i64 0) (.slice none 0 0)
  have hs' := Nat.le_of_eq hs
  have hd : (mayF f && devB d) = true := h
  rw [hd] at HD
  clear hd h hs
  unfold failedD
  unfold CtlHand.Handed
  have g4 : (t.size : Int) = gn s := by rw [hc] at g2; exact g2
  rw [g1, hc, show errU true = 0 from rfl, ← g4] at HG
  rw [g3, hc] at HA
  have g5 : ((t.size : Int) != (t.size : Int)) = false := bne_self_eq_false _
  clear g1 g2 g3 g4 hc
  generalize gv s = b at *
  generalize Tab.errT (tokB d.sa 1) = E2 at *
  obtain ⟨a, ca, rfl, _, _⟩ := hv
  obtain ⟨sa, su, nx, gt, sl, l⟩ := d
  dsimp only at *
  subst hW
  go_enter Tryz.func9, Tryz.ntmps9
  go_upto_region 3 with (go_at_call 28; refine (HD.out _ hB).mono ?_; rintro e w' ⟨rfl, hb⟩; replace hs' := Nat.le_trans hs' hb.size; replace hB := thenB hB hb; replace hX := resB hX hb; replace hR := resB hR hb; replace hA := AnsWalk.resB hA hb; clear hb)
  clear HD
  go_wp2_with fail
  refine (HG.out _).mono ?_
  rintro e w2 ⟨rfl, hb⟩
  replace hB := thenB hB hb
  replace hX := resB hX hb
  replace hR := resB hR hb
  replace hA := AnsWalk.resB hA hb
  clear hb HG
  have hS := SetWalk.resM w2 (.int .i64 1) (.int .i64 b) (.int .i64 (t.size : Int)) 42
  have hn := hal w2 (.cells #[.int .i64 1, .int .i64 b, .int .i64 (t.size : Int)] 42)
  replace hB := thenB hB hn
  replace hX := resB hX hn
  replace hR := resB hR hn
  replace hA := AnsWalk.resB hA hn
  clear hn
  go_upto_region 4 with fail
  generalize w2.alloc _ = W2 at *
  generalize w2.heap.size = G2 at *
  go_wp2_with (first | (go_at_call 15; refine (HA.out _).mono ?_; rintro e w' ⟨rfl, rfl⟩) | (go_at_call 30; refine (HS.out _).mono ?_; rintro e w' ⟨rfl, hb⟩; replace hB := thenB hB hb; replace hR := resB hR hb; replace hA := AnsWalk.resB hA hb; clear hb))
  exact bodyPost_ret (v := .tuple #[.agg #[.int .i64 7, .int .i64 6, .int .i64 0, .int .i64 0, .int .i64 0, .slice none 0 0], .agg #[.bool false, .bool true, .string ⟨#[]⟩], .int .i64 0]) (by simp [results, Tryz.results9, go_sem, hR, hA]) rfl ⟨_, rfl, own_none _ _, AnsWalk.set3 (set6 hB (Nat.le_succ _)) (by omega)⟩
set_option maxRecDepth 100000 in
set_option maxHeartbeats 8000000 in
theorem ref_noC2 (f : ByteArray) (d : FDev) (v : Value) (s t : ByteArray) (w : World) (hv : IsSt w v d.ops) (h : bothB f d = true) (g1 : gotB s = true) (hc : ¬ gc s = 1) (g2 : (t.size : Int) = carI (gc s) (gn s)) (g3 : tabB d.sa (gc s) = false) : Calls Tryz.prog 9 #[.string f, .agg #[.int .i64 d.sa, .int .i64 d.su, .int .i64 d.nx, .int .i64 d.gt, .int .i64 d.sl, v], .string s, .string t] w (CtlHand.Handed w (failedD 6) true ⟨#[]⟩ 0) := by
  have HD : Hid (∀ (w' : World), Below w.heap.size w w' → _) := fun w' hb => both_any f d v w' (hv.below hb)
  have HG := hide (fun w => SetGet.refGet_any s w)
  have HA := hide (fun w => TabRef.refAllowed_any d.sa (gc s) w)
  have HS := hide (fun w => refStall_any w)
  obtain ⟨W, hW, hX, hR, hA, hB, hs⟩ := reply_boxes w (.int .i64 d.sa) (.int .i64 d.su) (.int .i64 d.nx) (.int .i64 d.gt) (.int .i64 d.sl) v (.int .i64 0) (.int .i64 0) (.int .i64 0) (.int .i64 0) (.int .i64 0) (.slice none 0 0)
  have hs' := Nat.le_of_eq hs
  have hd : (mayF f && devB d) = true := h
  rw [hd] at HD
  clear hd h hs
  unfold failedD
  unfold CtlHand.Handed
  obtain rfl : t = ⟨#[]⟩ := text_none (by unfold carI at g2; rw [if_neg hc] at g2; omega)
  rw [g1, show errU true = 0 from rfl] at HG
  rw [g3] at HA
  have h1 := eq_f hc
  clear g1 g2 g3 hc
  generalize gc s = c at *
  generalize gv s = b at *
  generalize gn s = n at *
  generalize Tab.errT (tokB d.sa c) = E2 at *
  obtain ⟨a, ca, rfl, _, _⟩ := hv
  obtain ⟨sa, su, nx, gt, sl, l⟩ := d
  dsimp only at *
  subst hW
  go_enter Tryz.func9, Tryz.ntmps9
  go_upto_region 3 with (go_at_call 28; refine (HD.out _ hB).mono ?_; rintro e w' ⟨rfl, hb⟩; replace hs' := Nat.le_trans hs' hb.size; replace hB := thenB hB hb; replace hX := resB hX hb; replace hR := resB hR hb; replace hA := AnsWalk.resB hA hb; clear hb)
  clear HD
  go_wp2_with fail
  refine (HG.out _).mono ?_
  rintro e w2 ⟨rfl, hb⟩
  replace hB := thenB hB hb
  replace hX := resB hX hb
  replace hR := resB hR hb
  replace hA := AnsWalk.resB hA hb
  clear hb HG
  have hS := SetWalk.resM w2 (.int .i64 c) (.int .i64 b) (.int .i64 n) 42
  have hn := hal w2 (.cells #[.int .i64 c, .int .i64 b, .int .i64 n] 42)
  replace hB := thenB hB hn
  replace hX := resB hX hn
  replace hR := resB hR hn
  replace hA := AnsWalk.resB hA hn
  clear hn
  go_upto_region 4 with fail
  generalize w2.alloc _ = W2 at *
  generalize w2.heap.size = G2 at *
  go_wp2_with (first | (go_at_call 15; refine (HA.out _).mono ?_; rintro e w' ⟨rfl, rfl⟩) | (go_at_call 30; refine (HS.out _).mono ?_; rintro e w' ⟨rfl, hb⟩; replace hB := thenB hB hb; replace hR := resB hR hb; replace hA := AnsWalk.resB hA hb; clear hb))
  exact bodyPost_ret (v := .tuple #[.agg #[.int .i64 7, .int .i64 6, .int .i64 0, .int .i64 0, .int .i64 0, .slice none 0 0], .agg #[.bool false, .bool true, .string ⟨#[]⟩], .int .i64 0]) (by simp [results, Tryz.results9, go_sem, hR, hA]) rfl ⟨_, rfl, own_none _ _, AnsWalk.set3 (set6 hB (Nat.le_succ _)) (by omega)⟩
set_option maxRecDepth 100000 in
set_option maxHeartbeats 8000000 in
theorem ref_1 (f : ByteArray) (d : FDev) (v : Value) (s t : ByteArray) (w : World) (hv : IsSt w v d.ops) (h : bothB f d = true) (g1 : gotB s = true) (g2 : (t.size : Int) = carI (gc s) (gn s)) (g3 : tabB d.sa (gc s) = true) (hc : gc s = 1) : Calls Tryz.prog 9 #[.string f, .agg #[.int .i64 d.sa, .int .i64 d.su, .int .i64 d.nx, .int .i64 d.gt, .int .i64 d.sl, v], .string s, .string t] w (CtlHand.Handed w (takeD f d (gv s) t) (stallB d (takeD f d (gv s) t)) (textS (stallB d (takeD f d (gv s) t)) (⟨#[]⟩)) 0) := by
  have HD : Hid (∀ (w' : World), Below w.heap.size w w' → _) := fun w' hb => both_any f d v w' (hv.below hb)
  have HG := hide (fun w => SetGet.refGet_any s w)
  have HA := hide (fun w => TabRef.refAllowed_any d.sa (gc s) w)
  have HN := hide (fun w => DevRef.newRef_any w)
  have HC : Hid (∀ (w' : World), Below w.heap.size w w' → _) := fun w' hb => DnlDoc.refTake_any f d v (gv s) t w' (hv.below hb)
  unfold DnlWalk.Gave at HC
  obtain ⟨W, hW, hX, hR, hA, hB, hs⟩ := reply_boxes w (.int .i64 d.sa) (.int .i64 d.su) (.int .i64 d.nx) (.int .i64 d.gt) (.int .i64 d.sl) v (.int .i64 0) (.int .i64 0) (.int .i64 0) (.int .i64 0) (.int .i64 0) (.slice none 0 0)
  have hs' := Nat.le_of_eq hs
  have hd : (mayF f && devB d) = true := h
  rw [hd] at HD
  rw [g3, hc] at HA
  have g4 : (t.size : Int) = gn s := by rw [hc] at g2; exact g2
  rw [g1, hc, show errU true = 0 from rfl, ← g4] at HG
  have g5 : ((t.size : Int) != (t.size : Int)) = false := bne_self_eq_false _
  clear hd h hs g1 g2 g3 hc g4
  have b1 := build_p1
  have b2 := build_p2
  unfold CtlHand.Handed
  generalize Tab.errT (tokB d.sa 1) = E2 at *
  generalize gv s = b at *
  generalize takeD f d b t = D at *
  generalize errL (okB f d b t) = E at *
  have HST : Hid ((D.sa = 7 ∧ d.sa = 7 ∧ stallB d D = false) ∨ (D.sa = 7 ∧ ¬ d.sa = 7 ∧ stallB d D = true) ∨ (¬ D.sa = 7 ∧ stallB d D = false)) := by
    show _ ∨ _ ∨ _
    unfold stallB
    by_cases h1 : D.sa = 7
    · by_cases h2 : d.sa = 7
      · exact .inl ⟨h1, h2, decide_eq_false (fun x => x.2 h2)⟩
      · exact .inr (.inl ⟨h1, h2, decide_eq_true ⟨h1, h2⟩⟩)
    · exact .inr (.inr ⟨h1, decide_eq_false (fun x => h1 x.1)⟩)
  generalize stallB d D = ST at *
  obtain ⟨a, ca, rfl, _, _⟩ := hv
  obtain ⟨sa, su, nx, gt, sl, l⟩ := d
  obtain ⟨xa, xu, xn, xg, xl, xo⟩ := D
  dsimp only at *
  subst hW
  go_enter Tryz.func9, Tryz.ntmps9
  go_upto_region 3 with (go_at_call 28; refine (HD.out _ hB).mono ?_; rintro e w' ⟨rfl, hb⟩; replace hs' := Nat.le_trans hs' hb.size; replace hB := thenB hB hb; replace hX := resB hX hb; replace hR := resB hR hb; replace hA := AnsWalk.resB hA hb; clear hb)
  clear HD
  go_wp2_with fail
  refine (HG.out _).mono ?_
  rintro e w2 ⟨rfl, hb⟩
  replace hs' := Nat.le_trans hs' hb.size
  replace hB := thenB hB hb
  replace hX := resB hX hb
  replace hR := resB hR hb
  replace hA := AnsWalk.resB hA hb
  clear hb HG
  have hS := SetWalk.resM w2 (.int .i64 1) (.int .i64 b) (.int .i64 (t.size : Int)) 42
  have hn := hal w2 (.cells #[.int .i64 1, .int .i64 b, .int .i64 (t.size : Int)] 42)
  replace hs' := Nat.le_trans hs' hn.size
  replace hB := thenB hB hn
  replace hX := resB hX hn
  replace hR := resB hR hn
  replace hA := AnsWalk.resB hA hn
  clear hn
  go_upto_region 4 with fail
  generalize w2.alloc _ = W2 at *
  generalize w2.heap.size = G2 at *
  go_upto_region 10 with (go_at_call 15; refine (HA.out _).mono ?_; rintro e w3 ⟨rfl, rfl⟩)
  clear HA
  go_wp2_with fail
  refine (HN.out _).mono ?_
  rintro e w4 ⟨rfl, hb⟩
  replace hs' := Nat.le_trans hs' hb.size
  replace hB := thenB hB hb
  replace hX := resB hX hb
  replace hR := resB hR hb
  replace hA := AnsWalk.resB hA hb
  replace hS := SetWalk.resB hS hb
  clear hb HN
  have hG := resM w4 (.int .i64 0) (.int .i64 0) (.int .i64 0) (.int .i64 0) (.int .i64 0) (.slice none 0 0) 24
  have hn := hal w4 (.cells #[.int .i64 0, .int .i64 0, .int .i64 0, .int .i64 0, .int .i64 0, .slice none 0 0] 24)
  have hz := hs'
  replace hs' := Nat.le_trans hs' hn.size
  replace hB := thenB hB hn
  replace hX := resB hX hn
  replace hR := resB hR hn
  replace hA := AnsWalk.resB hA hn
  replace hS := SetWalk.resB hS hn
  clear hn
  go_upto_region 11 with fail
  generalize w4.alloc _ = W4 at *
  generalize w4.heap.size = G4 at *
  go_upto_region 13 with fail
  go_wp2_with fail
  refine (HC.out _ hB).mono ?_
  rintro e w5 ⟨u, rfl, hown, hb⟩
  obtain ⟨a', c', rfl⟩ := owns_form hown
  have hO := own_of hown
  have hGl := hG.1
  have hz2 := hs'
  replace hB := thenB hB hb
  replace hX := resB hX hb
  replace hR := resB hR hb
  replace hA := AnsWalk.resB hA hb
  replace hS := SetWalk.resB hS hb
  replace hG := resB hG hb
  clear hb HC hS hown
  have HB := hide hB
  have HR := hide hR
  have HX := hide hX
  have HAA := hide hA
  clear hB hR hX hA
  go_upto_region 23 with fail
  replace hG := res6 hG (.int .i64 xa) (.int .i64 xu) (.int .i64 xn) (.int .i64 xg) (.int .i64 xl) (.slice a' xo.length c')
  have hX := resO6 HX.out (show G4 ≠ w.heap.size by omega) (.int .i64 xa) (.int .i64 xu) (.int .i64 xn) (.int .i64 xg) (.int .i64 xl) (.slice a' xo.length c')
  have hR := resO6 HR.out (show G4 ≠ w.heap.size + 1 by omega) (.int .i64 xa) (.int .i64 xu) (.int .i64 xn) (.int .i64 xg) (.int .i64 xl) (.slice a' xo.length c')
  have hA := StsGet.ansO6 HAA.out (show G4 ≠ w.heap.size + 1 + 1 by omega) (.int .i64 xa) (.int .i64 xu) (.int .i64 xn) (.int .i64 xg) (.int .i64 xl) (.slice a' xo.length c')
  have hB := set6 (x0 := .int .i64 xa) (x1 := .int .i64 xu) (x2 := .int .i64 xn) (x3 := .int .i64 xg) (x4 := .int .i64 xl) (x5 := .slice a' xo.length c') HB.out (show w.heap.size ≤ G4 by omega)
  replace hO := (hO.set6 hGl (.int .i64 xa) (.int .i64 xu) (.int .i64 xn) (.int .i64 xg) (.int .i64 xl) (.slice a' xo.length c')).mono hz2
  clear HB HR HX HAA
  generalize (((((w5.setCell _ _).setCell _ _).setCell _ _).setCell _ _).setCell _ _).setCell _ _ = W6 at *
  rcases HST.out with ⟨rfl, rfl, rfl⟩ | ⟨rfl, h1, rfl⟩ | ⟨h1, rfl⟩
  · clear HST
    go_wp2_with fail
    exact bodyPost_ret (v := .tuple #[.agg #[.int .i64 7, .int .i64 xu, .int .i64 xn, .int .i64 xg, .int .i64 xl, .slice a' xo.length c'], .agg #[.bool false, .bool false, .string ⟨#[]⟩], .int .i64 0]) (by simp [results, Tryz.results9, go_sem, hR, hA]) rfl ⟨_, rfl, ((((hO.set6 (Nat.lt_succ_of_lt (Nat.lt_succ_self _)) _ _ _ _ _ _).set (Nat.lt_succ_self _) 0 _).set (Nat.lt_succ_self _) 1 _).set (Nat.lt_succ_self _) 2 _).mono (by omega), AnsWalk.set3 (set6 hB (Nat.le_succ _)) (by omega)⟩
  · clear HST
    go_wp2_with fail
    exact bodyPost_ret (v := .tuple #[.agg #[.int .i64 7, .int .i64 xu, .int .i64 xn, .int .i64 xg, .int .i64 xl, .slice a' xo.length c'], .agg #[.bool false, .bool true, .string ⟨#[]⟩], .int .i64 0]) (by simp [results, Tryz.results9, go_sem, hR, hA]) rfl ⟨_, rfl, ((((hO.set6 (Nat.lt_succ_of_lt (Nat.lt_succ_self _)) _ _ _ _ _ _).set (Nat.lt_succ_self _) 0 _).set (Nat.lt_succ_self _) 1 _).set (Nat.lt_succ_self _) 2 _).mono (by omega), AnsWalk.set3 (set6 hB (Nat.le_succ _)) (by omega)⟩
  · clear HST
    go_wp2_with fail
    exact bodyPost_ret (v := .tuple #[.agg #[.int .i64 xa, .int .i64 xu, .int .i64 xn, .int .i64 xg, .int .i64 xl, .slice a' xo.length c'], .agg #[.bool false, .bool false, .string ⟨#[]⟩], .int .i64 0]) (by simp [results, Tryz.results9, go_sem, hR, hA]) rfl ⟨_, rfl, ((((hO.set6 (Nat.lt_succ_of_lt (Nat.lt_succ_self _)) _ _ _ _ _ _).set (Nat.lt_succ_self _) 0 _).set (Nat.lt_succ_self _) 1 _).set (Nat.lt_succ_self _) 2 _).mono (by omega), AnsWalk.set3 (set6 hB (Nat.le_succ _)) (by omega)⟩
set_option maxRecDepth 100000 in
set_option maxHeartbeats 8000000 in
theorem ref_2 (f : ByteArray) (d : FDev) (v : Value) (s t : ByteArray) (w : World) (hv : IsSt w v d.ops) (h : bothB f d = true) (g1 : gotB s = true) (g2 : (t.size : Int) = carI (gc s) (gn s)) (g3 : tabB d.sa (gc s) = true) (hc : gc s = 2) : Calls Tryz.prog 9 #[.string f, .agg #[.int .i64 d.sa, .int .i64 d.su, .int .i64 d.nx, .int .i64 d.gt, .int .i64 d.sl, v], .string s, .string t] w (CtlHand.Handed w (giveD f d (gv s) (gn s)) (stallB d (giveD f d (gv s) (gn s))) (textS (stallB d (giveD f d (gv s) (gn s))) (giveS f d (gv s) (gn s))) 0) := by
  have HD : Hid (∀ (w' : World), Below w.heap.size w w' → _) := fun w' hb => both_any f d v w' (hv.below hb)
  have HG := hide (fun w => SetGet.refGet_any s w)
  have HA := hide (fun w => TabRef.refAllowed_any d.sa (gc s) w)
  have HN := hide (fun w => DevRef.newRef_any w)
  have HC : Hid (∀ (w' : World), Below w.heap.size w w' → _) := fun w' hb => UplRef.refUpload_own f d v (gv s) (gn s) w' (hv.below hb)
  unfold UplRef.RefOwn at HC
  obtain ⟨W, hW, hX, hR, hA, hB, hs⟩ := reply_boxes w (.int .i64 d.sa) (.int .i64 d.su) (.int .i64 d.nx) (.int .i64 d.gt) (.int .i64 d.sl) v (.int .i64 0) (.int .i64 0) (.int .i64 0) (.int .i64 0) (.int .i64 0) (.slice none 0 0)
  have hs' := Nat.le_of_eq hs
  have hd : (mayF f && devB d) = true := h
  rw [hd] at HD
  rw [g3, hc] at HA
  obtain rfl : t = ⟨#[]⟩ := text_none (by rw [hc] at g2; have : (t.size : Int) = 0 := g2; omega)
  rw [g1, hc, show errU true = 0 from rfl] at HG
  clear hd h hs g1 g2 g3 hc
  have b1 := build_p1
  have b2 := build_p2
  unfold CtlHand.Handed
  generalize Tab.errT (tokB d.sa 2) = E2 at *
  generalize gv s = b at *
  generalize gn s = n at *
  generalize giveD f d b n = D at *
  generalize giveS f d b n = S at *
  generalize errV (okU f d b n) = E at *
  have HST : Hid ((D.sa = 7 ∧ d.sa = 7 ∧ stallB d D = false) ∨ (D.sa = 7 ∧ ¬ d.sa = 7 ∧ stallB d D = true) ∨ (¬ D.sa = 7 ∧ stallB d D = false)) := by
    show _ ∨ _ ∨ _
    unfold stallB
    by_cases h1 : D.sa = 7
    · by_cases h2 : d.sa = 7
      · exact .inl ⟨h1, h2, decide_eq_false (fun x => x.2 h2)⟩
      · exact .inr (.inl ⟨h1, h2, decide_eq_true ⟨h1, h2⟩⟩)
    · exact .inr (.inr ⟨h1, decide_eq_false (fun x => h1 x.1)⟩)
  generalize stallB d D = ST at *
  obtain ⟨a, ca, rfl, _, _⟩ := hv
  obtain ⟨sa, su, nx, gt, sl, l⟩ := d
  obtain ⟨xa, xu, xn, xg, xl, xo⟩ := D
  dsimp only at *
  subst hW
  go_enter Tryz.func9, Tryz.ntmps9
  go_upto_region 3 with (go_at_call 28; refine (HD.out _ hB).mono ?_; rintro e w' ⟨rfl, hb⟩; replace hs' := Nat.le_trans hs' hb.size; replace hB := thenB hB hb; replace hX := resB hX hb; replace hR := resB hR hb; replace hA := AnsWalk.resB hA hb; clear hb)
  clear HD
  go_wp2_with fail
  refine (HG.out _).mono ?_
  rintro e w2 ⟨rfl, hb⟩
  replace hs' := Nat.le_trans hs' hb.size
  replace hB := thenB hB hb
  replace hX := resB hX hb
  replace hR := resB hR hb
  replace hA := AnsWalk.resB hA hb
  clear hb HG
  have hS := SetWalk.resM w2 (.int .i64 2) (.int .i64 b) (.int .i64 n) 42
  have hn := hal w2 (.cells #[.int .i64 2, .int .i64 b, .int .i64 n] 42)
  replace hs' := Nat.le_trans hs' hn.size
  replace hB := thenB hB hn
  replace hX := resB hX hn
  replace hR := resB hR hn
  replace hA := AnsWalk.resB hA hn
  clear hn
  go_upto_region 4 with fail
  generalize w2.alloc _ = W2 at *
  generalize w2.heap.size = G2 at *
  go_upto_region 10 with (go_at_call 15; refine (HA.out _).mono ?_; rintro e w3 ⟨rfl, rfl⟩)
  clear HA
  go_wp2_with fail
  refine (HN.out _).mono ?_
  rintro e w4 ⟨rfl, hb⟩
  replace hs' := Nat.le_trans hs' hb.size
  replace hB := thenB hB hb
  replace hX := resB hX hb
  replace hR := resB hR hb
  replace hA := AnsWalk.resB hA hb
  replace hS := SetWalk.resB hS hb
  clear hb HN
  have hG := resM w4 (.int .i64 0) (.int .i64 0) (.int .i64 0) (.int .i64 0) (.int .i64 0) (.slice none 0 0) 24
  have hn := hal w4 (.cells #[.int .i64 0, .int .i64 0, .int .i64 0, .int .i64 0, .int .i64 0, .slice none 0 0] 24)
  have hz := hs'
  replace hs' := Nat.le_trans hs' hn.size
  replace hB := thenB hB hn
  replace hX := resB hX hn
  replace hR := resB hR hn
  replace hA := AnsWalk.resB hA hn
  replace hS := SetWalk.resB hS hn
  clear hn
  go_upto_region 11 with fail
  generalize w4.alloc _ = W4 at *
  generalize w4.heap.size = G4 at *
  go_upto_region 15 with fail
  go_wp2_with fail
  refine (HC.out _ hB).mono ?_
  rintro e w5 ⟨u, rfl, hO, hb⟩
  obtain ⟨a', c', rfl⟩ := hO.form
  have hGl := hG.1
  have hz2 := hs'
  replace hB := thenB hB hb
  replace hX := resB hX hb
  replace hR := resB hR hb
  replace hA := AnsWalk.resB hA hb
  replace hS := SetWalk.resB hS hb
  replace hG := resB hG hb
  clear hb HC hS
  have HB := hide hB
  have HR := hide hR
  have HX := hide hX
  have HAA := hide hA
  clear hB hR hX hA
  go_upto_region 23 with fail
  replace hG := res6 hG (.int .i64 xa) (.int .i64 xu) (.int .i64 xn) (.int .i64 xg) (.int .i64 xl) (.slice a' xo.length c')
  have hX := resO6 HX.out (show G4 ≠ w.heap.size by omega) (.int .i64 xa) (.int .i64 xu) (.int .i64 xn) (.int .i64 xg) (.int .i64 xl) (.slice a' xo.length c')
  have hR := resO6 HR.out (show G4 ≠ w.heap.size + 1 by omega) (.int .i64 xa) (.int .i64 xu) (.int .i64 xn) (.int .i64 xg) (.int .i64 xl) (.slice a' xo.length c')
  have hA := StsGet.ansO6 HAA.out (show G4 ≠ w.heap.size + 1 + 1 by omega) (.int .i64 xa) (.int .i64 xu) (.int .i64 xn) (.int .i64 xg) (.int .i64 xl) (.slice a' xo.length c')
  have hB := set6 (x0 := .int .i64 xa) (x1 := .int .i64 xu) (x2 := .int .i64 xn) (x3 := .int .i64 xg) (x4 := .int .i64 xl) (x5 := .slice a' xo.length c') HB.out (show w.heap.size ≤ G4 by omega)
  replace hO := (hO.set6 hGl (.int .i64 xa) (.int .i64 xu) (.int .i64 xn) (.int .i64 xg) (.int .i64 xl) (.slice a' xo.length c')).mono hz2
  clear HB HR HX HAA
  generalize (((((w5.setCell _ _).setCell _ _).setCell _ _).setCell _ _).setCell _ _).setCell _ _ = W6 at *
  rcases HST.out with ⟨rfl, rfl, rfl⟩ | ⟨rfl, h1, rfl⟩ | ⟨h1, rfl⟩
  · clear HST
    go_wp2_with fail
    exact bodyPost_ret (v := .tuple #[.agg #[.int .i64 7, .int .i64 xu, .int .i64 xn, .int .i64 xg, .int .i64 xl, .slice a' xo.length c'], .agg #[.bool false, .bool false, .string S], .int .i64 0]) (by simp [results, Tryz.results9, go_sem, hR, hA]) rfl ⟨_, rfl, ((((hO.set6 (Nat.lt_succ_of_lt (Nat.lt_succ_self _)) _ _ _ _ _ _).set (Nat.lt_succ_self _) 0 _).set (Nat.lt_succ_self _) 1 _).set (Nat.lt_succ_self _) 2 _).mono (by omega), AnsWalk.set3 (set6 hB (Nat.le_succ _)) (by omega)⟩
  · clear HST
    go_wp2_with fail
    exact bodyPost_ret (v := .tuple #[.agg #[.int .i64 7, .int .i64 xu, .int .i64 xn, .int .i64 xg, .int .i64 xl, .slice a' xo.length c'], .agg #[.bool false, .bool true, .string ⟨#[]⟩], .int .i64 0]) (by simp [results, Tryz.results9, go_sem, hR, hA]) rfl ⟨_, rfl, ((((hO.set6 (Nat.lt_succ_of_lt (Nat.lt_succ_self _)) _ _ _ _ _ _).set (Nat.lt_succ_self _) 0 _).set (Nat.lt_succ_self _) 1 _).set (Nat.lt_succ_self _) 2 _).mono (by omega), AnsWalk.set3 (set6 hB (Nat.le_succ _)) (by omega)⟩
  · clear HST
    go_wp2_with fail
    exact bodyPost_ret (v := .tuple #[.agg #[.int .i64 xa, .int .i64 xu, .int .i64 xn, .int .i64 xg, .int .i64 xl, .slice a' xo.length c'], .agg #[.bool false, .bool false, .string S], .int .i64 0]) (by simp [results, Tryz.results9, go_sem, hR, hA]) rfl ⟨_, rfl, ((((hO.set6 (Nat.lt_succ_of_lt (Nat.lt_succ_self _)) _ _ _ _ _ _).set (Nat.lt_succ_self _) 0 _).set (Nat.lt_succ_self _) 1 _).set (Nat.lt_succ_self _) 2 _).mono (by omega), AnsWalk.set3 (set6 hB (Nat.le_succ _)) (by omega)⟩
set_option maxRecDepth 100000 in
set_option maxHeartbeats 8000000 in
theorem ref_3 (f : ByteArray) (d : FDev) (v : Value) (s t : ByteArray) (w : World) (hv : IsSt w v d.ops) (h : bothB f d = true) (g1 : gotB s = true) (g2 : (t.size : Int) = carI (gc s) (gn s)) (g3 : tabB d.sa (gc s) = true) (hc : gc s = 3) : Calls Tryz.prog 9 #[.string f, .agg #[.int .i64 d.sa, .int .i64 d.su, .int .i64 d.nx, .int .i64 d.gt, .int .i64 d.sl, v], .string s, .string t] w (CtlHand.Handed w (getD f d) (stallB d (getD f d)) (textS (stallB d (getD f d)) (Ans.ansS (getD f d).su (tkI (getD f d)) (getD f d).sa)) 0) := by
  have HD : Hid (∀ (w' : World), Below w.heap.size w w' → _) := fun w' hb => both_any f d v w' (hv.below hb)
  have HG := hide (fun w => SetGet.refGet_any s w)
  have HA := hide (fun w => TabRef.refAllowed_any d.sa (gc s) w)
  have HN := hide (fun w => DevRef.newRef_any w)
  have HC : Hid (∀ (w' : World), Below w.heap.size w w' → _) := fun w' hb => StsRef.refGet_own f d v w' (hv.below hb)
  unfold StsRef.RefOwn at HC
  have HP := hide (fun w => AnsRef.refPut_any (getD f d).su (tkI (getD f d)) (getD f d).sa w)
  obtain ⟨W, hW, hX, hR, hA, hB, hs⟩ := reply_boxes w (.int .i64 d.sa) (.int .i64 d.su) (.int .i64 d.nx) (.int .i64 d.gt) (.int .i64 d.sl) v (.int .i64 0) (.int .i64 0) (.int .i64 0) (.int .i64 0) (.int .i64 0) (.slice none 0 0)
  have hs' := Nat.le_of_eq hs
  have hd : (mayF f && devB d) = true := h
  rw [hd] at HD
  rw [g3, hc] at HA
  obtain rfl : t = ⟨#[]⟩ := text_none (by rw [hc] at g2; have : (t.size : Int) = 0 := g2; omega)
  rw [g1, hc, show errU true = 0 from rfl] at HG
  clear hd h hs g1 g2 g3 hc
  have b1 := build_p1
  have b2 := build_p2
  unfold CtlHand.Handed
  generalize Tab.errT (tokB d.sa 3) = E2 at *
  generalize gv s = b at *
  generalize gn s = n at *
  generalize Ans.ansS (getD f d).su (tkI (getD f d)) (getD f d).sa = S at *
  generalize Ans.errW (Ans.ansB (getD f d).su (tkI (getD f d)) (getD f d).sa) = E3 at *
  generalize tkI (getD f d) = K at *
  generalize getD f d = D at *
  generalize Sts.errT (bothB f d) = E at *
  have HST : Hid ((D.sa = 7 ∧ d.sa = 7 ∧ stallB d D = false) ∨ (D.sa = 7 ∧ ¬ d.sa = 7 ∧ stallB d D = true) ∨ (¬ D.sa = 7 ∧ stallB d D = false)) := by
    show _ ∨ _ ∨ _
    unfold stallB
    by_cases h1 : D.sa = 7
    · by_cases h2 : d.sa = 7
      · exact .inl ⟨h1, h2, decide_eq_false (fun x => x.2 h2)⟩
      · exact .inr (.inl ⟨h1, h2, decide_eq_true ⟨h1, h2⟩⟩)
    · exact .inr (.inr ⟨h1, decide_eq_false (fun x => h1 x.1)⟩)
  generalize stallB d D = ST at *
  obtain ⟨a, ca, rfl, _, _⟩ := hv
  obtain ⟨sa, su, nx, gt, sl, l⟩ := d
  obtain ⟨xa, xu, xn, xg, xl, xo⟩ := D
  dsimp only at *
  subst hW
  go_enter Tryz.func9, Tryz.ntmps9
  go_upto_region 3 with (go_at_call 28; refine (HD.out _ hB).mono ?_; rintro e w' ⟨rfl, hb⟩; replace hs' := Nat.le_trans hs' hb.size; replace hB := thenB hB hb; replace hX := resB hX hb; replace hR := resB hR hb; replace hA := AnsWalk.resB hA hb; clear hb)
  clear HD
  go_wp2_with fail
  refine (HG.out _).mono ?_
  rintro e w2 ⟨rfl, hb⟩
  replace hs' := Nat.le_trans hs' hb.size
  replace hB := thenB hB hb
  replace hX := resB hX hb
  replace hR := resB hR hb
  replace hA := AnsWalk.resB hA hb
  clear hb HG
  have hS := SetWalk.resM w2 (.int .i64 3) (.int .i64 b) (.int .i64 n) 42
  have hn := hal w2 (.cells #[.int .i64 3, .int .i64 b, .int .i64 n] 42)
  replace hs' := Nat.le_trans hs' hn.size
  replace hB := thenB hB hn
  replace hX := resB hX hn
  replace hR := resB hR hn
  replace hA := AnsWalk.resB hA hn
  clear hn
  go_upto_region 4 with fail
  generalize w2.alloc _ = W2 at *
  generalize w2.heap.size = G2 at *
  go_upto_region 10 with (go_at_call 15; refine (HA.out _).mono ?_; rintro e w3 ⟨rfl, rfl⟩)
  clear HA
  go_wp2_with fail
  refine (HN.out _).mono ?_
  rintro e w4 ⟨rfl, hb⟩
  replace hs' := Nat.le_trans hs' hb.size
  replace hB := thenB hB hb
  replace hX := resB hX hb
  replace hR := resB hR hb
  replace hA := AnsWalk.resB hA hb
  replace hS := SetWalk.resB hS hb
  clear hb HN
  have hG := resM w4 (.int .i64 0) (.int .i64 0) (.int .i64 0) (.int .i64 0) (.int .i64 0) (.slice none 0 0) 24
  have hn := hal w4 (.cells #[.int .i64 0, .int .i64 0, .int .i64 0, .int .i64 0, .int .i64 0, .slice none 0 0] 24)
  have hz := hs'
  replace hs' := Nat.le_trans hs' hn.size
  replace hB := thenB hB hn
  replace hX := resB hX hn
  replace hR := resB hR hn
  replace hA := AnsWalk.resB hA hn
  replace hS := SetWalk.resB hS hn
  clear hn
  go_upto_region 11 with fail
  generalize w4.alloc _ = W4 at *
  generalize w4.heap.size = G4 at *
  go_upto_region 17 with fail
  go_wp2_with fail
  refine (HC.out _ hB).mono ?_
  rintro e w5 ⟨u, rfl, hO, hb⟩
  obtain ⟨a', c', rfl⟩ := hO.form
  have hGl := hG.1
  have hz2 := hs'
  have hG5 : G4 < w5.heap.size := Nat.lt_of_lt_of_le hGl hb.size
  replace hB := thenB hB hb
  replace hX := resB hX hb
  replace hR := resB hR hb
  replace hA := AnsWalk.resB hA hb
  replace hS := SetWalk.resB hS hb
  replace hG := resB hG hb
  clear hb HC hS
  have hD := resM w5 (.int .i64 xa) (.int .i64 xu) (.int .i64 xn) (.int .i64 xg) (.int .i64 xl) (.slice a' xo.length c') 24
  have hn := hal w5 (.cells #[.int .i64 xa, .int .i64 xu, .int .i64 xn, .int .i64 xg, .int .i64 xl, .slice a' xo.length c'] 24)
  have s1 : (w5.alloc (.cells #[.int .i64 xa, .int .i64 xu, .int .i64 xn, .int .i64 xg, .int .i64 xl, .slice a' xo.length c'] 24)).heap.size = w5.heap.size + 1 := by simp
  have hP := AnsWalk.resM (w5.alloc (.cells #[.int .i64 xa, .int .i64 xu, .int .i64 xn, .int .i64 xg, .int .i64 xl, .slice a' xo.length c'] 24)) (.int .i64 xu) (.int .i64 K) (.int .i64 xa) 52
  have hn2 := hal (w5.alloc (.cells #[.int .i64 xa, .int .i64 xu, .int .i64 xn, .int .i64 xg, .int .i64 xl, .slice a' xo.length c'] 24)) (.cells #[.int .i64 xu, .int .i64 K, .int .i64 xa] 52)
  replace hB := thenB (thenB hB hn) hn2
  replace hX := resB (resB hX hn) hn2
  replace hR := resB (resB hR hn) hn2
  replace hA := AnsWalk.resB (AnsWalk.resB hA hn) hn2
  replace hG := resB (resB hG hn) hn2
  replace hO := (hO.below hn).below hn2
  replace hD := resB hD hn2
  rw [s1] at hP
  clear hn hn2 s1
  go_upto_region 18 with fail
  generalize (w5.alloc _).alloc _ = W5 at *
  generalize w5.heap.size = G5 at *
  have HB := hide hB
  have HR := hide hR
  have HX := hide hX
  have HAA := hide hA
  clear hB hR hX hA
  go_upto_region 19 with fail
  replace hG := res6 hG (.int .i64 xa) (.int .i64 xu) (.int .i64 xn) (.int .i64 xg) (.int .i64 xl) (.slice a' xo.length c')
  have hX := resO6 HX.out (show G4 ≠ w.heap.size by omega) (.int .i64 xa) (.int .i64 xu) (.int .i64 xn) (.int .i64 xg) (.int .i64 xl) (.slice a' xo.length c')
  have hR := resO6 HR.out (show G4 ≠ w.heap.size + 1 by omega) (.int .i64 xa) (.int .i64 xu) (.int .i64 xn) (.int .i64 xg) (.int .i64 xl) (.slice a' xo.length c')
  have hA := StsGet.ansO6 HAA.out (show G4 ≠ w.heap.size + 1 + 1 by omega) (.int .i64 xa) (.int .i64 xu) (.int .i64 xn) (.int .i64 xg) (.int .i64 xl) (.slice a' xo.length c')
  have hB := set6 (x0 := .int .i64 xa) (x1 := .int .i64 xu) (x2 := .int .i64 xn) (x3 := .int .i64 xg) (x4 := .int .i64 xl) (x5 := .slice a' xo.length c') HB.out (show w.heap.size ≤ G4 by omega)
  replace hO := (hO.set6 hGl (.int .i64 xa) (.int .i64 xu) (.int .i64 xn) (.int .i64 xg) (.int .i64 xl) (.slice a' xo.length c')).mono hz2
  clear HB HR HX HAA
  replace hP := StsGet.ansO6 hP (show G4 ≠ G5 + 1 by omega) (.int .i64 xa) (.int .i64 xu) (.int .i64 xn) (.int .i64 xg) (.int .i64 xl) (.slice a' xo.length c')
  clear hD
  generalize (((((W5.setCell _ _).setCell _ _).setCell _ _).setCell _ _).setCell _ _).setCell _ _ = W6 at *
  go_wp2_with fail
  refine (HP.out _).mono ?_
  rintro e w6 ⟨rfl, hb⟩
  replace hB := thenB hB hb
  replace hX := resB hX hb
  replace hR := resB hR hb
  replace hA := AnsWalk.resB hA hb
  replace hG := resB hG hb
  replace hO := hO.below hb
  clear hb HP hP
  go_upto_region 23 with fail
  rcases HST.out with ⟨rfl, rfl, rfl⟩ | ⟨rfl, h1, rfl⟩ | ⟨h1, rfl⟩
  · clear HST
    go_wp2_with fail
    exact bodyPost_ret (v := .tuple #[.agg #[.int .i64 7, .int .i64 xu, .int .i64 xn, .int .i64 xg, .int .i64 xl, .slice a' xo.length c'], .agg #[.bool false, .bool false, .string S], .int .i64 0]) (by simp [results, Tryz.results9, go_sem, hR, hA]) rfl ⟨_, rfl, ((((hO.set6 (Nat.lt_succ_of_lt (Nat.lt_succ_self _)) _ _ _ _ _ _).set (Nat.lt_succ_self _) 0 _).set (Nat.lt_succ_self _) 1 _).set (Nat.lt_succ_self _) 2 _).mono (by omega), AnsWalk.set3 (set6 hB (Nat.le_succ _)) (by omega)⟩
  · clear HST
    go_wp2_with fail
    exact bodyPost_ret (v := .tuple #[.agg #[.int .i64 7, .int .i64 xu, .int .i64 xn, .int .i64 xg, .int .i64 xl, .slice a' xo.length c'], .agg #[.bool false, .bool true, .string ⟨#[]⟩], .int .i64 0]) (by simp [results, Tryz.results9, go_sem, hR, hA]) rfl ⟨_, rfl, ((((hO.set6 (Nat.lt_succ_of_lt (Nat.lt_succ_self _)) _ _ _ _ _ _).set (Nat.lt_succ_self _) 0 _).set (Nat.lt_succ_self _) 1 _).set (Nat.lt_succ_self _) 2 _).mono (by omega), AnsWalk.set3 (set6 hB (Nat.le_succ _)) (by omega)⟩
  · clear HST
    go_wp2_with fail
    exact bodyPost_ret (v := .tuple #[.agg #[.int .i64 xa, .int .i64 xu, .int .i64 xn, .int .i64 xg, .int .i64 xl, .slice a' xo.length c'], .agg #[.bool false, .bool false, .string S], .int .i64 0]) (by simp [results, Tryz.results9, go_sem, hR, hA]) rfl ⟨_, rfl, ((((hO.set6 (Nat.lt_succ_of_lt (Nat.lt_succ_self _)) _ _ _ _ _ _).set (Nat.lt_succ_self _) 0 _).set (Nat.lt_succ_self _) 1 _).set (Nat.lt_succ_self _) 2 _).mono (by omega), AnsWalk.set3 (set6 hB (Nat.le_succ _)) (by omega)⟩
set_option maxRecDepth 100000 in
set_option maxHeartbeats 8000000 in
theorem ref_5 (f : ByteArray) (d : FDev) (v : Value) (s t : ByteArray) (w : World) (hv : IsSt w v d.ops) (h : bothB f d = true) (g1 : gotB s = true) (g2 : (t.size : Int) = carI (gc s) (gn s)) (g3 : tabB d.sa (gc s) = true) (hc : gc s = 5) : Calls Tryz.prog 9 #[.string f, .agg #[.int .i64 d.sa, .int .i64 d.su, .int .i64 d.nx, .int .i64 d.gt, .int .i64 d.sl, v], .string s, .string t] w (CtlHand.Handed w (d) (stallB d (d)) (textS (stallB d (d)) (byteS d.sa)) 0) := by
  have HD : Hid (∀ (w' : World), Below w.heap.size w w' → _) := fun w' hb => both_any f d v w' (hv.below hb)
  have HG := hide (fun w => SetGet.refGet_any s w)
  have HA := hide (fun w => TabRef.refAllowed_any d.sa (gc s) w)
  have HN := hide (fun w => DevRef.newRef_any w)
  have hq := (both_parts.1 h).2
  have HC : Hid (∀ (w' : World), Below w.heap.size w w' → _) := fun w' hb => copyRef_any d v w' (by have := (dev_parts hq).2.2.2; omega) (hv.below hb)
  have h01 : 0 ≤ d.sa := by unfold devB at hq; simp only [Bool.and_eq_true] at hq; exact (Ans.saB_parts.1 hq.1.1.1.1.1).1
  have HL := hide (fun w => EntRef.refLowT_any d.sa 1 w h01 (by decide) (by decide))
  have hlt : EntWalk.lowT d.sa 1 = byteS d.sa := rfl
  rw [hlt] at HL
  clear hlt h01 hq
  obtain ⟨W, hW, hX, hR, hA, hB, hs⟩ := reply_boxes w (.int .i64 d.sa) (.int .i64 d.su) (.int .i64 d.nx) (.int .i64 d.gt) (.int .i64 d.sl) v (.int .i64 0) (.int .i64 0) (.int .i64 0) (.int .i64 0) (.int .i64 0) (.slice none 0 0)
  have hs' := Nat.le_of_eq hs
  have hd : (mayF f && devB d) = true := h
  rw [hd] at HD
  rw [g3, hc] at HA
  obtain rfl : t = ⟨#[]⟩ := text_none (by rw [hc] at g2; have : (t.size : Int) = 0 := g2; omega)
  rw [g1, hc, show errU true = 0 from rfl] at HG
  clear hd h hs g1 g2 g3 hc
  have b1 := build_p1
  have b2 := build_p2
  unfold CtlHand.Handed
  generalize Tab.errT (tokB d.sa 5) = E2 at *
  generalize gv s = b at *
  generalize gn s = n at *
  have hst : stallB d d = false := decide_eq_false (fun x => x.2 x.1)
  rw [hst]
  clear hst
  obtain ⟨a, ca, rfl, _, _⟩ := hv
  obtain ⟨xa, xu, xn, xg, xl, xo⟩ := d
  dsimp only at *
  generalize byteS xa = S at *
  subst hW
  go_enter Tryz.func9, Tryz.ntmps9
  go_upto_region 3 with (go_at_call 28; refine (HD.out _ hB).mono ?_; rintro e w' ⟨rfl, hb⟩; replace hs' := Nat.le_trans hs' hb.size; replace hB := thenB hB hb; replace hX := resB hX hb; replace hR := resB hR hb; replace hA := AnsWalk.resB hA hb; clear hb)
  clear HD
  go_wp2_with fail
  refine (HG.out _).mono ?_
  rintro e w2 ⟨rfl, hb⟩
  replace hs' := Nat.le_trans hs' hb.size
  replace hB := thenB hB hb
  replace hX := resB hX hb
  replace hR := resB hR hb
  replace hA := AnsWalk.resB hA hb
  clear hb HG
  have hS := SetWalk.resM w2 (.int .i64 5) (.int .i64 b) (.int .i64 n) 42
  have hn := hal w2 (.cells #[.int .i64 5, .int .i64 b, .int .i64 n] 42)
  replace hs' := Nat.le_trans hs' hn.size
  replace hB := thenB hB hn
  replace hX := resB hX hn
  replace hR := resB hR hn
  replace hA := AnsWalk.resB hA hn
  clear hn
  go_upto_region 4 with fail
  generalize w2.alloc _ = W2 at *
  generalize w2.heap.size = G2 at *
  go_upto_region 10 with (go_at_call 15; refine (HA.out _).mono ?_; rintro e w3 ⟨rfl, rfl⟩)
  clear HA
  go_wp2_with fail
  refine (HN.out _).mono ?_
  rintro e w4 ⟨rfl, hb⟩
  replace hs' := Nat.le_trans hs' hb.size
  replace hB := thenB hB hb
  replace hX := resB hX hb
  replace hR := resB hR hb
  replace hA := AnsWalk.resB hA hb
  replace hS := SetWalk.resB hS hb
  clear hb HN
  have hG := resM w4 (.int .i64 0) (.int .i64 0) (.int .i64 0) (.int .i64 0) (.int .i64 0) (.slice none 0 0) 24
  have hn := hal w4 (.cells #[.int .i64 0, .int .i64 0, .int .i64 0, .int .i64 0, .int .i64 0, .slice none 0 0] 24)
  have hz := hs'
  replace hs' := Nat.le_trans hs' hn.size
  replace hB := thenB hB hn
  replace hX := resB hX hn
  replace hR := resB hR hn
  replace hA := AnsWalk.resB hA hn
  replace hS := SetWalk.resB hS hn
  clear hn
  go_upto_region 11 with fail
  generalize w4.alloc _ = W4 at *
  generalize w4.heap.size = G4 at *
  go_upto_region 21 with fail
  go_wp2_with fail
  refine (HC.out _ hB).mono ?_
  rintro e w5 ⟨⟨u, rfl, hown⟩, hb⟩
  obtain ⟨a', c', rfl⟩ := owns_form hown
  have hO := own_of hown
  have hGl := hG.1
  have hz2 := hs'
  replace hB := thenB hB hb
  replace hX := resB hX hb
  replace hR := resB hR hb
  replace hA := AnsWalk.resB hA hb
  replace hS := SetWalk.resB hS hb
  replace hG := resB hG hb
  clear hb HC hS hown
  have HB := hide hB
  have HR := hide hR
  have HX := hide hX
  have HAA := hide hA
  clear hB hR hX hA
  go_upto_region 22 with fail
  replace hG := res6 hG (.int .i64 xa) (.int .i64 xu) (.int .i64 xn) (.int .i64 xg) (.int .i64 xl) (.slice a' xo.length c')
  have hX := resO6 HX.out (show G4 ≠ w.heap.size by omega) (.int .i64 xa) (.int .i64 xu) (.int .i64 xn) (.int .i64 xg) (.int .i64 xl) (.slice a' xo.length c')
  have hR := resO6 HR.out (show G4 ≠ w.heap.size + 1 by omega) (.int .i64 xa) (.int .i64 xu) (.int .i64 xn) (.int .i64 xg) (.int .i64 xl) (.slice a' xo.length c')
  have hA := StsGet.ansO6 HAA.out (show G4 ≠ w.heap.size + 1 + 1 by omega) (.int .i64 xa) (.int .i64 xu) (.int .i64 xn) (.int .i64 xg) (.int .i64 xl) (.slice a' xo.length c')
  have hB := set6 (x0 := .int .i64 xa) (x1 := .int .i64 xu) (x2 := .int .i64 xn) (x3 := .int .i64 xg) (x4 := .int .i64 xl) (x5 := .slice a' xo.length c') HB.out (show w.heap.size ≤ G4 by omega)
  replace hO := (hO.set6 hGl (.int .i64 xa) (.int .i64 xu) (.int .i64 xn) (.int .i64 xg) (.int .i64 xl) (.slice a' xo.length c')).mono hz2
  clear HB HR HX HAA
  generalize (((((w5.setCell _ _).setCell _ _).setCell _ _).setCell _ _).setCell _ _).setCell _ _ = W6 at *
  go_upto_region 23 with (go_at_call 34; refine (HL.out _).mono ?_; rintro e w6 ⟨rfl, hb⟩; replace hB := thenB hB hb; replace hX := resB hX hb; replace hR := resB hR hb; replace hA := AnsWalk.resB hA hb; replace hG := resB hG hb; replace hO := hO.below hb; clear hb)
  clear HL
  by_cases h7 : xa = 7
  · subst h7
    go_wp2_with fail
    exact bodyPost_ret (v := .tuple #[.agg #[.int .i64 7, .int .i64 xu, .int .i64 xn, .int .i64 xg, .int .i64 xl, .slice a' xo.length c'], .agg #[.bool false, .bool false, .string S], .int .i64 0]) (by simp [results, Tryz.results9, go_sem, hR, hA]) rfl ⟨_, rfl, ((((hO.set6 (Nat.lt_succ_of_lt (Nat.lt_succ_self _)) _ _ _ _ _ _).set (Nat.lt_succ_self _) 0 _).set (Nat.lt_succ_self _) 1 _).set (Nat.lt_succ_self _) 2 _).mono (by omega), AnsWalk.set3 (set6 hB (Nat.le_succ _)) (by omega)⟩
  · go_wp2_with fail
    exact bodyPost_ret (v := .tuple #[.agg #[.int .i64 xa, .int .i64 xu, .int .i64 xn, .int .i64 xg, .int .i64 xl, .slice a' xo.length c'], .agg #[.bool false, .bool false, .string S], .int .i64 0]) (by simp [results, Tryz.results9, go_sem, hR, hA]) rfl ⟨_, rfl, ((((hO.set6 (Nat.lt_succ_of_lt (Nat.lt_succ_self _)) _ _ _ _ _ _).set (Nat.lt_succ_self _) 0 _).set (Nat.lt_succ_self _) 1 _).set (Nat.lt_succ_self _) 2 _).mono (by omega), AnsWalk.set3 (set6 hB (Nat.le_succ _)) (by omega)⟩
set_option maxRecDepth 100000 in
set_option maxHeartbeats 8000000 in
theorem ref_4 (f : ByteArray) (d : FDev) (v : Value) (s t : ByteArray) (w : World) (hv : IsSt w v d.ops) (h : bothB f d = true) (g1 : gotB s = true) (g2 : (t.size : Int) = carI (gc s) (gn s)) (g3 : tabB d.sa (gc s) = true) (hc : gc s = 4) : Calls Tryz.prog 9 #[.string f, .agg #[.int .i64 d.sa, .int .i64 d.su, .int .i64 d.nx, .int .i64 d.gt, .int .i64 d.sl, v], .string s, .string t] w (CtlHand.Handed w (newD) (stallB d (newD)) (textS (stallB d (newD)) (⟨#[]⟩)) 0) := by
  have HD : Hid (∀ (w' : World), Below w.heap.size w w' → _) := fun w' hb => both_any f d v w' (hv.below hb)
  have HG := hide (fun w => SetGet.refGet_any s w)
  have HA := hide (fun w => TabRef.refAllowed_any d.sa (gc s) w)
  have HN := hide (fun w => DevRef.newRef_any w)
  obtain ⟨W, hW, hX, hR, hA, hB, hs⟩ := reply_boxes w (.int .i64 d.sa) (.int .i64 d.su) (.int .i64 d.nx) (.int .i64 d.gt) (.int .i64 d.sl) v (.int .i64 0) (.int .i64 0) (.int .i64 0) (.int .i64 0) (.int .i64 0) (.slice none 0 0)
  have hs' := Nat.le_of_eq hs
  have hd : (mayF f && devB d) = true := h
  rw [hd] at HD
  rw [g3, hc] at HA
  obtain rfl : t = ⟨#[]⟩ := text_none (by rw [hc] at g2; have : (t.size : Int) = 0 := g2; omega)
  rw [g1, hc, show errU true = 0 from rfl] at HG
  clear hd h hs g1 g2 g3 hc
  have b1 := build_p1
  have b2 := build_p2
  unfold CtlHand.Handed
  generalize Tab.errT (tokB d.sa 4) = E2 at *
  generalize gv s = b at *
  generalize gn s = n at *
  have hst : stallB d newD = false := decide_eq_false (fun x => absurd x.1 (by decide))
  rw [hst]
  clear hst
  unfold newD
  obtain ⟨a, ca, rfl, _, _⟩ := hv
  obtain ⟨sa, su, nx, gt, sl, l⟩ := d
  dsimp only at *
  subst hW
  go_enter Tryz.func9, Tryz.ntmps9
  go_upto_region 3 with (go_at_call 28; refine (HD.out _ hB).mono ?_; rintro e w' ⟨rfl, hb⟩; replace hs' := Nat.le_trans hs' hb.size; replace hB := thenB hB hb; replace hX := resB hX hb; replace hR := resB hR hb; replace hA := AnsWalk.resB hA hb; clear hb)
  clear HD
  go_wp2_with fail
  refine (HG.out _).mono ?_
  rintro e w2 ⟨rfl, hb⟩
  replace hs' := Nat.le_trans hs' hb.size
  replace hB := thenB hB hb
  replace hX := resB hX hb
  replace hR := resB hR hb
  replace hA := AnsWalk.resB hA hb
  clear hb HG
  have hS := SetWalk.resM w2 (.int .i64 4) (.int .i64 b) (.int .i64 n) 42
  have hn := hal w2 (.cells #[.int .i64 4, .int .i64 b, .int .i64 n] 42)
  replace hs' := Nat.le_trans hs' hn.size
  replace hB := thenB hB hn
  replace hX := resB hX hn
  replace hR := resB hR hn
  replace hA := AnsWalk.resB hA hn
  clear hn
  go_upto_region 4 with fail
  generalize w2.alloc _ = W2 at *
  generalize w2.heap.size = G2 at *
  go_upto_region 10 with (go_at_call 15; refine (HA.out _).mono ?_; rintro e w3 ⟨rfl, rfl⟩)
  clear HA
  go_wp2_with fail
  refine (HN.out _).mono ?_
  rintro e w4 ⟨rfl, hb⟩
  replace hs' := Nat.le_trans hs' hb.size
  replace hB := thenB hB hb
  replace hX := resB hX hb
  replace hR := resB hR hb
  replace hA := AnsWalk.resB hA hb
  replace hS := SetWalk.resB hS hb
  clear hb HN
  have hG := resM w4 (.int .i64 0) (.int .i64 0) (.int .i64 0) (.int .i64 0) (.int .i64 0) (.slice none 0 0) 24
  have hn := hal w4 (.cells #[.int .i64 0, .int .i64 0, .int .i64 0, .int .i64 0, .int .i64 0, .slice none 0 0] 24)
  have hz := hs'
  replace hs' := Nat.le_trans hs' hn.size
  replace hB := thenB hB hn
  replace hX := resB hX hn
  replace hR := resB hR hn
  replace hA := AnsWalk.resB hA hn
  replace hS := SetWalk.resB hS hn
  clear hn
  go_upto_region 11 with fail
  generalize w4.alloc _ = W4 at *
  generalize w4.heap.size = G4 at *
  go_wp2_with fail
  exact bodyPost_ret (v := .tuple #[.agg #[.int .i64 0, .int .i64 0, .int .i64 0, .int .i64 0, .int .i64 0, .slice none 0 0], .agg #[.bool false, .bool false, .string ⟨#[]⟩], .int .i64 0]) (by simp [results, Tryz.results9, go_sem, hR, hA]) rfl ⟨_, rfl, own_none _ _, AnsWalk.set3 (set6 hB (Nat.le_succ _)) (by omega)⟩
set_option maxRecDepth 100000 in
set_option maxHeartbeats 8000000 in
theorem ref_6 (f : ByteArray) (d : FDev) (v : Value) (s t : ByteArray) (w : World) (hv : IsSt w v d.ops) (h : bothB f d = true) (g1 : gotB s = true) (g2 : (t.size : Int) = carI (gc s) (gn s)) (g3 : tabB d.sa (gc s) = true) (hc : gc s = 6) : Calls Tryz.prog 9 #[.string f, .agg #[.int .i64 d.sa, .int .i64 d.su, .int .i64 d.nx, .int .i64 d.gt, .int .i64 d.sl, v], .string s, .string t] w (CtlHand.Handed w (newD) (stallB d (newD)) (textS (stallB d (newD)) (⟨#[]⟩)) 0) := by
  have HD : Hid (∀ (w' : World), Below w.heap.size w w' → _) := fun w' hb => both_any f d v w' (hv.below hb)
  have HG := hide (fun w => SetGet.refGet_any s w)
  have HA := hide (fun w => TabRef.refAllowed_any d.sa (gc s) w)
  have HN := hide (fun w => DevRef.newRef_any w)
  obtain ⟨W, hW, hX, hR, hA, hB, hs⟩ := reply_boxes w (.int .i64 d.sa) (.int .i64 d.su) (.int .i64 d.nx) (.int .i64 d.gt) (.int .i64 d.sl) v (.int .i64 0) (.int .i64 0) (.int .i64 0) (.int .i64 0) (.int .i64 0) (.slice none 0 0)
  have hs' := Nat.le_of_eq hs
  have hd : (mayF f && devB d) = true := h
  rw [hd] at HD
  rw [g3, hc] at HA
  obtain rfl : t = ⟨#[]⟩ := text_none (by rw [hc] at g2; have : (t.size : Int) = 0 := g2; omega)
  rw [g1, hc, show errU true = 0 from rfl] at HG
  clear hd h hs g1 g2 g3 hc
  have b1 := build_p1
  have b2 := build_p2
  unfold CtlHand.Handed
  generalize Tab.errT (tokB d.sa 6) = E2 at *
  generalize gv s = b at *
  generalize gn s = n at *
  have hst : stallB d newD = false := decide_eq_false (fun x => absurd x.1 (by decide))
  rw [hst]
  clear hst
  unfold newD
  obtain ⟨a, ca, rfl, _, _⟩ := hv
  obtain ⟨sa, su, nx, gt, sl, l⟩ := d
  dsimp only at *
  subst hW
  go_enter Tryz.func9, Tryz.ntmps9
  go_upto_region 3 with (go_at_call 28; refine (HD.out _ hB).mono ?_; rintro e w' ⟨rfl, hb⟩; replace hs' := Nat.le_trans hs' hb.size; replace hB := thenB hB hb; replace hX := resB hX hb; replace hR := resB hR hb; replace hA := AnsWalk.resB hA hb; clear hb)
  clear HD
  go_wp2_with fail
  refine (HG.out _).mono ?_
  rintro e w2 ⟨rfl, hb⟩
  replace hs' := Nat.le_trans hs' hb.size
  replace hB := thenB hB hb
  replace hX := resB hX hb
  replace hR := resB hR hb
  replace hA := AnsWalk.resB hA hb
  clear hb HG
  have hS := SetWalk.resM w2 (.int .i64 6) (.int .i64 b) (.int .i64 n) 42
  have hn := hal w2 (.cells #[.int .i64 6, .int .i64 b, .int .i64 n] 42)
  replace hs' := Nat.le_trans hs' hn.size
  replace hB := thenB hB hn
  replace hX := resB hX hn
  replace hR := resB hR hn
  replace hA := AnsWalk.resB hA hn
  clear hn
  go_upto_region 4 with fail
  generalize w2.alloc _ = W2 at *
  generalize w2.heap.size = G2 at *
  go_upto_region 10 with (go_at_call 15; refine (HA.out _).mono ?_; rintro e w3 ⟨rfl, rfl⟩)
  clear HA
  go_wp2_with fail
  refine (HN.out _).mono ?_
  rintro e w4 ⟨rfl, hb⟩
  replace hs' := Nat.le_trans hs' hb.size
  replace hB := thenB hB hb
  replace hX := resB hX hb
  replace hR := resB hR hb
  replace hA := AnsWalk.resB hA hb
  replace hS := SetWalk.resB hS hb
  clear hb HN
  have hG := resM w4 (.int .i64 0) (.int .i64 0) (.int .i64 0) (.int .i64 0) (.int .i64 0) (.slice none 0 0) 24
  have hn := hal w4 (.cells #[.int .i64 0, .int .i64 0, .int .i64 0, .int .i64 0, .int .i64 0, .slice none 0 0] 24)
  have hz := hs'
  replace hs' := Nat.le_trans hs' hn.size
  replace hB := thenB hB hn
  replace hX := resB hX hn
  replace hR := resB hR hn
  replace hA := AnsWalk.resB hA hn
  replace hS := SetWalk.resB hS hn
  clear hn
  go_upto_region 11 with fail
  generalize w4.alloc _ = W4 at *
  generalize w4.heap.size = G4 at *
  go_wp2_with fail
  exact bodyPost_ret (v := .tuple #[.agg #[.int .i64 0, .int .i64 0, .int .i64 0, .int .i64 0, .int .i64 0, .slice none 0 0], .agg #[.bool false, .bool false, .string ⟨#[]⟩], .int .i64 0]) (by simp [results, Tryz.results9, go_sem, hR, hA]) rfl ⟨_, rfl, own_none _ _, AnsWalk.set3 (set6 hB (Nat.le_succ _)) (by omega)⟩
theorem refHandle_any (f : ByteArray) (d : FDev) (v : Value) (s t : ByteArray) (w : World) (hv : IsSt w v d.ops) : Calls Tryz.prog 9 #[.string f, .agg #[.int .i64 d.sa, .int .i64 d.su, .int .i64 d.nx, .int .i64 d.gt, .int .i64 d.sl, v], .string s, .string t] w (CtlHand.Handed w (handD f d s t) (handB f d s t) (handS f d s t) (errC (bothB f d))) := by
  cases h : bothB f d with
  | false =>
    obtain ⟨e1, e2, e3⟩ := hand_no s t h
    rw [e1, e2, e3]
    exact ref_none f d v s t w hv h
  | true =>
    cases g : goB d s t with
    | false =>
      obtain ⟨e1, e2, e3⟩ := hand_stall h g
      rw [e1, e2, e3]
      rcases go_no g with g1 | ⟨g1, g2⟩ | ⟨g1, g2, g3⟩
      · exact ref_noA f d v s t w hv h g1
      · by_cases hc : gc s = 1
        · exact ref_noB1 f d v s t w hv h g1 hc g2
        · exact ref_noB2 f d v s t w hv h g1 hc g2
      · by_cases hc : gc s = 1
        · exact ref_noC1 f d v s t w hv h g1 hc g2 g3
        · exact ref_noC2 f d v s t w hv h g1 hc g2 g3
    | true =>
      obtain ⟨e1, e2, e3⟩ := hand_ok h g
      rw [e1, e2, e3]
      obtain ⟨g1, g2, g3⟩ := go_parts.1 g
      have hc : gc s = 1 ∨ gc s = 2 ∨ gc s = 3 ∨ gc s = 5 ∨ gc s = 4 ∨ gc s = 6 := by
        rcases tab_codes g3 with ⟨h, _⟩ | ⟨h, _⟩ | h | ⟨h, _⟩ | h | ⟨h, _⟩ <;> omega
      rcases hc with hc | hc | hc | hc | hc | hc
      · have e1 : doD f d s t = takeD f d (gv s) t := by unfold doD; rw [hc]; rfl
        have e2 : doS f d s = ⟨#[]⟩ := by unfold doS; rw [hc]; rfl
        rw [e1, e2]
        exact ref_1 f d v s t w hv h g1 g2 g3 hc
      · have e1 : doD f d s t = giveD f d (gv s) (gn s) := by unfold doD; rw [hc]; rfl
        have e2 : doS f d s = giveS f d (gv s) (gn s) := by unfold doS; rw [hc]; rfl
        rw [e1, e2]
        exact ref_2 f d v s t w hv h g1 g2 g3 hc
      · have e1 : doD f d s t = getD f d := by unfold doD; rw [hc]; rfl
        have e2 : doS f d s = Ans.ansS (getD f d).su (tkI (getD f d)) (getD f d).sa := by unfold doS; rw [hc]; rfl
        rw [e1, e2]
        exact ref_3 f d v s t w hv h g1 g2 g3 hc
      · have e1 : doD f d s t = d := by unfold doD; rw [hc]; rfl
        have e2 : doS f d s = byteS d.sa := by unfold doS; rw [hc]; rfl
        rw [e1, e2]
        exact ref_5 f d v s t w hv h g1 g2 g3 hc
      · have e1 : doD f d s t = newD := by unfold doD; rw [hc]; rfl
        have e2 : doS f d s = ⟨#[]⟩ := by unfold doS; rw [hc]; rfl
        rw [e1, e2]
        exact ref_4 f d v s t w hv h g1 g2 g3 hc
      · have e1 : doD f d s t = newD := by unfold doD; rw [hc]; rfl
        have e2 : doS f d s = ⟨#[]⟩ := by unfold doS; rw [hc]; rfl
        rw [e1, e2]
        exact ref_6 f d v s t w hv h g1 g2 g3 hc
end Go.Proofs.YtmlfkbkpkgaefaaGreatDoor.CtlRef
