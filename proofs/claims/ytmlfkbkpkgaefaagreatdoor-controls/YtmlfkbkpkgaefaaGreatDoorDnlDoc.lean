/- The contract of the document's own answer to package download: it gives what the same plain functions give. -/
import Derived.Test.YtmlfkbkpkgaefaaGreatDoorDnlRef
import Derived.Test.YtmlfkbkpkgaefaaGreatDoorBagDoc
import Derived.Test.YtmlfkbkpkgaefaaGreatDoorBagDev
import Derived.Test.YtmlfkbkpkgaefaaGreatDoorChoRef
import Derived.Test.YtmlfkbkpkgaefaaGreatDoorBagOps
import Derived.Test.YtmlfkbkpkgaefaaGreatDoorBagNor
namespace Go.Proofs.YtmlfkbkpkgaefaaGreatDoor.DnlDoc
open Go.Proofs.YtmlfkbkpkgaefaaGreatDoor Go.RowKit Go.Proofs.YtmlfkbkpkgaefaaGreatDoor.Bytes Go.Proofs.YtmlfkbkpkgaefaaGreatDoor.Ops Go.Proofs.YtmlfkbkpkgaefaaGreatDoor.OpsRow Go.Proofs.YtmlfkbkpkgaefaaGreatDoor.Jou Go.Proofs.YtmlfkbkpkgaefaaGreatDoor.Act Go.Proofs.YtmlfkbkpkgaefaaGreatDoor.Cho Go.Proofs.YtmlfkbkpkgaefaaGreatDoor.Sta Go.Proofs.YtmlfkbkpkgaefaaGreatDoor.Dev Go.Proofs.YtmlfkbkpkgaefaaGreatDoor.DevRow Go.Proofs.YtmlfkbkpkgaefaaGreatDoor.DevSet Go.Proofs.YtmlfkbkpkgaefaaGreatDoor.Dnl Go.Proofs.YtmlfkbkpkgaefaaGreatDoor.DnlCopy Go.Proofs.YtmlfkbkpkgaefaaGreatDoor.DnlWalk Go.Proofs.YtmlfkbkpkgaefaaGreatDoor.DnlTake Go.Proofs.YtmlfkbkpkgaefaaGreatDoor.DnlRef
open Go.Proofs.YtmlfkbkpkgaefaaGreatDoor.DevWalk (build_d0)
open Go.Proofs.YtmlfkbkpkgaefaaGreatDoor.OpsWalk (info_op size_alloc1)
open Go.Proofs.YtmlfkbkpkgaefaaGreatDoor.DevHelp (third)
open Go.Proofs.YtmlfkbkpkgaefaaGreatDoor.NorWalk (ret_bool)
attribute [local go_sem ↓] Go.wp_at_zero Go.wp_at_succ
set_option maxRecDepth 100000 in
set_option maxHeartbeats 4000000 in
theorem ref_f1 (f : ByteArray) (d : FDev) (v : Value) (b : Int) (t : ByteArray) (w : World) (hv : IsSt w v d.ops) (hok : okB f d b t = true) (hsa : d.sa = 0) (h : t.size = 0) : Calls Tryz.prog 32 #[.string f, .agg #[.int .i64 d.sa, .int .i64 d.su, .int .i64 d.nx, .int .i64 d.gt, .int .i64 d.sl, v], .int .i64 b, .string t] w (Gave w (failedD 5) 0) := by
  have HD : Hid (∀ (w' : World), Below w.heap.size w w' → _) := fun w' hb => both_any f d v w' (hv.below hb)
  have HU := hide (fun w => DevRef.up16_any b 65535 w)
  obtain ⟨h1, h2, _, h4, h6⟩ := okB_parts.1 hok
  obtain ⟨⟨n0, n1⟩, ⟨g0, g1⟩, ⟨l0, l1⟩, hl⟩ := dev_parts h2
  have HC : Hid (∀ (w' : World), Below w.heap.size w w' → _) := fun w' hb => copyRef_any d v w' (by omega) (hv.below hb)
  obtain ⟨hX, hR, hB, hs⟩ := two_boxes w (.int .i64 d.sa) (.int .i64 d.su) (.int .i64 d.nx) (.int .i64 d.gt) (.int .i64 d.sl) v
  rw [h1, h2, Bool.true_and] at HD
  rw [upB_iff.2 h4] at HU
  have h9 : ¬ 32 < (t.size : Int) := by omega
  obtain ⟨a, ca, rfl, _, _⟩ := hv
  obtain ⟨sa, su, nx, gt, sl, l⟩ := d
  dsimp only at *
  subst hsa
  clear h1 h2 hok
  go_enter Tryz.func32, Tryz.ntmps32
  go_upto_region 3 with (first | (go_at_call 28; refine (HD.out _ hB).mono ?_; rintro e w' ⟨rfl, hb⟩; replace hB := thenB hB hb; replace hX := resB hX hb; replace hR := resB hR hb; replace hs := Nat.le_trans (Nat.le_of_eq hs) hb.size; clear hb) | (go_at_call 43; refine (HU.out _).mono ?_; rintro e w' ⟨rfl, rfl⟩))
  clear HD HU
  go_wp2_with fail
  refine (HC.out _ hB).mono ?_
  rintro e w2 ⟨⟨u, rfl, hown⟩, hb⟩
  replace hB := thenB hB hb
  replace hR := resB hR hb
  replace hX := resB hX hb
  replace hown := owns_mono hown hs
  replace hs := Nat.le_trans hs hb.size
  clear hb HC
  obtain ⟨a', c', rfl⟩ := owns_form hown
  have hO := resM w2 (.int .i64 0) (.int .i64 su) (.int .i64 nx) (.int .i64 gt) (.int .i64 sl) (.slice a' l.length c') 24
  have hn : Below w2.heap.size w2 (w2.alloc (.cells #[.int .i64 0, .int .i64 su, .int .i64 nx, .int .i64 gt, .int .i64 sl, .slice a' l.length c'] 24)) := (Below.refl _ _).alloc (Nat.le_refl _) _
  replace hB := thenB hB hn
  replace hR := resB hR hn
  replace hX := resB hX hn
  have hne := fun k (hk : Value.ownBlock (.slice a' l.length c') = some k) => Nat.ne_of_lt (hown.lt k hk).2
  replace hown := owns_below hown hn
  have hs3 := Nat.le_trans hs hn.size
  clear hn
  go_upto_region 4 with fail
  generalize w2.alloc _ = W2 at *
  generalize w2.heap.size = B3 at *
  have HB := hide hB
  have HO := hide hown
  have HR := hide hR
  have HX := hide hX
  clear hB hown hR hX
  go_upto_region 5 with fail
  have hq0 : B3 ≠ w.heap.size := by omega
  have hq1 : B3 ≠ w.heap.size + 1 := by omega
  replace hO := res0 hO (.int .i64 1)
  have hR := resO HR.out hq1 0 (.int .i64 1)
  have hX := resO HX.out hq0 0 (.int .i64 1)
  have hB := HB.out.setCell (p := ⟨B3, 0, none⟩) (show w.heap.size ≤ B3 by omega) (.int .i64 1)
  have hown := ownsRow_setCell_other HO.out (a := ⟨B3, 0, none⟩) (fun h => hne B3 h rfl) (.int .i64 1)
  replace hs3 : w.heap.size + 1 + 1 ≤ (W2.setCell ⟨B3, 0, none⟩ (.int .i64 1)).heap.size := by rw [size_set]; exact hs3
  clear HB HO HR HX
  generalize W2.setCell _ _ = W3 at *
  obtain rfl := text_none h
  clear hO hown
  go_wp2_with fail
  refine (DevRef.failedRef_any _ _).mono ?_
  rintro e w3 ⟨rfl, hb⟩
  replace hB := thenB hB hb
  replace hR := resB hR hb
  clear hb
  go_wp2_with fail
  exact bodyPost_ret (v := .tuple #[.agg #[.int .i64 7, .int .i64 5, .int .i64 0, .int .i64 0, .int .i64 0, .slice none 0 0], .int .i64 0]) (by simp [results, Tryz.results32, go_sem, hR]) rfl ⟨_, rfl, owns_nil _ _ _, set6 hB (Nat.le_succ _)⟩
set_option maxRecDepth 100000 in
set_option maxHeartbeats 4000000 in
theorem ref_f2 (f : ByteArray) (d : FDev) (v : Value) (b : Int) (t : ByteArray) (w : World) (hv : IsSt w v d.ops) (hok : okB f d b t = true) (hsa : d.sa = 0) (h : ¬ t.size = 0) (hb0 : ¬ b = 0) : Calls Tryz.prog 32 #[.string f, .agg #[.int .i64 d.sa, .int .i64 d.su, .int .i64 d.nx, .int .i64 d.gt, .int .i64 d.sl, v], .int .i64 b, .string t] w (Gave w (failedD 4) 0) := by
  have HD : Hid (∀ (w' : World), Below w.heap.size w w' → _) := fun w' hb => both_any f d v w' (hv.below hb)
  have HU := hide (fun w => DevRef.up16_any b 65535 w)
  obtain ⟨h1, h2, _, h4, h6⟩ := okB_parts.1 hok
  obtain ⟨⟨n0, n1⟩, ⟨g0, g1⟩, ⟨l0, l1⟩, hl⟩ := dev_parts h2
  have HC : Hid (∀ (w' : World), Below w.heap.size w w' → _) := fun w' hb => copyRef_any d v w' (by omega) (hv.below hb)
  obtain ⟨hX, hR, hB, hs⟩ := two_boxes w (.int .i64 d.sa) (.int .i64 d.su) (.int .i64 d.nx) (.int .i64 d.gt) (.int .i64 d.sl) v
  rw [h1, h2, Bool.true_and] at HD
  rw [upB_iff.2 h4] at HU
  have h9 : ¬ 32 < (t.size : Int) := by omega
  obtain ⟨a, ca, rfl, _, _⟩ := hv
  obtain ⟨sa, su, nx, gt, sl, l⟩ := d
  dsimp only at *
  subst hsa
  clear h1 h2 hok
  go_enter Tryz.func32, Tryz.ntmps32
  go_upto_region 3 with (first | (go_at_call 28; refine (HD.out _ hB).mono ?_; rintro e w' ⟨rfl, hb⟩; replace hB := thenB hB hb; replace hX := resB hX hb; replace hR := resB hR hb; replace hs := Nat.le_trans (Nat.le_of_eq hs) hb.size; clear hb) | (go_at_call 43; refine (HU.out _).mono ?_; rintro e w' ⟨rfl, rfl⟩))
  clear HD HU
  go_wp2_with fail
  refine (HC.out _ hB).mono ?_
  rintro e w2 ⟨⟨u, rfl, hown⟩, hb⟩
  replace hB := thenB hB hb
  replace hR := resB hR hb
  replace hX := resB hX hb
  replace hown := owns_mono hown hs
  replace hs := Nat.le_trans hs hb.size
  clear hb HC
  obtain ⟨a', c', rfl⟩ := owns_form hown
  have hO := resM w2 (.int .i64 0) (.int .i64 su) (.int .i64 nx) (.int .i64 gt) (.int .i64 sl) (.slice a' l.length c') 24
  have hn : Below w2.heap.size w2 (w2.alloc (.cells #[.int .i64 0, .int .i64 su, .int .i64 nx, .int .i64 gt, .int .i64 sl, .slice a' l.length c'] 24)) := (Below.refl _ _).alloc (Nat.le_refl _) _
  replace hB := thenB hB hn
  replace hR := resB hR hn
  replace hX := resB hX hn
  have hne := fun k (hk : Value.ownBlock (.slice a' l.length c') = some k) => Nat.ne_of_lt (hown.lt k hk).2
  replace hown := owns_below hown hn
  have hs3 := Nat.le_trans hs hn.size
  clear hn
  go_upto_region 4 with fail
  generalize w2.alloc _ = W2 at *
  generalize w2.heap.size = B3 at *
  have HB := hide hB
  have HO := hide hown
  have HR := hide hR
  have HX := hide hX
  clear hB hown hR hX
  go_upto_region 5 with fail
  have hq0 : B3 ≠ w.heap.size := by omega
  have hq1 : B3 ≠ w.heap.size + 1 := by omega
  replace hO := res0 hO (.int .i64 1)
  have hR := resO HR.out hq1 0 (.int .i64 1)
  have hX := resO HX.out hq0 0 (.int .i64 1)
  have hB := HB.out.setCell (p := ⟨B3, 0, none⟩) (show w.heap.size ≤ B3 by omega) (.int .i64 1)
  have hown := ownsRow_setCell_other HO.out (a := ⟨B3, 0, none⟩) (fun h => hne B3 h rfl) (.int .i64 1)
  replace hs3 : w.heap.size + 1 + 1 ≤ (W2.setCell ⟨B3, 0, none⟩ (.int .i64 1)).heap.size := by rw [size_set]; exact hs3
  clear HB HO HR HX
  generalize W2.setCell _ _ = W3 at *
  have ht0 := text_some h
  have hb1 := ne_t hb0
  clear hO hown
  go_wp2_with fail
  refine (DevRef.failedRef_any _ _).mono ?_
  rintro e w3 ⟨rfl, hb⟩
  replace hB := thenB hB hb
  replace hR := resB hR hb
  clear hb
  go_wp2_with fail
  exact bodyPost_ret (v := .tuple #[.agg #[.int .i64 7, .int .i64 4, .int .i64 0, .int .i64 0, .int .i64 0, .slice none 0 0], .int .i64 0]) (by simp [results, Tryz.results32, go_sem, hR]) rfl ⟨_, rfl, owns_nil _ _ _, set6 hB (Nat.le_succ _)⟩
set_option maxRecDepth 100000 in
set_option maxHeartbeats 4000000 in
theorem ref_g1 (f : ByteArray) (d : FDev) (v : Value) (b : Int) (t : ByteArray) (w : World) (hv : IsSt w v d.ops) (hok : okB f d b t = true) (hsa : d.sa = 3) (h : b = d.nx - 1) : Calls Tryz.prog 32 #[.string f, .agg #[.int .i64 d.sa, .int .i64 d.su, .int .i64 d.nx, .int .i64 d.gt, .int .i64 d.sl, v], .int .i64 b, .string t] w (Gave w (turnD d 1) 0) := by
  have HD : Hid (∀ (w' : World), Below w.heap.size w w' → _) := fun w' hb => both_any f d v w' (hv.below hb)
  have HU := hide (fun w => DevRef.up16_any b 65535 w)
  obtain ⟨h1, h2, _, h4, h6⟩ := okB_parts.1 hok
  obtain ⟨⟨n0, n1⟩, ⟨g0, g1⟩, ⟨l0, l1⟩, hl⟩ := dev_parts h2
  have HC : Hid (∀ (w' : World), Below w.heap.size w w' → _) := fun w' hb => copyRef_any d v w' (by omega) (hv.below hb)
  obtain ⟨hX, hR, hB, hs⟩ := two_boxes w (.int .i64 d.sa) (.int .i64 d.su) (.int .i64 d.nx) (.int .i64 d.gt) (.int .i64 d.sl) v
  rw [h1, h2, Bool.true_and] at HD
  rw [upB_iff.2 h4] at HU
  have h9 : ¬ 32 < (t.size : Int) := by omega
  obtain ⟨a, ca, rfl, _, _⟩ := hv
  unfold turnD
  have HH := hide h
  clear h
  obtain ⟨sa, su, nx, gt, sl, l⟩ := d
  dsimp only at *
  subst hsa
  clear h1 h2 hok
  go_enter Tryz.func32, Tryz.ntmps32
  go_upto_region 3 with (first | (go_at_call 28; refine (HD.out _ hB).mono ?_; rintro e w' ⟨rfl, hb⟩; replace hB := thenB hB hb; replace hX := resB hX hb; replace hR := resB hR hb; replace hs := Nat.le_trans (Nat.le_of_eq hs) hb.size; clear hb) | (go_at_call 43; refine (HU.out _).mono ?_; rintro e w' ⟨rfl, rfl⟩))
  clear HD HU
  go_wp2_with fail
  refine (HC.out _ hB).mono ?_
  rintro e w2 ⟨⟨u, rfl, hown⟩, hb⟩
  replace hB := thenB hB hb
  replace hR := resB hR hb
  replace hX := resB hX hb
  replace hown := owns_mono hown hs
  replace hs := Nat.le_trans hs hb.size
  clear hb HC
  obtain ⟨a', c', rfl⟩ := owns_form hown
  have hO := resM w2 (.int .i64 3) (.int .i64 su) (.int .i64 nx) (.int .i64 gt) (.int .i64 sl) (.slice a' l.length c') 24
  have hn : Below w2.heap.size w2 (w2.alloc (.cells #[.int .i64 3, .int .i64 su, .int .i64 nx, .int .i64 gt, .int .i64 sl, .slice a' l.length c'] 24)) := (Below.refl _ _).alloc (Nat.le_refl _) _
  replace hB := thenB hB hn
  replace hR := resB hR hn
  replace hX := resB hX hn
  have hne := fun k (hk : Value.ownBlock (.slice a' l.length c') = some k) => Nat.ne_of_lt (hown.lt k hk).2
  replace hown := owns_below hown hn
  have hs3 := Nat.le_trans hs hn.size
  clear hn
  go_upto_region 4 with fail
  generalize w2.alloc _ = W2 at *
  generalize w2.heap.size = B3 at *
  have HB := hide hB
  have HO := hide hown
  have HR := hide hR
  have HX := hide hX
  clear hB hown hR hX
  go_upto_region 5 with fail
  have hq0 : B3 ≠ w.heap.size := by omega
  have hq1 : B3 ≠ w.heap.size + 1 := by omega
  replace hO := res0 hO (.int .i64 1)
  have hR := resO HR.out hq1 0 (.int .i64 1)
  have hX := resO HX.out hq0 0 (.int .i64 1)
  have hB := HB.out.setCell (p := ⟨B3, 0, none⟩) (show w.heap.size ≤ B3 by omega) (.int .i64 1)
  have hown := ownsRow_setCell_other HO.out (a := ⟨B3, 0, none⟩) (fun h => hne B3 h rfl) (.int .i64 1)
  replace hs3 : w.heap.size + 1 + 1 ≤ (W2.setCell ⟨B3, 0, none⟩ (.int .i64 1)).heap.size := by rw [size_set]; exact hs3
  clear HB HO HR HX
  generalize W2.setCell _ _ = W3 at *
  have hb1 : (b == nx - 1) = true := by rw [HH.out]; exact beq_self_eq_true _
  go_wp2_with fail
  exact bodyPost_ret (v := .tuple #[.agg #[.int .i64 1, .int .i64 su, .int .i64 nx, .int .i64 gt, .int .i64 sl, .slice a' l.length c'], .int .i64 0]) (by simp [results, Tryz.results32, go_sem, hR]) rfl ⟨_, rfl, owns_mono (base := w.heap.size + 1 + 1) (own6 hown (Nat.lt_succ_self _) _ _ _ _ _ _) (by omega), set6 hB (Nat.le_succ _)⟩
set_option maxRecDepth 100000 in
set_option maxHeartbeats 4000000 in
theorem ref_g2 (f : ByteArray) (d : FDev) (v : Value) (b : Int) (t : ByteArray) (w : World) (hv : IsSt w v d.ops) (hok : okB f d b t = true) (hsa : d.sa = 3) (h : ¬ b = d.nx - 1) (h' : ¬ b = d.nx) : Calls Tryz.prog 32 #[.string f, .agg #[.int .i64 d.sa, .int .i64 d.su, .int .i64 d.nx, .int .i64 d.gt, .int .i64 d.sl, v], .int .i64 b, .string t] w (Gave w (failedD 4) 0) := by
  have HD : Hid (∀ (w' : World), Below w.heap.size w w' → _) := fun w' hb => both_any f d v w' (hv.below hb)
  have HU := hide (fun w => DevRef.up16_any b 65535 w)
  obtain ⟨h1, h2, _, h4, h6⟩ := okB_parts.1 hok
  obtain ⟨⟨n0, n1⟩, ⟨g0, g1⟩, ⟨l0, l1⟩, hl⟩ := dev_parts h2
  have HC : Hid (∀ (w' : World), Below w.heap.size w w' → _) := fun w' hb => copyRef_any d v w' (by omega) (hv.below hb)
  obtain ⟨hX, hR, hB, hs⟩ := two_boxes w (.int .i64 d.sa) (.int .i64 d.su) (.int .i64 d.nx) (.int .i64 d.gt) (.int .i64 d.sl) v
  rw [h1, h2, Bool.true_and] at HD
  rw [upB_iff.2 h4] at HU
  have h9 : ¬ 32 < (t.size : Int) := by omega
  obtain ⟨a, ca, rfl, _, _⟩ := hv
  obtain ⟨sa, su, nx, gt, sl, l⟩ := d
  dsimp only at *
  subst hsa
  clear h1 h2 hok
  go_enter Tryz.func32, Tryz.ntmps32
  go_upto_region 3 with (first | (go_at_call 28; refine (HD.out _ hB).mono ?_; rintro e w' ⟨rfl, hb⟩; replace hB := thenB hB hb; replace hX := resB hX hb; replace hR := resB hR hb; replace hs := Nat.le_trans (Nat.le_of_eq hs) hb.size; clear hb) | (go_at_call 43; refine (HU.out _).mono ?_; rintro e w' ⟨rfl, rfl⟩))
  clear HD HU
  go_wp2_with fail
  refine (HC.out _ hB).mono ?_
  rintro e w2 ⟨⟨u, rfl, hown⟩, hb⟩
  replace hB := thenB hB hb
  replace hR := resB hR hb
  replace hX := resB hX hb
  replace hown := owns_mono hown hs
  replace hs := Nat.le_trans hs hb.size
  clear hb HC
  obtain ⟨a', c', rfl⟩ := owns_form hown
  have hO := resM w2 (.int .i64 3) (.int .i64 su) (.int .i64 nx) (.int .i64 gt) (.int .i64 sl) (.slice a' l.length c') 24
  have hn : Below w2.heap.size w2 (w2.alloc (.cells #[.int .i64 3, .int .i64 su, .int .i64 nx, .int .i64 gt, .int .i64 sl, .slice a' l.length c'] 24)) := (Below.refl _ _).alloc (Nat.le_refl _) _
  replace hB := thenB hB hn
  replace hR := resB hR hn
  replace hX := resB hX hn
  have hne := fun k (hk : Value.ownBlock (.slice a' l.length c') = some k) => Nat.ne_of_lt (hown.lt k hk).2
  replace hown := owns_below hown hn
  have hs3 := Nat.le_trans hs hn.size
  clear hn
  go_upto_region 4 with fail
  generalize w2.alloc _ = W2 at *
  generalize w2.heap.size = B3 at *
  have HB := hide hB
  have HO := hide hown
  have HR := hide hR
  have HX := hide hX
  clear hB hown hR hX
  go_upto_region 5 with fail
  have hq0 : B3 ≠ w.heap.size := by omega
  have hq1 : B3 ≠ w.heap.size + 1 := by omega
  replace hO := res0 hO (.int .i64 1)
  have hR := resO HR.out hq1 0 (.int .i64 1)
  have hX := resO HX.out hq0 0 (.int .i64 1)
  have hB := HB.out.setCell (p := ⟨B3, 0, none⟩) (show w.heap.size ≤ B3 by omega) (.int .i64 1)
  have hown := ownsRow_setCell_other HO.out (a := ⟨B3, 0, none⟩) (fun h => hne B3 h rfl) (.int .i64 1)
  replace hs3 : w.heap.size + 1 + 1 ≤ (W2.setCell ⟨B3, 0, none⟩ (.int .i64 1)).heap.size := by rw [size_set]; exact hs3
  clear HB HO HR HX
  generalize W2.setCell _ _ = W3 at *
  have hb1 := eq_f h
  have hb2 := ne_t h'
  clear hO hown
  go_wp2_with fail
  refine (DevRef.failedRef_any _ _).mono ?_
  rintro e w3 ⟨rfl, hb⟩
  replace hB := thenB hB hb
  replace hR := resB hR hb
  clear hb
  go_wp2_with fail
  exact bodyPost_ret (v := .tuple #[.agg #[.int .i64 7, .int .i64 4, .int .i64 0, .int .i64 0, .int .i64 0, .slice none 0 0], .int .i64 0]) (by simp [results, Tryz.results32, go_sem, hR]) rfl ⟨_, rfl, owns_nil _ _ _, set6 hB (Nat.le_succ _)⟩
set_option maxRecDepth 100000 in
set_option maxHeartbeats 4000000 in
theorem ref_g3 (f : ByteArray) (d : FDev) (v : Value) (b : Int) (t : ByteArray) (w : World) (hv : IsSt w v d.ops) (hok : okB f d b t = true) (hsa : d.sa = 3) (h : ¬ b = d.nx - 1) (h' : b = d.nx) (ht : t.size = 0) : Calls Tryz.prog 32 #[.string f, .agg #[.int .i64 d.sa, .int .i64 d.su, .int .i64 d.nx, .int .i64 d.gt, .int .i64 d.sl, v], .int .i64 b, .string t] w (Gave w (turnD d 4) 0) := by
  have HD : Hid (∀ (w' : World), Below w.heap.size w w' → _) := fun w' hb => both_any f d v w' (hv.below hb)
  have HU := hide (fun w => DevRef.up16_any b 65535 w)
  obtain ⟨h1, h2, _, h4, h6⟩ := okB_parts.1 hok
  obtain ⟨⟨n0, n1⟩, ⟨g0, g1⟩, ⟨l0, l1⟩, hl⟩ := dev_parts h2
  have HC : Hid (∀ (w' : World), Below w.heap.size w w' → _) := fun w' hb => copyRef_any d v w' (by omega) (hv.below hb)
  obtain ⟨hX, hR, hB, hs⟩ := two_boxes w (.int .i64 d.sa) (.int .i64 d.su) (.int .i64 d.nx) (.int .i64 d.gt) (.int .i64 d.sl) v
  rw [h1, h2, Bool.true_and] at HD
  rw [upB_iff.2 h4] at HU
  have h9 : ¬ 32 < (t.size : Int) := by omega
  obtain ⟨a, ca, rfl, _, _⟩ := hv
  unfold turnD
  have HH := hide h'
  clear h'
  obtain ⟨sa, su, nx, gt, sl, l⟩ := d
  dsimp only at *
  subst hsa
  clear h1 h2 hok
  go_enter Tryz.func32, Tryz.ntmps32
  go_upto_region 3 with (first | (go_at_call 28; refine (HD.out _ hB).mono ?_; rintro e w' ⟨rfl, hb⟩; replace hB := thenB hB hb; replace hX := resB hX hb; replace hR := resB hR hb; replace hs := Nat.le_trans (Nat.le_of_eq hs) hb.size; clear hb) | (go_at_call 43; refine (HU.out _).mono ?_; rintro e w' ⟨rfl, rfl⟩))
  clear HD HU
  go_wp2_with fail
  refine (HC.out _ hB).mono ?_
  rintro e w2 ⟨⟨u, rfl, hown⟩, hb⟩
  replace hB := thenB hB hb
  replace hR := resB hR hb
  replace hX := resB hX hb
  replace hown := owns_mono hown hs
  replace hs := Nat.le_trans hs hb.size
  clear hb HC
  obtain ⟨a', c', rfl⟩ := owns_form hown
  have hO := resM w2 (.int .i64 3) (.int .i64 su) (.int .i64 nx) (.int .i64 gt) (.int .i64 sl) (.slice a' l.length c') 24
  have hn : Below w2.heap.size w2 (w2.alloc (.cells #[.int .i64 3, .int .i64 su, .int .i64 nx, .int .i64 gt, .int .i64 sl, .slice a' l.length c'] 24)) := (Below.refl _ _).alloc (Nat.le_refl _) _
  replace hB := thenB hB hn
  replace hR := resB hR hn
  replace hX := resB hX hn
  have hne := fun k (hk : Value.ownBlock (.slice a' l.length c') = some k) => Nat.ne_of_lt (hown.lt k hk).2
  replace hown := owns_below hown hn
  have hs3 := Nat.le_trans hs hn.size
  clear hn
  go_upto_region 4 with fail
  generalize w2.alloc _ = W2 at *
  generalize w2.heap.size = B3 at *
  have HB := hide hB
  have HO := hide hown
  have HR := hide hR
  have HX := hide hX
  clear hB hown hR hX
  go_upto_region 5 with fail
  have hq0 : B3 ≠ w.heap.size := by omega
  have hq1 : B3 ≠ w.heap.size + 1 := by omega
  replace hO := res0 hO (.int .i64 1)
  have hR := resO HR.out hq1 0 (.int .i64 1)
  have hX := resO HX.out hq0 0 (.int .i64 1)
  have hB := HB.out.setCell (p := ⟨B3, 0, none⟩) (show w.heap.size ≤ B3 by omega) (.int .i64 1)
  have hown := ownsRow_setCell_other HO.out (a := ⟨B3, 0, none⟩) (fun h => hne B3 h rfl) (.int .i64 1)
  replace hs3 : w.heap.size + 1 + 1 ≤ (W2.setCell ⟨B3, 0, none⟩ (.int .i64 1)).heap.size := by rw [size_set]; exact hs3
  clear HB HO HR HX
  generalize W2.setCell _ _ = W3 at *
  obtain rfl := text_none ht
  have hb1 := eq_f h
  have hb2 : (b != nx) = false := by rw [HH.out]; exact bne_self_eq_false _
  have HB := hide hB
  have HO := hide hown
  have HR := hide hR
  clear hB hown hR
  go_upto_region 27 with fail
  replace hO := res0 hO (.int .i64 4)
  have hR := resO HR.out hq1 0 (.int .i64 4)
  have hB := HB.out.setCell (p := ⟨B3, 0, none⟩) (show w.heap.size ≤ B3 by omega) (.int .i64 4)
  have hown := ownsRow_setCell_other HO.out (a := ⟨B3, 0, none⟩) (fun h => hne B3 h rfl) (.int .i64 4)
  clear HB HO HR hX hs3
  generalize W3.setCell _ _ = W4 at *
  go_wp2_with fail
  exact bodyPost_ret (v := .tuple #[.agg #[.int .i64 4, .int .i64 su, .int .i64 nx, .int .i64 gt, .int .i64 sl, .slice a' l.length c'], .int .i64 0]) (by simp [results, Tryz.results32, go_sem, hR]) rfl ⟨_, rfl, owns_mono (base := w.heap.size + 1 + 1) (own6 hown (Nat.lt_succ_self _) _ _ _ _ _ _) (by omega), set6 hB (Nat.le_succ _)⟩
theorem room_no {d : FDev} {n : Int} (h : roomB d n = false) : ¬ d.gt % 32 = 0 ∨ (d.gt % 32 = 0 ∧ 288 < d.gt + n) ∨ (d.gt % 32 = 0 ∧ ¬ 288 < d.gt + n ∧ 16 ≤ d.nx) := by
  have hn : ¬ roomB d n = true := by rw [h]; simp
  rw [room_iff] at hn
  by_cases h1 : d.gt % 32 = 0
  · by_cases h2 : 288 < d.gt + n
    · exact .inr (.inl ⟨h1, h2⟩)
    · exact .inr (.inr ⟨h1, h2, Int.not_lt.1 (fun h3 => hn ⟨h1, by omega, h3⟩)⟩)
  · exact .inl h1
set_option maxRecDepth 100000 in
set_option maxHeartbeats 4000000 in
theorem ref_g4 (f : ByteArray) (d : FDev) (v : Value) (b : Int) (t : ByteArray) (w : World) (hv : IsSt w v d.ops) (hok : okB f d b t = true) (hsa : d.sa = 3) (h : ¬ b = d.nx - 1) (h' : b = d.nx) (ht : ¬ t.size = 0) (hr : roomB d t.size = false) : Calls Tryz.prog 32 #[.string f, .agg #[.int .i64 d.sa, .int .i64 d.su, .int .i64 d.nx, .int .i64 d.gt, .int .i64 d.sl, v], .int .i64 b, .string t] w (Gave w (failedD 4) 0) := by
  have HD : Hid (∀ (w' : World), Below w.heap.size w w' → _) := fun w' hb => both_any f d v w' (hv.below hb)
  have HU := hide (fun w => DevRef.up16_any b 65535 w)
  obtain ⟨h1, h2, _, h4, h6⟩ := okB_parts.1 hok
  obtain ⟨⟨n0, n1⟩, ⟨g0, g1⟩, ⟨l0, l1⟩, hl⟩ := dev_parts h2
  have HC : Hid (∀ (w' : World), Below w.heap.size w w' → _) := fun w' hb => copyRef_any d v w' (by omega) (hv.below hb)
  obtain ⟨hX, hR, hB, hs⟩ := two_boxes w (.int .i64 d.sa) (.int .i64 d.su) (.int .i64 d.nx) (.int .i64 d.gt) (.int .i64 d.sl) v
  rw [h1, h2, Bool.true_and] at HD
  rw [upB_iff.2 h4] at HU
  have h9 : ¬ 32 < (t.size : Int) := by omega
  obtain ⟨a, ca, rfl, _, _⟩ := hv
  have HH := hide h'
  clear h'
  have HW := hide (room_no hr)
  clear hr
  obtain ⟨sa, su, nx, gt, sl, l⟩ := d
  dsimp only at *
  subst hsa
  clear h1 h2 hok
  go_enter Tryz.func32, Tryz.ntmps32
  go_upto_region 3 with (first | (go_at_call 28; refine (HD.out _ hB).mono ?_; rintro e w' ⟨rfl, hb⟩; replace hB := thenB hB hb; replace hX := resB hX hb; replace hR := resB hR hb; replace hs := Nat.le_trans (Nat.le_of_eq hs) hb.size; clear hb) | (go_at_call 43; refine (HU.out _).mono ?_; rintro e w' ⟨rfl, rfl⟩))
  clear HD HU
  go_wp2_with fail
  refine (HC.out _ hB).mono ?_
  rintro e w2 ⟨⟨u, rfl, hown⟩, hb⟩
  replace hB := thenB hB hb
  replace hR := resB hR hb
  replace hX := resB hX hb
  replace hown := owns_mono hown hs
  replace hs := Nat.le_trans hs hb.size
  clear hb HC
  obtain ⟨a', c', rfl⟩ := owns_form hown
  have hO := resM w2 (.int .i64 3) (.int .i64 su) (.int .i64 nx) (.int .i64 gt) (.int .i64 sl) (.slice a' l.length c') 24
  have hn : Below w2.heap.size w2 (w2.alloc (.cells #[.int .i64 3, .int .i64 su, .int .i64 nx, .int .i64 gt, .int .i64 sl, .slice a' l.length c'] 24)) := (Below.refl _ _).alloc (Nat.le_refl _) _
  replace hB := thenB hB hn
  replace hR := resB hR hn
  replace hX := resB hX hn
  have hne := fun k (hk : Value.ownBlock (.slice a' l.length c') = some k) => Nat.ne_of_lt (hown.lt k hk).2
  replace hown := owns_below hown hn
  have hs3 := Nat.le_trans hs hn.size
  clear hn
  go_upto_region 4 with fail
  generalize w2.alloc _ = W2 at *
  generalize w2.heap.size = B3 at *
  have HB := hide hB
  have HO := hide hown
  have HR := hide hR
  have HX := hide hX
  clear hB hown hR hX
  go_upto_region 5 with fail
  have hq0 : B3 ≠ w.heap.size := by omega
  have hq1 : B3 ≠ w.heap.size + 1 := by omega
  replace hO := res0 hO (.int .i64 1)
  have hR := resO HR.out hq1 0 (.int .i64 1)
  have hX := resO HX.out hq0 0 (.int .i64 1)
  have hB := HB.out.setCell (p := ⟨B3, 0, none⟩) (show w.heap.size ≤ B3 by omega) (.int .i64 1)
  have hown := ownsRow_setCell_other HO.out (a := ⟨B3, 0, none⟩) (fun h => hne B3 h rfl) (.int .i64 1)
  replace hs3 : w.heap.size + 1 + 1 ≤ (W2.setCell ⟨B3, 0, none⟩ (.int .i64 1)).heap.size := by rw [size_set]; exact hs3
  clear HB HO HR HX
  generalize W2.setCell _ _ = W3 at *
  have ht0 := text_some ht
  have hb1 := eq_f h
  have hb2 : (b != nx) = false := by rw [HH.out]; exact bne_self_eq_false _
  have hgw : ∃ g : Nat, gt = (g : Int) := ⟨gt.toNat, by omega⟩
  obtain ⟨g, rfl⟩ := hgw
  rcases HW.out with h5 | ⟨h5, h7⟩ | ⟨h5, h7, h8⟩
  all_goals
    clear HW
    clear hO hown
    go_wp2_with fail
    refine (DevRef.failedRef_any _ _).mono ?_
    rintro e w3 ⟨rfl, hb⟩
    replace hB := thenB hB hb
    replace hR := resB hR hb
    clear hb
    go_wp2_with fail
    exact bodyPost_ret (v := .tuple #[.agg #[.int .i64 7, .int .i64 4, .int .i64 0, .int .i64 0, .int .i64 0, .slice none 0 0], .int .i64 0]) (by simp [results, Tryz.results32, go_sem, hR]) rfl ⟨_, rfl, owns_nil _ _ _, set6 hB (Nat.le_succ _)⟩
set_option maxRecDepth 100000 in
set_option maxHeartbeats 4000000 in
theorem ref_g5 (f : ByteArray) (d : FDev) (v : Value) (b : Int) (t : ByteArray) (w : World) (hv : IsSt w v d.ops) (hok : okB f d b t = true) (hsa : d.sa = 3) (h : ¬ b = d.nx - 1) (h' : b = d.nx) (ht : ¬ t.size = 0) (hr : roomB d t.size = true) : Calls Tryz.prog 32 #[.string f, .agg #[.int .i64 d.sa, .int .i64 d.su, .int .i64 d.nx, .int .i64 d.gt, .int .i64 d.sl, v], .int .i64 b, .string t] w (Gave w (moreD d t) 0) := by
  have HD : Hid (∀ (w' : World), Below w.heap.size w w' → _) := fun w' hb => both_any f d v w' (hv.below hb)
  have HU := hide (fun w => DevRef.up16_any b 65535 w)
  obtain ⟨h1, h2, _, h4, h6⟩ := okB_parts.1 hok
  obtain ⟨⟨n0, n1⟩, ⟨g0, g1⟩, ⟨l0, l1⟩, hl⟩ := dev_parts h2
  have HC : Hid (∀ (w' : World), Below w.heap.size w w' → _) := fun w' hb => copyRef_any d v w' (by omega) (hv.below hb)
  obtain ⟨hX, hR, hB, hs⟩ := two_boxes w (.int .i64 d.sa) (.int .i64 d.su) (.int .i64 d.nx) (.int .i64 d.gt) (.int .i64 d.sl) v
  rw [h1, h2, Bool.true_and] at HD
  rw [upB_iff.2 h4] at HU
  have h9 : ¬ 32 < (t.size : Int) := by omega
  obtain ⟨a, ca, rfl, _, _⟩ := hv
  have HH := hide h'
  clear h'
  obtain ⟨r1, r2, r3⟩ := room_iff.1 hr
  have C2 := hide (fun w => ActRef.refBase_any d.sl w)
  have C3 := hide (fun w => OpsHelp.refWords_any (baseI d.sl + d.gt) t w)
  obtain ⟨p0, p1⟩ := base_le d.sl
  unfold moreD
  generalize errO (wordsOk (baseI d.sl + d.gt) t) = E3 at *
  generalize errI (baseOk d.sl) = E2 at *
  generalize wordsL (baseI d.sl + d.gt) t = LW at *
  generalize baseI d.sl = P at *
  clear hr
  obtain ⟨sa, su, nx, gt, sl, l⟩ := d
  dsimp only at *
  subst hsa
  clear h1 h2 hok
  go_enter Tryz.func32, Tryz.ntmps32
  go_upto_region 3 with (first | (go_at_call 28; refine (HD.out _ hB).mono ?_; rintro e w' ⟨rfl, hb⟩; replace hB := thenB hB hb; replace hX := resB hX hb; replace hR := resB hR hb; replace hs := Nat.le_trans (Nat.le_of_eq hs) hb.size; clear hb) | (go_at_call 43; refine (HU.out _).mono ?_; rintro e w' ⟨rfl, rfl⟩))
  clear HD HU
  go_wp2_with fail
  refine (HC.out _ hB).mono ?_
  rintro e w2 ⟨⟨u, rfl, hown⟩, hb⟩
  replace hB := thenB hB hb
  replace hR := resB hR hb
  replace hX := resB hX hb
  replace hown := owns_mono hown hs
  replace hs := Nat.le_trans hs hb.size
  clear hb HC
  obtain ⟨a', c', rfl⟩ := owns_form hown
  have hO := resM w2 (.int .i64 3) (.int .i64 su) (.int .i64 nx) (.int .i64 gt) (.int .i64 sl) (.slice a' l.length c') 24
  have hn : Below w2.heap.size w2 (w2.alloc (.cells #[.int .i64 3, .int .i64 su, .int .i64 nx, .int .i64 gt, .int .i64 sl, .slice a' l.length c'] 24)) := (Below.refl _ _).alloc (Nat.le_refl _) _
  replace hB := thenB hB hn
  replace hR := resB hR hn
  replace hX := resB hX hn
  have hne := fun k (hk : Value.ownBlock (.slice a' l.length c') = some k) => Nat.ne_of_lt (hown.lt k hk).2
  replace hown := owns_below hown hn
  have hs3 := Nat.le_trans hs hn.size
  clear hn
  go_upto_region 4 with fail
  generalize w2.alloc _ = W2 at *
  generalize w2.heap.size = B3 at *
  have HB := hide hB
  have HO := hide hown
  have HR := hide hR
  have HX := hide hX
  clear hB hown hR hX
  go_upto_region 5 with fail
  have hq0 : B3 ≠ w.heap.size := by omega
  have hq1 : B3 ≠ w.heap.size + 1 := by omega
  replace hO := res0 hO (.int .i64 1)
  have hR := resO HR.out hq1 0 (.int .i64 1)
  have hX := resO HX.out hq0 0 (.int .i64 1)
  have hB := HB.out.setCell (p := ⟨B3, 0, none⟩) (show w.heap.size ≤ B3 by omega) (.int .i64 1)
  have hown := ownsRow_setCell_other HO.out (a := ⟨B3, 0, none⟩) (fun h => hne B3 h rfl) (.int .i64 1)
  replace hs3 : w.heap.size + 1 + 1 ≤ (W2.setCell ⟨B3, 0, none⟩ (.int .i64 1)).heap.size := by rw [size_set]; exact hs3
  clear HB HO HR HX
  generalize W2.setCell _ _ = W3 at *
  have ht0 := text_some ht
  have hb1 := eq_f h
  have hb2 : (b != nx) = false := by rw [HH.out]; exact bne_self_eq_false _
  have hgw : ∃ g : Nat, gt = (g : Int) := ⟨gt.toNat, by omega⟩
  obtain ⟨g, rfl⟩ := hgw
  clear hown
  go_upto_region 31 with (go_at_call 65; refine (C2.out _).mono ?_; rintro e w4 ⟨rfl, rfl⟩)
  go_wp2_with fail
  refine (C3.out _).mono ?_
  rintro e w4 ⟨vw, rfl, hown, hb⟩
  replace hB := thenB hB hb
  have hlt3 := hO.1
  replace hR := resB hR hb
  replace hX := resB hX hb
  replace hO := resB hO hb
  clear hb C2 C3
  obtain ⟨a2, c2, rfl⟩ := owns_form hown
  have HB := hide hB
  have HO := hide hown
  have HR := hide hR
  clear hB hown hR
  go_upto_region 35 with fail
  replace hO := res3 (res2 (res5 hO (.slice a2 LW.length c2)) (.int .i64 (nx + 1))) (.int .i64 ((g : Int) + (t.size : Int)))
  have hR := resO (resO (resO HR.out hq1 5 (.slice a2 LW.length c2)) hq1 2 (.int .i64 (nx + 1))) hq1 3 (.int .i64 ((g : Int) + (t.size : Int)))
  have hB := ((HB.out.setCell (p := ⟨B3, 5, none⟩) (show w.heap.size ≤ B3 by omega) (.slice a2 LW.length c2)).setCell (p := ⟨B3, 2, none⟩) (show w.heap.size ≤ B3 by omega) (.int .i64 (nx + 1))).setCell (p := ⟨B3, 3, none⟩) (show w.heap.size ≤ B3 by omega) (.int .i64 ((g : Int) + (t.size : Int)))
  have hown := own1 (own1 (own1 HO.out hlt3 5 (.slice a2 LW.length c2)) hlt3 2 (.int .i64 (nx + 1))) hlt3 3 (.int .i64 ((g : Int) + (t.size : Int)))
  replace hown := owns_mono hown hs3
  clear HB HO HR hX hs3 hlt3
  generalize ((w4.setCell _ _).setCell _ _).setCell _ _ = W5 at *
  go_wp2_with fail
  exact bodyPost_ret (v := .tuple #[.agg #[.int .i64 1, .int .i64 su, .int .i64 (nx + 1), .int .i64 ((g : Int) + (t.size : Int)), .int .i64 sl, .slice a2 LW.length c2], .int .i64 0]) (by simp [results, Tryz.results32, go_sem, hR]) rfl ⟨_, rfl, owns_mono (base := w.heap.size + 1 + 1) (own6 hown (Nat.lt_succ_self _) _ _ _ _ _ _) (by omega), set6 hB (Nat.le_succ _)⟩
set_option maxRecDepth 100000 in
set_option maxHeartbeats 4000000 in
theorem ref_f3 (f : ByteArray) (d : FDev) (v : Value) (b : Int) (t : ByteArray) (w : World) (hv : IsSt w v d.ops) (hok : okB f d b t = true) (hsa : d.sa = 0) (ht : ¬ t.size = 0) (hb0 : b = 0) : Calls Tryz.prog 32 #[.string f, .agg #[.int .i64 d.sa, .int .i64 d.su, .int .i64 d.nx, .int .i64 d.gt, .int .i64 d.sl, v], .int .i64 b, .string t] w (Gave w (startD f d t) 0) := by
  have HD : Hid (∀ (w' : World), Below w.heap.size w w' → _) := fun w' hb => both_any f d v w' (hv.below hb)
  have HU := hide (fun w => DevRef.up16_any b 65535 w)
  obtain ⟨h1, h2, _, h4, h6⟩ := okB_parts.1 hok
  obtain ⟨⟨n0, n1⟩, ⟨g0, g1⟩, ⟨l0, l1⟩, hl⟩ := dev_parts h2
  have HC : Hid (∀ (w' : World), Below w.heap.size w w' → _) := fun w' hb => copyRef_any d v w' (by omega) (hv.below hb)
  obtain ⟨hX, hR, hB, hs⟩ := two_boxes w (.int .i64 d.sa) (.int .i64 d.su) (.int .i64 d.nx) (.int .i64 d.gt) (.int .i64 d.sl) v
  rw [h1, h2, Bool.true_and] at HD
  rw [upB_iff.2 h4] at HU
  have h9 : ¬ 32 < (t.size : Int) := by omega
  obtain ⟨a, ca, rfl, _, _⟩ := hv
  have HH := hide hb0
  clear hb0
  obtain ⟨i, hi, hz0, hz1, hz2⟩ := info_parts info_op
  have C1 := hide (fun w => ChoRef.refOther_any f w)
  have C2 := hide (fun w => ActRef.refBase_any (othI f) w)
  have C3 := hide (fun w => StaWalk.refErases_any (othI f) w)
  have C4 := hide (fun w => OpsHelp.refWords_any (baseI (othI f)) t w)
  have hE := er_three f
  rw [hE] at C3
  obtain ⟨o0, o1⟩ := oth_01 f
  have hN := words_few (baseI (othI f)) t h6
  have hlen : 1 ≤ (wordsL (baseI (othI f)) t).length := by rw [wordsL_ok (start_ok o0 o1 h6), length_wordsTo]; unfold wordsN; omega
  have HE := hide hE
  clear hE
  unfold startD
  generalize errO (wordsOk (baseI (othI f)) t) = E4 at *
  generalize errG (baseOk (othI f)) = E3 at *
  generalize errI (baseOk (othI f)) = E2 at *
  generalize errOt f = E1 at *
  generalize erL (othI f) = LE at *
  generalize wordsL (baseI (othI f)) t = LW at *
  generalize baseI (othI f) = P at *
  generalize othI f = S at *
  obtain ⟨sa, su, nx, gt, sl, l⟩ := d
  dsimp only at *
  subst hsa
  clear h1 h2 hok
  go_enter Tryz.func32, Tryz.ntmps32
  go_upto_region 3 with (first | (go_at_call 28; refine (HD.out _ hB).mono ?_; rintro e w' ⟨rfl, hb⟩; replace hB := thenB hB hb; replace hX := resB hX hb; replace hR := resB hR hb; replace hs := Nat.le_trans (Nat.le_of_eq hs) hb.size; clear hb) | (go_at_call 43; refine (HU.out _).mono ?_; rintro e w' ⟨rfl, rfl⟩))
  clear HD HU
  go_wp2_with fail
  refine (HC.out _ hB).mono ?_
  rintro e w2 ⟨⟨u, rfl, hown⟩, hb⟩
  replace hB := thenB hB hb
  replace hR := resB hR hb
  replace hX := resB hX hb
  replace hown := owns_mono hown hs
  replace hs := Nat.le_trans hs hb.size
  clear hb HC
  obtain ⟨a', c', rfl⟩ := owns_form hown
  have hO := resM w2 (.int .i64 0) (.int .i64 su) (.int .i64 nx) (.int .i64 gt) (.int .i64 sl) (.slice a' l.length c') 24
  have hn : Below w2.heap.size w2 (w2.alloc (.cells #[.int .i64 0, .int .i64 su, .int .i64 nx, .int .i64 gt, .int .i64 sl, .slice a' l.length c'] 24)) := (Below.refl _ _).alloc (Nat.le_refl _) _
  replace hB := thenB hB hn
  replace hR := resB hR hn
  replace hX := resB hX hn
  have hne := fun k (hk : Value.ownBlock (.slice a' l.length c') = some k) => Nat.ne_of_lt (hown.lt k hk).2
  replace hown := owns_below hown hn
  have hs3 := Nat.le_trans hs hn.size
  clear hn
  go_upto_region 4 with fail
  generalize w2.alloc _ = W2 at *
  generalize w2.heap.size = B3 at *
  have HB := hide hB
  have HO := hide hown
  have HR := hide hR
  have HX := hide hX
  clear hB hown hR hX
  go_upto_region 5 with fail
  have hq0 : B3 ≠ w.heap.size := by omega
  have hq1 : B3 ≠ w.heap.size + 1 := by omega
  replace hO := res0 hO (.int .i64 1)
  have hR := resO HR.out hq1 0 (.int .i64 1)
  have hX := resO HX.out hq0 0 (.int .i64 1)
  have hB := HB.out.setCell (p := ⟨B3, 0, none⟩) (show w.heap.size ≤ B3 by omega) (.int .i64 1)
  have hown := ownsRow_setCell_other HO.out (a := ⟨B3, 0, none⟩) (fun h => hne B3 h rfl) (.int .i64 1)
  replace hs3 : w.heap.size + 1 + 1 ≤ (W2.setCell ⟨B3, 0, none⟩ (.int .i64 1)).heap.size := by rw [size_set]; exact hs3
  clear HB HO HR HX
  generalize W2.setCell _ _ = W3 at *
  have ht0 := text_some ht
  have hb1 : (b != 0) = false := by rw [HH.out]; rfl
  clear hown
  go_upto_region 11 with (go_at_call 64; refine (C1.out _).mono ?_; rintro e w4 ⟨rfl, hb⟩; replace hB := thenB hB hb; replace hR := resB hR hb; replace hX := resB hX hb; replace hO := resB hO hb; replace hs3 := Nat.le_trans hs3 hb.size; clear hb)
  clear hX
  go_upto_region 12 with (go_at_call 65; refine (C2.out _).mono ?_; rintro e w4 ⟨rfl, rfl⟩)
  go_wp2_with fail
  refine (C3.out _).mono ?_
  rintro e w5 ⟨ve, rfl, hown, hb⟩
  replace hB := thenB hB hb
  replace hR := resB hR hb
  replace hO := resB hO hb
  replace hs3 := Nat.le_trans hs3 hb.size
  clear hb
  obtain ⟨g1', cap1, rfl, _, _⟩ := hown.form (by omega)
  go_wp2_with fail
  refine (C4.out _).mono ?_
  rintro e w6 ⟨vw, rfl, hownW, hb⟩
  replace hB := thenB hB hb
  replace hR := resB hR hb
  replace hO := resB hO hb
  replace hs3 := Nat.le_trans hs3 hb.size
  replace hown := owns_below hown hb
  clear hb C1 C2 C3 C4
  obtain ⟨g2', cap2, rfl, _, _⟩ := hownW.form (by omega)
  have hlt3 := hO.1
  have h0 : (w6.alloc (.cells #[] 86)).ownsRow w6.heap.size 86 3 (.slice (some ⟨w6.heap.size, 0, none⟩) 0 0) 0 [] := ⟨rfl, .inr ⟨_, _, #[], rfl, Nat.le_refl _, heap_alloc_new w6 _, Nat.le_refl _, Nat.zero_le _, rfl, rfl⟩⟩
  have HB := hide hB
  have HR := hide hR
  have HOO := hide hO
  clear hB hR hO
  go_upto_region 15 with (at_builtin; refine wpList_append_lies _ rfl _ _ _ rfl w6.heap.size 86 i _ 3 32 Tryz.underlying22 hi hz0 hz1 hz2 rfl (by omega) _ 0 _ rfl h0 ⟨g1', 0, none⟩ 3 cap1 (flat LE) rfl (by rw [length_flat, HE.out]) (news_of (hown.alloc _)) (flat_oneCell _) (by omega) (by decide) (by omega) (by simp) _ rfl ?_; intro g3 cap3 w7 hown1 hgrow1 hat1 hlt1; have hb7 := ((Below.refl w6.heap.size w6).alloc (Nat.le_refl _) (.cells #[] 86)).grown hgrow1 (by simp) (fun k hk => (h0.lt k hk).1); clear hgrow1 hat1 h0)
  replace hownW := owns_below hownW hb7
  rw [List.nil_append] at hown1
  have hs7 := hb7.size
  go_upto_region 16 with (at_builtin; refine wpList_append_lies _ rfl _ _ _ rfl w6.heap.size 86 i _ 3 32 Tryz.underlying22 hi hz0 hz1 hz2 rfl (by omega) _ 3 _ rfl hown1 ⟨g2', 0, none⟩ LW.length cap2 (flat LW) rfl (length_flat LW) (news_of hownW) (flat_oneCell _) (by omega) (by unfold maxLen; omega) (by omega) hs7 _ rfl ?_; intro g4 cap4 w8 hown2 hgrow2 hat2 hlt2; have hb8 := (Below.refl w6.heap.size w7).grown hgrow2 hs7 (fun k hk => (hown1.lt k hk).1); clear hgrow2 hat2)
  have hb9 := hb7.trans hb8
  have hO := resL HOO.out hb9 hlt3
  have hR := resL HR.out hb9 (by omega)
  have hB := thenB HB.out hb9
  clear HB HR HOO hb7 hb8 hb9 hown hown1 hownW
  have HB := hide hB
  have HR := hide hR
  have HO := hide hown2
  clear hB hR hown2
  go_upto_region 20 with fail
  replace hO := res4 (res3 (res2 (res5 hO (.slice (some ⟨g4, 0, none⟩) (3 + LW.length) cap4)) (.int .i64 1)) (.int .i64 (t.size : Int))) (.int .i64 S)
  have hR := resO (resO (resO (resO HR.out hq1 5 (.slice (some ⟨g4, 0, none⟩) (3 + LW.length) cap4)) hq1 2 (.int .i64 1)) hq1 3 (.int .i64 (t.size : Int))) hq1 4 (.int .i64 S)
  have hB := (((HB.out.setCell (p := ⟨B3, 5, none⟩) (show w.heap.size ≤ B3 by omega) (.slice (some ⟨g4, 0, none⟩) (3 + LW.length) cap4)).setCell (p := ⟨B3, 2, none⟩) (show w.heap.size ≤ B3 by omega) (.int .i64 1)).setCell (p := ⟨B3, 3, none⟩) (show w.heap.size ≤ B3 by omega) (.int .i64 (t.size : Int))).setCell (p := ⟨B3, 4, none⟩) (show w.heap.size ≤ B3 by omega) (.int .i64 S)
  have hown := own1 (own1 (own1 (own1 HO.out hlt3 5 (.slice (some ⟨g4, 0, none⟩) (3 + LW.length) cap4)) hlt3 2 (.int .i64 1)) hlt3 3 (.int .i64 (t.size : Int))) hlt3 4 (.int .i64 S)
  replace hown := owns_mono hown hs3
  clear HB HO HR hs3 hlt3
  generalize (((w8.setCell _ _).setCell _ _).setCell _ _).setCell _ _ = W5 at *
  rw [← flat_append, show 3 + LW.length = (LE ++ LW).length by rw [List.length_append, HE.out]] at hown
  rw [show 3 + LW.length = (LE ++ LW).length by rw [List.length_append, HE.out]] at hO
  have HL : Hid (3 + LW.length = (LE ++ LW).length) := by show _ = _; rw [List.length_append, HE.out]
  go_wp2_with fail
  exact bodyPost_ret (v := .tuple #[.agg #[.int .i64 1, .int .i64 su, .int .i64 1, .int .i64 (t.size : Int), .int .i64 S, .slice (some ⟨g4, 0, none⟩) (LE ++ LW).length cap4], .int .i64 0]) (by simp [results, Tryz.results32, go_sem, hR]) rfl ⟨_, rfl, owns_mono (base := w.heap.size + 1 + 1) (own6 hown (Nat.lt_succ_self _) _ _ _ _ _ _) (by omega), set6 hB (Nat.le_succ _)⟩
theorem refTake_any (f : ByteArray) (d : FDev) (v : Value) (b : Int) (t : ByteArray) (w : World) (hv : IsSt w v d.ops) : Calls Tryz.prog 32 #[.string f, .agg #[.int .i64 d.sa, .int .i64 d.su, .int .i64 d.nx, .int .i64 d.gt, .int .i64 d.sl, v], .int .i64 b, .string t] w (Gave w (takeD f d b t) (errL (okB f d b t))) := by
  cases hok : okB f d b t with
  | false => rw [take_no hok, show errL false = 1700 from rfl]; exact refTake_no f d v b t w hv hok
  | true =>
    rw [show errL true = 0 from rfl]
    rcases (okB_parts.1 hok).2.2.1 with h | h
    · rw [take_first hok h]
      unfold firstD
      split
      · rename_i h1; exact ref_f1 f d v b t w hv hok h h1
      · rename_i h1
        split
        · rename_i h2; exact ref_f3 f d v b t w hv hok h h1 h2
        · rename_i h2; exact ref_f2 f d v b t w hv hok h h1 h2
    · rw [take_further hok h]
      unfold furtherD
      by_cases h1 : b = d.nx - 1
      · rw [if_pos h1]; exact ref_g1 f d v b t w hv hok h h1
      rw [if_neg h1]
      by_cases h2 : b = d.nx
      · rw [if_neg (by simp [h2])]
        by_cases h3 : t.size = 0
        · rw [if_pos h3]; exact ref_g3 f d v b t w hv hok h h1 h2 h3
        rw [if_neg h3]
        cases h4 : roomB d (t.size : Int) with
        | true => rw [if_pos rfl]; exact ref_g5 f d v b t w hv hok h h1 h2 h3 h4
        | false => rw [if_neg (by simp)]; exact ref_g4 f d v b t w hv hok h h1 h2 h3 h4
      · rw [if_pos h2]; exact ref_g2 f d v b t w hv hok h h1 h2
end Go.Proofs.YtmlfkbkpkgaefaaGreatDoor.DnlDoc
