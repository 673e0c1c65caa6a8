/- The contracts of package status: the device behind the question. -/
import Derived.Test.YthdnpgkoanfijaaStsWalk
import Derived.Deep.Cut
namespace Go.Proofs.Ythdnpgkoanfijaa.StsAsk
open Go.Proofs.Ythdnpgkoanfijaa Go.RowKit Go.Proofs.Ythdnpgkoanfijaa.Bytes Go.Proofs.Ythdnpgkoanfijaa.Ops Go.Proofs.Ythdnpgkoanfijaa.OpsRow Go.Proofs.Ythdnpgkoanfijaa.Jou Go.Proofs.Ythdnpgkoanfijaa.Act Go.Proofs.Ythdnpgkoanfijaa.Dev Go.Proofs.Ythdnpgkoanfijaa.DevRow Go.Proofs.Ythdnpgkoanfijaa.DevSet Go.Proofs.Ythdnpgkoanfijaa.Dnl Go.Proofs.Ythdnpgkoanfijaa.DnlCopy Go.Proofs.Ythdnpgkoanfijaa.Tic Go.Proofs.Ythdnpgkoanfijaa.TicRow Go.Proofs.Ythdnpgkoanfijaa.Sts Go.Proofs.Ythdnpgkoanfijaa.StsWalk
open Go.Proofs.Ythdnpgkoanfijaa.DnlWalk (fail_is ne_t eq_f)
attribute [local go_sem ↓] Go.wp_at_zero Go.wp_at_succ
set_option maxRecDepth 100000 in
set_option maxHeartbeats 2000000 in
theorem mani_any (f : ByteArray) (d : FDev) (v : Value) (w : World) (hv : IsSt w v d.ops) (hd : devB d = true) : Calls Try.prog 45 #[.string f, .agg #[.int .i64 d.sa, .int .i64 d.su, .int .i64 d.nx, .int .i64 d.gt, .int .i64 d.sl, v]] w fun r w' => ∃ u, r = .returned (.agg #[.int .i64 (maniD f d).sa, .int .i64 (maniD f d).su, .int .i64 (maniD f d).nx, .int .i64 (maniD f d).gt, .int .i64 (maniD f d).sl, u]) ∧ OwnSt w' w.heap.size u (maniD f d).ops ∧ Below w.heap.size w w' := by
  have HF : Hid (∀ (w' : World), Below w.heap.size w w' → _) := fun w' hb => fail_is d v 3 w' (hv.below hb) hd rfl
  have C1 := hide (fun w => record_steps f d.sl d.gt w)
  obtain ⟨hX, hR, hB, hs⟩ := two_boxes w (.int .i64 d.sa) (.int .i64 d.su) (.int .i64 d.nx) (.int .i64 d.gt) (.int .i64 d.sl) v
  obtain ⟨a, ca, rfl, _, _⟩ := hv
  have HM := hide (show maniD f d = if errS f d.sl d.gt = 0 then ⟨5, d.su, d.nx, d.gt, d.sl, recL f d.sl d.gt⟩ else failedD 3 from rfl)
  generalize maniD f d = D at *
  by_cases h : errS f d.sl d.gt = 0
  · have h1 := HM.out
    rw [if_pos h] at h1
    subst h1
    rw [h] at C1
    clear h HF HM hd
    generalize recL f d.sl d.gt = L at *
    obtain ⟨sa, su, nx, gt, sl, l⟩ := d
    dsimp only at *
    go_enter Try.func45, Try.ntmps45
    go_wp2_with fail
    refine (C1.out _).mono ?_
    generalize (w.alloc _).alloc _ = W at *
    rintro e w2 ⟨u, rfl, hown, hb⟩
    replace hB := thenB hB hb
    replace hR := resB hR hb
    replace hX := resB hX hb
    rw [← hs] at hown
    clear hb C1
    obtain ⟨a', c', rfl⟩ := owns_form hown
    have HB := hide hB
    have HO := hide hown
    have HR := hide hR
    clear hB hown hR
    go_upto_region 6 with fail
    have hne : w.heap.size ≠ w.heap.size + 1 := Nat.ne_of_lt (Nat.lt_succ_self _)
    replace hX := res5 (res0 hX (.int .i64 5)) (.slice a' L.length c')
    have hR := resO (resO HR.out hne 0 (.int .i64 5)) hne 5 (.slice a' L.length c')
    have hB := (HB.out.setCell (p := ⟨w.heap.size, 0, none⟩) (Nat.le_refl _) (.int .i64 5)).setCell (p := ⟨w.heap.size, 5, none⟩) (Nat.le_refl _) (.slice a' L.length c')
    have hlw : w.heap.size < w.heap.size + 1 + 1 := by omega
    have hO := own1 (own1 HO.out hlw 0 (.int .i64 5)) hlw 5 (.slice a' L.length c')
    clear HB HO HR
    generalize (w2.setCell _ _).setCell _ _ = W3 at *
    go_wp2_with fail
    exact bodyPost_ret (v := .agg #[.int .i64 5, .int .i64 su, .int .i64 nx, .int .i64 gt, .int .i64 sl, .slice a' L.length c']) (by simp [results, Try.results45, go_sem, hR]) rfl ⟨_, rfl, (own_of (own6 hO (Nat.lt_succ_self _) _ _ _ _ _ _)).mono (by omega), set6 hB (Nat.le_succ _)⟩
  · have h1 := HM.out
    rw [if_neg h] at h1
    subst h1
    have h2 := ne_t h
    generalize errS f d.sl d.gt = E at *
    generalize recL f d.sl d.gt = L at *
    clear HM hd h
    obtain ⟨sa, su, nx, gt, sl, l⟩ := d
    dsimp only at *
    go_enter Try.func45, Try.ntmps45
    go_wp2_with fail
    refine (C1.out _).mono ?_
    generalize (w.alloc _).alloc _ = W at *
    rintro e w2 ⟨u, rfl, hown, hb⟩
    replace hB := thenB hB hb
    replace hR := resB hR hb
    replace hX := resB hX hb
    clear hb C1
    obtain ⟨a', c', rfl⟩ := owns_form hown
    clear hown
    go_wp2_with fail
    refine (HF.out _ hB).mono ?_
    rintro e w3 ⟨rfl, hb⟩
    replace hB := thenB hB hb
    replace hR := resB hR hb
    clear hb HF hX
    have hF := resM w3 (.int .i64 7) (.int .i64 3) (.int .i64 0) (.int .i64 0) (.int .i64 0) (.slice none 0 0) 24
    have hn := hal w3 (.cells #[.int .i64 7, .int .i64 3, .int .i64 0, .int .i64 0, .int .i64 0, .slice none 0 0] 24)
    replace hB := thenB hB hn
    replace hR := resB hR hn
    clear hn
    go_wp2_with fail
    exact bodyPost_ret (v := .agg #[.int .i64 7, .int .i64 3, .int .i64 0, .int .i64 0, .int .i64 0, .slice none 0 0]) (by simp [results, Try.results45, go_sem, hR]) rfl ⟨_, rfl, own_none _ _, set6 hB (Nat.le_succ _)⟩
set_option maxRecDepth 100000 in
set_option maxHeartbeats 2000000 in
theorem asked_any (f : ByteArray) (d : FDev) (v : Value) (w : World) (base : Nat) (hb0 : base ≤ w.heap.size) (hv : OwnSt w base v d.ops) (hd : devB d = true) : Calls Try.prog 23 #[.string f, .agg #[.int .i64 d.sa, .int .i64 d.su, .int .i64 d.nx, .int .i64 d.gt, .int .i64 d.sl, v]] w fun r w' => ∃ u, r = .returned (.agg #[.int .i64 (askD f d).sa, .int .i64 (askD f d).su, .int .i64 (askD f d).nx, .int .i64 (askD f d).gt, .int .i64 (askD f d).sl, u]) ∧ OwnSt w' base u (askD f d).ops ∧ Below w.heap.size w w' := by
  have HY : Hid (∀ (w' : World), Below w.heap.size w w' → _) := fun w' hb => synced_any d v w' (hv.is.below hb)
  have HM : Hid (∀ (w' : World), Below w.heap.size w w' → _) := fun w' hb => mani_any f d v w' (hv.is.below hb) hd
  obtain ⟨hX, hR, hB, hs⟩ := two_boxes w (.int .i64 d.sa) (.int .i64 d.su) (.int .i64 d.nx) (.int .i64 d.gt) (.int .i64 d.sl) v
  obtain ⟨a, c, rfl⟩ := hv.form
  have HV := hide hv
  clear hv hd
  by_cases h1 : d.sa = 1
  · rw [ask_sync h1]
    clear HM
    generalize syncI d = S at *
    obtain ⟨sa, su, nx, gt, sl, l⟩ := d
    dsimp only at *
    subst h1
    go_enter Try.func23, Try.ntmps23
    go_wp2_with fail
    refine (HY.out _ hB).mono ?_
    generalize (w.alloc _).alloc _ = W at *
    rintro e w2 ⟨rfl, hb⟩
    replace hB := thenB hB hb
    replace hR := resB hR hb
    replace hX := resB hX hb
    clear hb HY
    have HB := hide hB
    have HR := hide hR
    clear hB hR
    go_upto_region 5 with fail
    have hne : w.heap.size ≠ w.heap.size + 1 := Nat.ne_of_lt (Nat.lt_succ_self _)
    replace hX := res0 hX (.int .i64 S)
    have hR := resO HR.out hne 0 (.int .i64 S)
    have hB := HB.out.setCell (p := ⟨w.heap.size, 0, none⟩) (Nat.le_refl _) (.int .i64 S)
    clear HB HR
    generalize w2.setCell _ _ = W3 at *
    go_wp2_with fail
    have hB2 := set6 (x0 := .int .i64 S) (x1 := .int .i64 su) (x2 := .int .i64 nx) (x3 := .int .i64 gt) (x4 := .int .i64 sl) (x5 := .slice a l.length c) hB (Nat.le_succ w.heap.size)
    exact bodyPost_ret (v := .agg #[.int .i64 S, .int .i64 su, .int .i64 nx, .int .i64 gt, .int .i64 sl, .slice a l.length c]) (by simp [results, Try.results23, go_sem, hR]) rfl ⟨_, rfl, HV.out.below hB2, hB2⟩
  have g1 := eq_f h1
  by_cases h4 : d.sa = 4
  · rw [ask_mani h4]
    clear HY HV
    generalize maniD f d = D at *
    obtain ⟨xa, xu, xn, xg, xl, xo⟩ := D
    obtain ⟨sa, su, nx, gt, sl, l⟩ := d
    dsimp only at *
    subst h4
    go_enter Try.func23, Try.ntmps23
    go_wp2_with fail
    refine (HM.out _ hB).mono ?_
    generalize (w.alloc _).alloc _ = W at *
    rintro e w2 ⟨u, rfl, hO, hb⟩
    replace hB := thenB hB hb
    replace hR := resB hR hb
    rw [← hs] at hO
    clear hb HM hX
    obtain ⟨a3, c3, rfl⟩ := hO.form
    go_wp2_with fail
    exact bodyPost_ret (v := .agg #[.int .i64 xa, .int .i64 xu, .int .i64 xn, .int .i64 xg, .int .i64 xl, .slice a3 xo.length c3]) (by simp [results, Try.results23, go_sem, hR]) rfl ⟨_, rfl, (hO.set6 (Nat.lt_succ_self _) _ _ _ _ _ _).mono (by omega), set6 hB (Nat.le_succ _)⟩
  · rw [ask_other h1 h4]
    have g4 := eq_f h4
    clear HM HY
    obtain ⟨sa, su, nx, gt, sl, l⟩ := d
    dsimp only at *
    go_enter Try.func23, Try.ntmps23
    go_wp2_with fail
    refine bodyPost_ret (v := .agg #[.int .i64 sa, .int .i64 su, .int .i64 nx, .int .i64 gt, .int .i64 sl, .slice a l.length c]) (by simp [results, Try.results23, go_sem]) rfl ⟨_, rfl, HV.out.below ?_, ?_⟩ <;> exact thenB (hal _ _) (hal _ _)
end Go.Proofs.Ythdnpgkoanfijaa.StsAsk
