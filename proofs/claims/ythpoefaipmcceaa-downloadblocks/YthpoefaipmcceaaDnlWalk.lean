/- The contracts of package download: each call answers the device that the plain functions give, whatever its arguments; its steps lie in memory of their own. -/
import Derived.Test.YthpoefaipmcceaaDnlCopy
import Derived.Test.YthpoefaipmcceaaChoWalk
import Derived.Test.YthpoefaipmcceaaStaWalk
namespace Go.Proofs.Ythpoefaipmcceaa.DnlWalk
open Go.Proofs.Ythpoefaipmcceaa Go.RowKit Go.Proofs.Ythpoefaipmcceaa.Bytes Go.Proofs.Ythpoefaipmcceaa.Ops Go.Proofs.Ythpoefaipmcceaa.OpsRow Go.Proofs.Ythpoefaipmcceaa.Jou Go.Proofs.Ythpoefaipmcceaa.Act Go.Proofs.Ythpoefaipmcceaa.Cho Go.Proofs.Ythpoefaipmcceaa.Sta Go.Proofs.Ythpoefaipmcceaa.Dev Go.Proofs.Ythpoefaipmcceaa.DevRow Go.Proofs.Ythpoefaipmcceaa.DevSet Go.Proofs.Ythpoefaipmcceaa.Dnl Go.Proofs.Ythpoefaipmcceaa.DnlCopy
open Go.Proofs.Ythpoefaipmcceaa.OpsWalk (size_alloc1 info_op)
open Go.Proofs.Ythpoefaipmcceaa.EntRow (text_ne)
open Go.Proofs.Ythpoefaipmcceaa.DevWalk (build_d0)
attribute [local go_sem ↓] Go.wp_at_zero Go.wp_at_succ
/-- A device and an error are given back; the device's steps lie in memory made since. -/
abbrev Gave (w : World) (D : FDev) (e : Int) (r : Ending) (w' : World) : Prop := ∃ u, r = .returned (.tuple #[.agg #[.int .i64 D.sa, .int .i64 D.su, .int .i64 D.nx, .int .i64 D.gt, .int .i64 D.sl, u], .int .i64 e]) ∧ w'.ownsRow w.heap.size 44 3 u D.ops.length (flat D.ops) ∧ Below w.heap.size w w'
theorem fail_is (d : FDev) (v : Value) (s : Int) (w : World) (hv : IsSt w v d.ops) (hd : devB d = true) (hs : flB s = true) : Calls Try.prog 40 #[.agg #[.int .i64 d.sa, .int .i64 d.su, .int .i64 d.nx, .int .i64 d.gt, .int .i64 d.sl, v], .int .i64 s] w fun r w' => r = .returned (.tuple #[.agg #[.int .i64 7, .int .i64 s, .int .i64 0, .int .i64 0, .int .i64 0, .slice none 0 0], .int .i64 0]) ∧ Below w.heap.size w w' := by
  have g := DevFail.fail_any d v s w hv
  have hF : failB d s = true := by unfold failB; rw [hd, hs]; rfl
  rw [hF] at g
  exact g
theorem text_none {t : ByteArray} (h : t.size = 0) : t = ⟨#[]⟩ := by
  apply ba_ext
  have : t.data.toList.length = 0 := by rw [Nor.size_list]; exact h
  exact List.length_eq_zero_iff.1 this
theorem list_none : (⟨#[]⟩ : ByteArray).toList = [] := by kernel_rfl
theorem text_some {t : ByteArray} (h : ¬ t.size = 0) : t.toList.isEmpty = false := by
  have g := text_ne (a := t) (b := ⟨#[]⟩) (fun e => h (by rw [e]; rfl))
  rw [list_none] at g
  cases hc : t.toList with
  | nil => rw [hc] at g; cases g
  | cons x l => rfl
theorem ne_t {a b : Int} (h : ¬ a = b) : (a != b) = true := bne_iff_ne.2 h
theorem eq_f {a b : Int} (h : ¬ a = b) : (a == b) = false := beq_eq_false_iff_ne.2 h
/-- A struct that lies below what was written. -/
theorem resL {w w' : World} {B K : Nat} {x0 x1 x2 x3 x4 x5 : Value} (h : Res w B x0 x1 x2 x3 x4 x5) (hb : Below K w w') (hK : B < K) : Res w' B x0 x1 x2 x3 x4 x5 := by
  obtain ⟨h, h0, h1, h2, h3, h4, h5, h6⟩ := h
  exact ⟨Nat.lt_of_lt_of_le h hb.size, by rw [hb.cell (p := ⟨B, 0, none⟩) hK]; exact h0, by rw [hb.cell (p := ⟨B, 1, none⟩) hK]; exact h1, by rw [hb.cell (p := ⟨B, 2, none⟩) hK]; exact h2, by rw [hb.cell (p := ⟨B, 3, none⟩) hK]; exact h3, by rw [hb.cell (p := ⟨B, 4, none⟩) hK]; exact h4, by rw [hb.cell (p := ⟨B, 5, none⟩) hK]; exact h5, fun i => by rw [hb.frozen (p := ⟨B, i, none⟩) hK]; exact h6 i⟩
set_option maxRecDepth 100000 in
set_option maxHeartbeats 2000000 in
theorem first_any (f : ByteArray) (d : FDev) (v : Value) (b : Int) (t : ByteArray) (w : World) (hv : IsSt w v d.ops) (hd : devB d = true) (ht : t.size ≤ 32) : Calls Try.prog 22 #[.string f, .agg #[.int .i64 d.sa, .int .i64 d.su, .int .i64 d.nx, .int .i64 d.gt, .int .i64 d.sl, v], .int .i64 b, .string t] w (Gave w (firstD f d b t) 0) := by
  have HF : Hid (∀ (s : Int) (w' : World), flB s = true → Below w.heap.size w w' → Calls Try.prog 40 #[.agg #[.int .i64 d.sa, .int .i64 d.su, .int .i64 d.nx, .int .i64 d.gt, .int .i64 d.sl, v], .int .i64 s] w' fun r w'' => r = .returned (.tuple #[.agg #[.int .i64 7, .int .i64 s, .int .i64 0, .int .i64 0, .int .i64 0, .slice none 0 0], .int .i64 0]) ∧ Below w'.heap.size w' w'') := fun s w' hs hb => fail_is d v s w' (hv.below hb) hd hs
  obtain ⟨hD, hR, hB, hs⟩ := two_boxes w (.int .i64 d.sa) (.int .i64 d.su) (.int .i64 d.nx) (.int .i64 d.gt) (.int .i64 d.sl) v
  obtain ⟨a, ca, rfl, _, _⟩ := hv
  by_cases h0 : t.size = 0
  · have hf : firstD f d b t = failedD 5 := by unfold firstD; rw [if_pos h0]
    rw [hf]
    obtain rfl := text_none h0
    clear h0 hf
    go_enter Try.func22, Try.ntmps22
    go_wp2_with fail
    refine (HF.out _ _ rfl hB).mono ?_
    generalize (w.alloc _).alloc _ = W at *
    rintro e w2 ⟨rfl, hb⟩
    replace hB := thenB hB hb
    replace hR := resB hR hb
    clear hb HF hD
    go_wp2_with fail
    exact bodyPost_ret (v := .tuple #[.agg #[.int .i64 7, .int .i64 5, .int .i64 0, .int .i64 0, .int .i64 0, .slice none 0 0], .int .i64 0]) (by simp [results, Try.results22, go_sem, hR]) rfl ⟨_, rfl, owns_nil _ _ _, set6 hB (Nat.le_succ _)⟩
  have ht0 := text_some h0
  by_cases h1 : b = 0
  · have hf : firstD f d b t = startD f d t := by unfold firstD; rw [if_neg h0, if_pos h1]
    rw [hf]
    subst h1
    obtain ⟨i, hi, hz0, hz1, hz2⟩ := info_parts info_op
    have C1 := hide (fun w => ChoWalk.other_any f w)
    have C2 := hide (fun w => StaWalk.erases_any (othI f) w)
    have C3 := hide (fun w => words_at (othI f) 0 t w (by omega) (by omega))
    have hE := er_three f
    rw [hE] at C2
    obtain ⟨o0, o1⟩ := oth_01 f
    have hN := words_few (baseI (othI f)) t ht
    have hok := start_ok o0 o1 ht
    have hlen : 1 ≤ (wordsL (baseI (othI f)) t).length := by rw [wordsL_ok hok, length_wordsTo]; unfold wordsN; omega
    have HE := hide hE
    clear hE
    simp only [Int.add_zero] at C3
    unfold startD
    generalize errG (baseOk (othI f)) = G1 at *
    generalize errOt f = G2 at *
    generalize erL (othI f) = LE at *
    generalize wordsL (baseI (othI f)) t = LW at *
    generalize othI f = S at *
    obtain ⟨sa, su, nx, gt, sl, l⟩ := d
    dsimp only at *
    clear hf hd HF hok
    go_enter Try.func22, Try.ntmps22
    go_wp2_with fail
    refine (C1.out _).mono ?_
    generalize (w.alloc _).alloc _ = W at *
    rintro e w2 ⟨rfl, hb⟩
    replace hB := thenB hB hb
    replace hR := resB hR hb
    replace hD := resB hD hb
    replace hs := Nat.le_trans (Nat.le_of_eq hs) hb.size
    clear hb C1
    go_wp2_with fail
    refine (C2.out _).mono ?_
    rintro e w3 ⟨ve, rfl, hown, hb⟩
    replace hB := thenB hB hb
    replace hR := resB hR hb
    replace hD := resB hD hb
    replace hown := owns_mono hown hs
    replace hs := Nat.le_trans hs hb.size
    clear hb C2
    obtain ⟨a', c', rfl⟩ := owns_form hown
    have HB := hide hB
    have HO := hide hown
    have HR := hide hR
    clear hB hown hR
    go_upto_region 8 with fail
    replace hD := res4 (res3 (res2 (res0 hD (.int .i64 1)) (.int .i64 1)) (.int .i64 (t.size : Int))) (.int .i64 S)
    have hne : w.heap.size ≠ w.heap.size + 1 := Nat.ne_of_lt (Nat.lt_succ_self _)
    have hR := resO (resO (resO (resO HR.out hne 0 (.int .i64 1)) hne 2 (.int .i64 1)) hne 3 (.int .i64 (t.size : Int))) hne 4 (.int .i64 S)
    have hB := (((HB.out.setCell (p := ⟨w.heap.size, 0, none⟩) (Nat.le_refl _) (.int .i64 1)).setCell (p := ⟨w.heap.size, 2, none⟩) (Nat.le_refl _) (.int .i64 1)).setCell (p := ⟨w.heap.size, 3, none⟩) (Nat.le_refl _) (.int .i64 (t.size : Int))).setCell (p := ⟨w.heap.size, 4, none⟩) (Nat.le_refl _) (.int .i64 S)
    have hlw : w.heap.size < w.heap.size + 1 + 1 := by omega
    have hO := own1 (own1 (own1 (own1 HO.out hlw 0 (.int .i64 1)) hlw 2 (.int .i64 1)) hlw 3 (.int .i64 (t.size : Int))) hlw 4 (.int .i64 S)
    have hs2 : w.heap.size + 1 + 1 ≤ ((((w3.setCell ⟨w.heap.size, 0, none⟩ (.int .i64 1)).setCell ⟨w.heap.size, 2, none⟩ (.int .i64 1)).setCell ⟨w.heap.size, 3, none⟩ (.int .i64 (t.size : Int))).setCell ⟨w.heap.size, 4, none⟩ (.int .i64 S)).heap.size := by simp only [size_set]; exact hs
    clear HB HO HR hs
    generalize (((w3.setCell _ _).setCell _ _).setCell _ _).setCell _ _ = W3 at *
    go_wp2_with fail
    refine (C3.out _).mono ?_
    rintro e w4 ⟨vw, rfl, hown, hb⟩
    replace hB := thenB hB hb
    replace hR := resB hR hb
    replace hD := resB hD hb
    replace hO := owns_below hO hb
    replace hs2 := Nat.le_trans hs2 hb.size
    clear hb C3
    obtain ⟨g, cap, rfl, _, _⟩ := hown.form (by omega)
    have HB := hide hB
    clear hB
    go_wp2_with (at_builtin; refine wpList_append_lies _ rfl _ _ _ rfl (w.heap.size + 1 + 1) 44 i _ 3 32 Try.underlying22 hi hz0 hz1 hz2 rfl (by omega) _ 3 _ rfl hO ⟨g, 0, none⟩ LW.length cap _ rfl (length_flat LW) (news_of hown) (flat_oneCell _) (by omega) (by unfold maxLen; omega) (by omega) hs2 _ rfl ?_; intro g3 cap3 w6 hown2 hgrow2 hat2 hlt2; have hb6 := (Below.refl (w.heap.size + 1 + 1) w4).grown hgrow2 hs2 (fun k hk => (hO.lt k hk).1); replace hD := resL hD hb6 (by omega); replace hR := resL hR hb6 (by omega); replace hb6 := HB.out.trans (hb6.mono (by omega)); clear hgrow2 hat2)
    replace hR := resO hR hne 5 (.slice (some ⟨g3, 0, none⟩) (3 + LW.length) cap3)
    have hbs := set6 (x0 := .int .i64 1) (x1 := .int .i64 su) (x2 := .int .i64 1) (x3 := .int .i64 (t.size : Int)) (x4 := .int .i64 S) (x5 := .slice (some ⟨g3, 0, none⟩) (3 + LW.length) cap3) (hb6.setCell (p := ⟨w.heap.size, 5, none⟩) (Nat.le_refl _) (.slice (some ⟨g3, 0, none⟩) (3 + LW.length) cap3)) (Nat.le_succ w.heap.size)
    refine bodyPost_ret (v := .tuple #[.agg #[.int .i64 1, .int .i64 su, .int .i64 1, .int .i64 (t.size : Int), .int .i64 S, .slice (some ⟨g3, 0, none⟩) (3 + LW.length) cap3], .int .i64 0]) (by simp [results, Try.results22, go_sem, hR]) rfl ⟨_, rfl, owns_mono (base := w.heap.size + 1 + 1) ?_ (by omega), hbs⟩
    dsimp only
    rw [List.length_append, HE.out, flat_append]
    exact own6 (own1 hown2 hlw 5 _) (Nat.lt_succ_self _) _ _ _ _ _ _
  · have hf : firstD f d b t = failedD 4 := by unfold firstD; rw [if_neg h0, if_neg h1]
    rw [hf]
    have hb0 := ne_t h1
    clear hf
    go_enter Try.func22, Try.ntmps22
    go_wp2_with fail
    refine (HF.out _ _ rfl hB).mono ?_
    generalize (w.alloc _).alloc _ = W at *
    rintro e w2 ⟨rfl, hb⟩
    replace hB := thenB hB hb
    replace hR := resB hR hb
    clear hb HF hD
    go_wp2_with fail
    exact bodyPost_ret (v := .tuple #[.agg #[.int .i64 7, .int .i64 4, .int .i64 0, .int .i64 0, .int .i64 0, .slice none 0 0], .int .i64 0]) (by simp [results, Try.results22, go_sem, hR]) rfl ⟨_, rfl, owns_nil _ _ _, set6 hB (Nat.le_succ _)⟩
theorem dev_steps {d : FDev} (h : devB d = true) : mayAll d.ops = true := by
  unfold devB stepsB at h
  simp only [Bool.and_eq_true] at h
  exact h.2.2
set_option maxRecDepth 100000 in
set_option maxHeartbeats 2000000 in
theorem further_any (d : FDev) (v : Value) (b : Int) (t : ByteArray) (w : World) (hv : IsSt w v d.ops) (hd : devB d = true) (ht : t.size ≤ 32) : Calls Try.prog 23 #[.agg #[.int .i64 d.sa, .int .i64 d.su, .int .i64 d.nx, .int .i64 d.gt, .int .i64 d.sl, v], .int .i64 b, .string t] w (Gave w (furtherD d b t) 0) := by
  have HF : Hid (∀ (s : Int) (w' : World), flB s = true → Below w.heap.size w w' → Calls Try.prog 40 #[.agg #[.int .i64 d.sa, .int .i64 d.su, .int .i64 d.nx, .int .i64 d.gt, .int .i64 d.sl, v], .int .i64 s] w' fun r w'' => r = .returned (.tuple #[.agg #[.int .i64 7, .int .i64 s, .int .i64 0, .int .i64 0, .int .i64 0, .slice none 0 0], .int .i64 0]) ∧ Below w'.heap.size w' w'') := fun s w' hs hb => fail_is d v s w' (hv.below hb) hd hs
  obtain ⟨⟨n0, n1⟩, ⟨g0, g1⟩, ⟨l0, l1⟩, hl⟩ := dev_parts hd
  have hm := dev_steps hd
  have HT : Hid (∀ (s : Int) (w' : World), Below w.heap.size w w' → _) := fun s w' hb => turned_any d v s w' (hv.below hb) hm hl
  have HM : Hid (∀ (w' : World), Below w.heap.size w w' → _) := fun w' hb => room_any d v (t.size : Int) w' (hv.below hb) g0 g1 (by omega) (by omega)
  have HR := hide (room_iff (d := d) (n := (t.size : Int)))
  obtain ⟨hD, hR, hB, hs⟩ := two_boxes w (.int .i64 d.sa) (.int .i64 d.su) (.int .i64 d.nx) (.int .i64 d.gt) (.int .i64 d.sl) v
  obtain ⟨a, ca, rfl, _, _⟩ := hv
  have HD := hide (show furtherD d b t = if b = d.nx - 1 then turnD d 1 else if ¬ b = d.nx then failedD 4 else if t.size = 0 then turnD d 4 else if roomB d t.size then moreD d t else failedD 4 from rfl)
  unfold turnD moreD at HD
  generalize furtherD d b t = D at *
  generalize roomB d (t.size : Int) = R at *
  obtain ⟨sa, su, nx, gt, sl, l⟩ := d
  dsimp only at *
  clear hd hm
  by_cases h1 : b = nx - 1
  · have hD2 := HD.out
    rw [if_pos h1] at hD2
    subst hD2
    clear HD HF HM HR
    have hb1 : (b == nx - 1) = true := by rw [h1]; exact beq_self_eq_true _
    go_enter Try.func23, Try.ntmps23
    go_wp2_with fail
    refine (HT.out _ _ hB).mono ?_
    generalize (w.alloc _).alloc _ = W at *
    rintro e w2 ⟨u, rfl, hown, hb⟩
    replace hB := thenB hB hb
    replace hR := resB hR hb
    rw [← hs] at hown
    clear hb hD HT
    obtain ⟨a', c', rfl⟩ := owns_form hown
    go_wp2_with fail
    exact bodyPost_ret (v := .tuple #[.agg #[.int .i64 1, .int .i64 su, .int .i64 nx, .int .i64 gt, .int .i64 sl, .slice a' l.length c'], .int .i64 0]) (by simp [results, Try.results23, go_sem, hR]) rfl ⟨_, rfl, owns_mono (base := w.heap.size + 1 + 1) (own6 hown (Nat.lt_succ_self _) _ _ _ _ _ _) (by omega), set6 hB (Nat.le_succ _)⟩
  have hb1 := eq_f h1
  by_cases h2 : b = nx
  · subst h2
    have hb2 : (b != b) = false := bne_self_eq_false b
    by_cases h3 : t.size = 0
    · have hD2 := HD.out
      rw [if_neg h1, if_neg (by simp), if_pos h3] at hD2
      subst hD2
      obtain rfl := text_none h3
      clear HD HF HM HR
      go_enter Try.func23, Try.ntmps23
      go_wp2_with fail
      refine (HT.out _ _ hB).mono ?_
      generalize (w.alloc _).alloc _ = W at *
      rintro e w2 ⟨u, rfl, hown, hb⟩
      replace hB := thenB hB hb
      replace hR := resB hR hb
      rw [← hs] at hown
      clear hb hD HT
      obtain ⟨a', c', rfl⟩ := owns_form hown
      go_wp2_with fail
      exact bodyPost_ret (v := .tuple #[.agg #[.int .i64 4, .int .i64 su, .int .i64 b, .int .i64 gt, .int .i64 sl, .slice a' l.length c'], .int .i64 0]) (by simp [results, Try.results23, go_sem, hR]) rfl ⟨_, rfl, owns_mono (base := w.heap.size + 1 + 1) (own6 hown (Nat.lt_succ_self _) _ _ _ _ _ _) (by omega), set6 hB (Nat.le_succ _)⟩
    have ht0 := text_some h3
    cases R with
    | false =>
      have hD2 := HD.out
      rw [if_neg h1, if_neg (by simp), if_neg h3, if_neg (by simp)] at hD2
      subst hD2
      clear HD HR HT
      go_enter Try.func23, Try.ntmps23
      go_wp2_with fail
      refine (HM.out _ hB).mono ?_
      generalize (w.alloc _).alloc _ = W at *
      rintro e w2 ⟨rfl, hb⟩
      replace hB := thenB hB hb
      replace hR := resB hR hb
      replace hD := resB hD hb
      clear hb HM
      go_wp2_with fail
      refine (HF.out _ _ rfl hB).mono ?_
      rintro e w3 ⟨rfl, hb⟩
      replace hB := thenB hB hb
      replace hR := resB hR hb
      clear hb HF hD
      go_wp2_with fail
      exact bodyPost_ret (v := .tuple #[.agg #[.int .i64 7, .int .i64 4, .int .i64 0, .int .i64 0, .int .i64 0, .slice none 0 0], .int .i64 0]) (by simp [results, Try.results23, go_sem, hR]) rfl ⟨_, rfl, owns_nil _ _ _, set6 hB (Nat.le_succ _)⟩
    | true =>
      have hD2 := HD.out
      rw [if_neg h1, if_neg (by simp), if_neg h3, if_pos rfl] at hD2
      subst hD2
      obtain ⟨r1, r2, r3⟩ := HR.out.1 rfl
      have C3 := hide (fun w => words_at sl gt t w g0 g1)
      clear HD HR HT HF r1
      generalize wordsL (baseI sl + gt) t = LW at *
      go_enter Try.func23, Try.ntmps23
      go_wp2_with fail
      refine (HM.out _ hB).mono ?_
      generalize (w.alloc _).alloc _ = W at *
      rintro e w2 ⟨rfl, hb⟩
      replace hB := thenB hB hb
      replace hR := resB hR hb
      replace hD := resB hD hb
      replace hs := Nat.le_trans (Nat.le_of_eq hs) hb.size
      clear hb HM
      go_wp2_with fail
      refine (C3.out _).mono ?_
      rintro e w3 ⟨vw, rfl, hown, hb⟩
      replace hB := thenB hB hb
      replace hR := resB hR hb
      replace hD := resB hD hb
      replace hown := owns_mono hown hs
      clear hb C3
      obtain ⟨a', c', rfl⟩ := owns_form hown
      have HB := hide hB
      have HO := hide hown
      have HRR := hide hR
      clear hB hown hR
      go_upto_region 11 with fail
      replace hD := res5 (res3 (res2 (res0 hD (.int .i64 1)) (.int .i64 (b + 1))) (.int .i64 (gt + (t.size : Int)))) (.slice a' LW.length c')
      have hne : w.heap.size ≠ w.heap.size + 1 := Nat.ne_of_lt (Nat.lt_succ_self _)
      have hR := resO (resO (resO (resO HRR.out hne 0 (.int .i64 1)) hne 2 (.int .i64 (b + 1))) hne 3 (.int .i64 (gt + (t.size : Int)))) hne 5 (.slice a' LW.length c')
      have hB := (((HB.out.setCell (p := ⟨w.heap.size, 0, none⟩) (Nat.le_refl _) (.int .i64 1)).setCell (p := ⟨w.heap.size, 2, none⟩) (Nat.le_refl _) (.int .i64 (b + 1))).setCell (p := ⟨w.heap.size, 3, none⟩) (Nat.le_refl _) (.int .i64 (gt + (t.size : Int)))).setCell (p := ⟨w.heap.size, 5, none⟩) (Nat.le_refl _) (.slice a' LW.length c')
      have hlw : w.heap.size < w.heap.size + 1 + 1 := by omega
      have hO := own1 (own1 (own1 (own1 HO.out hlw 0 (.int .i64 1)) hlw 2 (.int .i64 (b + 1))) hlw 3 (.int .i64 (gt + (t.size : Int)))) hlw 5 (.slice a' LW.length c')
      clear HB HO HRR
      generalize (((w3.setCell _ _).setCell _ _).setCell _ _).setCell _ _ = W3 at *
      go_wp2_with fail
      exact bodyPost_ret (v := .tuple #[.agg #[.int .i64 1, .int .i64 su, .int .i64 (b + 1), .int .i64 (gt + (t.size : Int)), .int .i64 sl, .slice a' LW.length c'], .int .i64 0]) (by simp [results, Try.results23, go_sem, hR]) rfl ⟨_, rfl, owns_mono (base := w.heap.size + 1 + 1) (own6 hO (Nat.lt_succ_self _) _ _ _ _ _ _) (by omega), set6 hB (Nat.le_succ _)⟩
  · have hb2 := ne_t h2
    have hD2 := HD.out
    rw [if_neg h1, if_pos h2] at hD2
    subst hD2
    clear HD HM HR HT
    go_enter Try.func23, Try.ntmps23
    go_wp2_with fail
    refine (HF.out _ _ rfl hB).mono ?_
    generalize (w.alloc _).alloc _ = W at *
    rintro e w2 ⟨rfl, hb⟩
    replace hB := thenB hB hb
    replace hR := resB hR hb
    clear hb HF hD
    go_wp2_with fail
    exact bodyPost_ret (v := .tuple #[.agg #[.int .i64 7, .int .i64 4, .int .i64 0, .int .i64 0, .int .i64 0, .slice none 0 0], .int .i64 0]) (by simp [results, Try.results23, go_sem, hR]) rfl ⟨_, rfl, owns_nil _ _ _, set6 hB (Nat.le_succ _)⟩
end Go.Proofs.Ythpoefaipmcceaa.DnlWalk
