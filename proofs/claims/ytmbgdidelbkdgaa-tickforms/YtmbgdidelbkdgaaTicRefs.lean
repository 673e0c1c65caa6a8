/- The contracts of the document's own Tick, in one, and CutDevice; a device's steps spoilt by whoever holds it, wherever in their block they begin. -/
import Derived.Test.YtmbgdidelbkdgaaTicDoc
import Derived.Test.YtmbgdidelbkdgaaTicCut
import Derived.Test.YtmbgdidelbkdgaaBagOps
namespace Go.Proofs.Ytmbgdidelbkdgaa.TicRefs
open Go.Proofs.Ytmbgdidelbkdgaa Go.RowKit Go.Proofs.Ytmbgdidelbkdgaa.Bytes Go.Proofs.Ytmbgdidelbkdgaa.Ops Go.Proofs.Ytmbgdidelbkdgaa.OpsRow Go.Proofs.Ytmbgdidelbkdgaa.Jou Go.Proofs.Ytmbgdidelbkdgaa.Dev Go.Proofs.Ytmbgdidelbkdgaa.DevRow Go.Proofs.Ytmbgdidelbkdgaa.DevSet Go.Proofs.Ytmbgdidelbkdgaa.Dnl Go.Proofs.Ytmbgdidelbkdgaa.DnlCopy Go.Proofs.Ytmbgdidelbkdgaa.DnlRef Go.Proofs.Ytmbgdidelbkdgaa.Tic Go.Proofs.Ytmbgdidelbkdgaa.TicRow Go.Proofs.Ytmbgdidelbkdgaa.TicRef Go.Proofs.Ytmbgdidelbkdgaa.TicDoc
open Go.Proofs.Ytmbgdidelbkdgaa.DevWalk (build_d0)
open Go.Proofs.Ytmbgdidelbkdgaa.TicCut (Cutted)
attribute [local go_sem ↓] Go.wp_at_zero Go.wp_at_succ
theorem refTick_any (f : ByteArray) (d : FDev) (v : Value) (w : World) (hv : IsSt w v d.ops) : Calls Try.prog 11 #[.string f, .agg #[.int .i64 d.sa, .int .i64 d.su, .int .i64 d.nx, .int .i64 d.gt, .int .i64 d.sl, v]] w (RefTicked w (tickF f d) (tickD f d) (errK (bothB f d))) := by
  cases h : bothB f d with
  | false =>
    unfold tickF tickD
    rw [h]
    exact ref_no f d v w hv h
  | true =>
    unfold tickF tickD
    rw [h, if_pos rfl, if_pos rfl]
    cases hd : dueB d with
    | false =>
      rw [idle_step hd, idle_gone hd]
      rcases due_no hd with hw | ⟨hw, hl⟩
      · rw [set_keeps (.inl hw)]
        exact ref_idle f d v w hv h hw
      · rcases work_iff.1 hw with h2 | h5
        · rw [set_busy h2 hl, hl]
          exact ref_bare2 f d v w hv h h2 hl
        · rw [set_mani h5 hl]
          exact ref_bare5 f d v w hv h h5 hl
    | true =>
      obtain ⟨hw, o, l, hl⟩ := due_yes hd
      rw [due_step hw hl, due_gone hw hl]
      cases l with
      | cons t l =>
        rw [set_keeps (.inr (by simp))]
        exact ref_dueA f d v w hv h o (t :: l) hw hl (by simp)
      | nil =>
        rcases work_iff.1 hw with h2 | h5
        · rw [set_busy (d := ⟨d.sa, d.su, d.nx, d.gt, d.sl, []⟩) h2 rfl]
          exact ref_due2 f d v w hv h o h2 hl
        · rw [set_mani (d := ⟨d.sa, d.su, d.nx, d.gt, d.sl, []⟩) h5 rfl]
          exact ref_due5 f d v w hv h o h5 hl
theorem cutr_no {f : ByteArray} {d : FDev} {k : Int} (h : cutB f d k = false) : (mayF f && devB d) = false ∨ ((mayF f && devB d) = true ∧ upB k 96 = false) := by
  unfold cutB bothB at h
  cases hb : mayF f && devB d with
  | false => exact .inl rfl
  | true => rw [hb] at h; exact .inr ⟨rfl, by simpa using h⟩
set_option maxRecDepth 100000 in
set_option maxHeartbeats 2000000 in
theorem refCut_no (f : ByteArray) (d : FDev) (v : Value) (k : Int) (w : World) (hv : IsSt w v d.ops) (h : cutB f d k = false) : Calls Try.prog 13 #[.string f, .agg #[.int .i64 d.sa, .int .i64 d.su, .int .i64 d.nx, .int .i64 d.gt, .int .i64 d.sl, v], .int .i64 k] w (Cutted w ⟨#[]⟩ 1800) := by
  have HD : Hid (∀ (w' : World), Below w.heap.size w w' → _) := fun w' hb => both_any f d v w' (hv.below hb)
  have HU := hide (fun w => DevRef.up16_any k 96 w)
  obtain ⟨hX, hR, hB, hs⟩ := two_boxes w (.int .i64 d.sa) (.int .i64 d.su) (.int .i64 d.nx) (.int .i64 d.gt) (.int .i64 d.sl) v
  have b1 := build_d0
  have HW := hide (cutr_no h)
  clear h
  generalize (mayF f && devB d) = M at *
  generalize upB k 96 = U at *
  obtain ⟨a, ca, rfl, _, _⟩ := hv
  rcases HW.out with rfl | ⟨rfl, rfl⟩
  all_goals
    clear HW
    go_enter Try.func13, Try.ntmps13
    go_wp2_with (first | (go_at_call 32; refine (HD.out _ hB).mono ?_; rintro e w' ⟨rfl, hb⟩; replace hB := thenB hB hb; replace hX := resB hX hb; replace hR := resB hR hb; clear hb) | (go_at_call 38; refine (HU.out _).mono ?_; rintro e w' ⟨rfl, rfl⟩))
    exact bodyPost_ret (v := .tuple #[.string ⟨#[]⟩, .agg #[.int .i64 0, .int .i64 0, .int .i64 0, .int .i64 0, .int .i64 0, .slice none 0 0], .int .i64 1800]) (by simp [results, Try.results13, go_sem, hR]) rfl ⟨rfl, set6 hB (Nat.le_succ _)⟩
set_option maxRecDepth 100000 in
set_option maxHeartbeats 2000000 in
theorem refCut_idle (f : ByteArray) (d : FDev) (v : Value) (k : Int) (w : World) (hv : IsSt w v d.ops) (h : cutB f d k = true) (hd : dueB d = false) : Calls Try.prog 13 #[.string f, .agg #[.int .i64 d.sa, .int .i64 d.su, .int .i64 d.nx, .int .i64 d.gt, .int .i64 d.sl, v], .int .i64 k] w (Cutted w f 0) := by
  obtain ⟨h1, h2, h3, h4⟩ := cut_parts.1 h
  have HD : Hid (∀ (w' : World), Below w.heap.size w w' → _) := fun w' hb => both_any f d v w' (hv.below hb)
  have HU := hide (fun w => DevRef.up16_any k 96 w)
  have HW := hide (fun v w' => work_any d.sa d.su d.nx d.gt d.sl v w')
  rw [h1, h2, Bool.true_and] at HD
  rw [upB_iff.2 ⟨h3, h4⟩] at HU
  obtain ⟨hX, hR, hB, hs⟩ := two_boxes w (.int .i64 d.sa) (.int .i64 d.su) (.int .i64 d.nx) (.int .i64 d.gt) (.int .i64 d.sl) v
  have hW := due_no hd
  clear h h1 h2 h3 h4 hd hs
  obtain ⟨a, ca, rfl, _, _⟩ := hv
  obtain ⟨sa, su, nx, gt, sl, l⟩ := d
  dsimp only at *
  rcases hW with hw | ⟨hw, rfl⟩
  all_goals
    rw [hw] at HW
    clear hw
    go_enter Try.func13, Try.ntmps13
    go_wp2_with (first | (go_at_call 32; refine (HD.out _ hB).mono ?_; rintro e w' ⟨rfl, hb⟩; replace hB := thenB hB hb; replace hX := resB hX hb; replace hR := resB hR hb; clear hb) | (go_at_call 38; refine (HU.out _).mono ?_; rintro e w' ⟨rfl, rfl⟩) | (go_at_call 34; refine (HW.out _ _).mono ?_; rintro e w' ⟨rfl, hb⟩; replace hB := thenB hB hb; replace hX := resB hX hb; replace hR := resB hR hb; clear hb) | (go_at_call 35; refine (DevRef.newRef_any _).mono ?_; rintro e w' ⟨rfl, hb⟩; replace hB := thenB hB hb; replace hR := resB hR hb; clear hb))
    exact bodyPost_ret (v := .tuple #[.string f, .agg #[.int .i64 0, .int .i64 0, .int .i64 0, .int .i64 0, .int .i64 0, .slice none 0 0], .int .i64 0]) (by simp [results, Try.results13, go_sem, hR]) rfl ⟨rfl, set6 hB (Nat.le_succ _)⟩
set_option maxRecDepth 100000 in
set_option maxHeartbeats 2000000 in
theorem refCut_due (f : ByteArray) (d : FDev) (v : Value) (k : Int) (w : World) (hv : IsSt w v d.ops) (h : cutB f d k = true) (o : FOp) (l : List FOp) (hw : workB d.sa = true) (hd : d.ops = o :: l) : Calls Try.prog 13 #[.string f, .agg #[.int .i64 d.sa, .int .i64 d.su, .int .i64 d.nx, .int .i64 d.gt, .int .i64 d.sl, v], .int .i64 k] w (Cutted w (cutS f o.er o.pl o.tx k) 0) := by
  obtain ⟨h1, h2, h3, h4⟩ := cut_parts.1 h
  have HD : Hid (∀ (w' : World), Below w.heap.size w w' → _) := fun w' hb => both_any f d v w' (hv.below hb)
  have HU := hide (fun w => DevRef.up16_any k 96 w)
  have HW := hide (fun v w' => work_any d.sa d.su d.nx d.gt d.sl v w')
  have HO := hide (fun w' => OpsRef.refCut_any f o.er o.pl o.tx k w')
  rw [h1, h2, Bool.true_and] at HD
  rw [upB_iff.2 ⟨h3, h4⟩] at HU
  rw [hw] at HW
  obtain ⟨hX, hR, hB, hs⟩ := two_boxes w (.int .i64 d.sa) (.int .i64 d.su) (.int .i64 d.nx) (.int .i64 d.gt) (.int .i64 d.sl) v
  have hv2 := hv
  rw [hd] at hv2
  obtain ⟨b, of, cap, rfl, c1, c2, c3, hin, _, _, _⟩ := is_first hv2
  clear h h1 h2 h3 h4 hd hs hv hv2 hw
  generalize cutS f o.er o.pl o.tx k = F at *
  generalize errO (cutOk f o.er o.pl o.tx k) = E at *
  obtain ⟨sa, su, nx, gt, sl, lo⟩ := d
  dsimp only at *
  have h4 : (0 : Int) < ((l.length + 1 : Nat) : Int) := by omega
  go_enter Try.func13, Try.ntmps13
  go_upto_region 4 with (first | (go_at_call 32; refine (HD.out _ hB).mono ?_; rintro e w' ⟨rfl, hb⟩; replace hB := thenB hB hb; replace hX := resB hX hb; replace hR := resB hR hb; clear hb) | (go_at_call 38; refine (HU.out _).mono ?_; rintro e w' ⟨rfl, rfl⟩) | (go_at_call 34; refine (HW.out _ _).mono ?_; rintro e w' ⟨rfl, hb⟩; replace hB := thenB hB hb; replace hX := resB hX hb; replace hR := resB hR hb; clear hb))
  have hi2 := hin.below hB c3
  have e0 := hi2.er 0 (by simp)
  have e1 := hi2.pl 0 (by simp)
  have e2 := hi2.tx 0 (by simp)
  simp only [Nat.zero_mul, Nat.add_zero, List.getElem_cons_zero] at e0 e1 e2
  clear hi2 HW HU HD
  go_wp2_with (first | (go_at_call 39; refine (HO.out _).mono ?_; rintro e w5 ⟨rfl, hb⟩; replace hB := thenB hB hb; replace hR := resB hR hb; clear hb) | (go_at_call 35; refine (DevRef.newRef_any _).mono ?_; rintro e w6 ⟨rfl, hb⟩; replace hB := thenB hB hb; replace hR := resB hR hb; clear hb))
  exact bodyPost_ret (v := .tuple #[.string F, .agg #[.int .i64 0, .int .i64 0, .int .i64 0, .int .i64 0, .int .i64 0, .slice none 0 0], .int .i64 0]) (by simp [results, Try.results13, go_sem, hR]) rfl ⟨rfl, set6 hB (Nat.le_succ _)⟩
theorem refCut_any (f : ByteArray) (d : FDev) (v : Value) (k : Int) (w : World) (hv : IsSt w v d.ops) : Calls Try.prog 13 #[.string f, .agg #[.int .i64 d.sa, .int .i64 d.su, .int .i64 d.nx, .int .i64 d.gt, .int .i64 d.sl, v], .int .i64 k] w (Cutted w (cutF f d k) (errK (cutB f d k))) := by
  unfold cutF
  cases h : cutB f d k with
  | false => exact refCut_no f d v k w hv h
  | true =>
    rw [if_pos rfl]
    cases hd : dueB d with
    | false =>
      rw [idle_step hd]
      exact refCut_idle f d v k w hv h hd
    | true =>
      obtain ⟨hw, o, l, hl⟩ := due_yes hd
      rw [due_step hw hl]
      exact refCut_due f d v k w hv h o l hw hl
set_option maxRecDepth 100000 in
set_option maxHeartbeats 1000000 in
theorem spoilSt_any (v : Value) (l : List FOp) (w : World) (base n : Nat) (hl : l.length ≤ 65536) (hv : OwnIn w base n v l) : Calls Try.prog 41 #[v] w fun e w' => e = .returned (.tuple #[]) ∧ Below base w w' ∧ Boxes n w w' := by
  obtain ⟨a, cap, rfl, h0, hv⟩ := hv
  rcases hv with rfl | ⟨g, o, rfl, h1, h2, hg, hgn, hlt0, hin, hfz⟩
  · have hz : ([] : List FOp).length = 0 := rfl
    rw [hz]
    clear hz hl
    go_enter Try.func41, Try.ntmps41
    go_wp2
    go_loopw [2] (fun i wr => i = .int .i64 0 ∧ wr = w) (fun _ _ => 0)
    case atStart => exact ⟨rfl, rfl⟩
    case round =>
      obtain ⟨rfl, rfl⟩ := hrel
      go_wp2
      go_end0
      exact ⟨rfl, Below.refl _ _, fun _ _ _ _ _ _ _ _ h => h⟩
  · go_enter Try.func41, Try.ntmps41
    go_wp2
    go_loopw [2] (fun i wr => ∃ j : Nat, j ≤ l.length ∧ i = .int .i64 j ∧ Below base w wr ∧ Boxes n w wr ∧ (∀ k, k < l.length → ∃ x, wr.cell? ⟨g, o + k * 3 + 1, none⟩ = some (.int .i64 x)) ∧ (∀ k, wr.frozen? ⟨g, k, none⟩ = false)) (fun i _ => l.length - (intOf i).toNat)
    case atStart => exact ⟨0, Nat.zero_le _, rfl, Below.refl _ _, fun _ _ _ _ _ _ _ _ h => h, fun k hk => ⟨_, hin.pl k hk⟩, hfz⟩
    case round =>
      obtain ⟨j, hj, rfl, hbel, hbox, hcell, hfr⟩ := hrel
      clear hfz hin
      have HX : Hid (Boxes n w wr) := hbox
      clear hbox
      by_cases hlt : j < l.length
      · obtain ⟨x, hx⟩ := hcell j hlt
        have hfj := hfr (o + j * 3 + 1)
        have HC : Hid (∀ k, k < l.length → ∃ x, wr.cell? ⟨g, o + k * 3 + 1, none⟩ = some (.int .i64 x)) := hcell
        have HF : Hid (∀ k, wr.frozen? ⟨g, k, none⟩ = false) := hfr
        clear hcell hfr
        go_wp2
        refine ⟨⟨j + 1, by omega, by go_num, hbel.setCell hg _, fun B x0 x1 x2 x3 x4 x5 hB h => resO (HX.out B x0 x1 x2 x3 x4 x5 hB h) (by omega) _ _, fun k hk => ?_, fun k => by rw [World.frozen?_setCell]; exact HF.out k⟩, by simp [intOf]; omega⟩
        by_cases e : k = j
        · subst e
          exact ⟨_, World.cell?_setCell_same wr _ _ hx⟩
        · obtain ⟨y, hy⟩ := HC.out k hk
          exact ⟨y, by rw [World.cell?_setCell_other wr _ _ _ (by intro hc; injection hc; omega)]; exact hy⟩
      · go_wp2
        go_end0
        exact ⟨rfl, hbel, HX.out⟩
set_option maxRecDepth 100000 in
set_option maxHeartbeats 1000000 in
theorem spoilDev_any (d : FDev) (v : Value) (w : World) (base n : Nat) (hl : d.ops.length ≤ 65536) (hbase : base ≤ w.heap.size) (hv : OwnIn w base n v d.ops) : Calls Try.prog 16 #[.agg #[.int .i64 d.sa, .int .i64 d.su, .int .i64 d.nx, .int .i64 d.gt, .int .i64 d.sl, v]] w fun e w' => e = .returned (.tuple #[]) ∧ Below base w w' ∧ Boxes n w w' := by
  have hB := (Below.refl base w).alloc hbase (.cells #[.int .i64 d.sa, .int .i64 d.su, .int .i64 d.nx, .int .i64 d.gt, .int .i64 d.sl, v] 24)
  have hv2 := hv.below (hal w (.cells #[.int .i64 d.sa, .int .i64 d.su, .int .i64 d.nx, .int .i64 d.gt, .int .i64 d.sl, v] 24))
  have HS := hide (spoilSt_any v d.ops _ base n hl hv2)
  obtain ⟨a, c, rfl⟩ := hv.st.form
  obtain ⟨sa, su, nx, gt, sl, l⟩ := d
  dsimp only at *
  go_enter Try.func16, Try.ntmps16
  go_wp2_with fail
  refine HS.out.mono ?_
  rintro e w2 ⟨rfl, hb, hX⟩
  go_wp2_with fail
  go_end0
  exact ⟨rfl, hB.trans hb, fun B x0 x1 x2 x3 x4 x5 h h2 => hX B x0 x1 x2 x3 x4 x5 h (resB h2 (hal _ _))⟩
end Go.Proofs.Ytmbgdidelbkdgaa.TicRefs
