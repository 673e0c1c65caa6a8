/- The contracts of tick.Step, in one; of tick.Cut: whatever they are asked, the flash, the device and the error that the plain functions give. -/
import Derived.Test.YtmbgdidelbkdgaaTicStep
namespace Go.Proofs.Ytmbgdidelbkdgaa.TicCut
open Go.Proofs.Ytmbgdidelbkdgaa Go.RowKit Go.Proofs.Ytmbgdidelbkdgaa.Bytes Go.Proofs.Ytmbgdidelbkdgaa.Ops Go.Proofs.Ytmbgdidelbkdgaa.OpsRow Go.Proofs.Ytmbgdidelbkdgaa.Jou Go.Proofs.Ytmbgdidelbkdgaa.Dev Go.Proofs.Ytmbgdidelbkdgaa.DevRow Go.Proofs.Ytmbgdidelbkdgaa.DevSet Go.Proofs.Ytmbgdidelbkdgaa.Dnl Go.Proofs.Ytmbgdidelbkdgaa.DnlCopy Go.Proofs.Ytmbgdidelbkdgaa.Tic Go.Proofs.Ytmbgdidelbkdgaa.TicRow Go.Proofs.Ytmbgdidelbkdgaa.TicWalk Go.Proofs.Ytmbgdidelbkdgaa.TicStep
open Go.Proofs.Ytmbgdidelbkdgaa.DevWalk (build_d0)
open Go.Proofs.Ytmbgdidelbkdgaa.ImgClone (clone_any)
attribute [local go_sem ↓] Go.wp_at_zero Go.wp_at_succ
theorem step_any (f : ByteArray) (d : FDev) (v : Value) (w : World) (hv : IsSt w v d.ops) : Calls Try.prog 10 #[.string f, .agg #[.int .i64 d.sa, .int .i64 d.su, .int .i64 d.nx, .int .i64 d.gt, .int .i64 d.sl, v]] w (Ticked w (tickF f d) (tickD f d) (errK (bothB f d))) := by
  cases h : bothB f d with
  | false =>
    unfold tickF tickD
    rw [h]
    exact step_no f d v w hv h
  | true =>
    unfold tickF tickD
    rw [h, if_pos rfl, if_pos rfl]
    cases hd : dueB d with
    | false =>
      rw [idle_step hd, idle_gone hd]
      exact step_idle f d v w hv h hd
    | true =>
      obtain ⟨hw, o, l, hl⟩ := due_yes hd
      rw [due_step hw hl, due_gone hw hl]
      exact step_due f d v w hv h o l hw hl
theorem cut_no {f : ByteArray} {d : FDev} {k : Int} (h : cutB f d k = false) : mayF f = false ∨ (mayF f = true ∧ devB d = false) ∨ (mayF f = true ∧ devB d = true ∧ k < 0) ∨ (mayF f = true ∧ devB d = true ∧ ¬ k < 0 ∧ 96 < k) := by
  have hn : ¬ cutB f d k = true := by rw [h]; simp
  rw [cut_parts] at hn
  cases h1 : mayF f with
  | false => exact .inl rfl
  | true =>
    cases h2 : devB d with
    | false => exact .inr (.inl ⟨rfl, rfl⟩)
    | true =>
      right; right
      by_cases h3 : k < 0
      · exact .inl ⟨rfl, rfl, h3⟩
      · exact .inr ⟨rfl, rfl, h3, Int.not_le.1 (fun h4 => hn ⟨h1, h2, by omega, h4⟩)⟩
/-- What a call to Cut gives. -/
def Cutted (w : World) (f : ByteArray) (e : Int) (r : Ending) (w' : World) : Prop := r = .returned (.tuple #[.string f, .agg #[.int .i64 0, .int .i64 0, .int .i64 0, .int .i64 0, .int .i64 0, .slice none 0 0], .int .i64 e]) ∧ Below w.heap.size w w'
set_option maxRecDepth 100000 in
set_option maxHeartbeats 2000000 in
theorem cutted_no (f : ByteArray) (d : FDev) (v : Value) (k : Int) (w : World) (hv : IsSt w v d.ops) (h : cutB f d k = false) : Calls Try.prog 12 #[.string f, .agg #[.int .i64 d.sa, .int .i64 d.su, .int .i64 d.nx, .int .i64 d.gt, .int .i64 d.sl, v], .int .i64 k] w (Cutted w ⟨#[]⟩ 1800) := by
  have HM := hide (fun w => NorWalk.may_any f w)
  have HD : Hid (∀ (w' : World), Below w.heap.size w w' → _) := fun w' hb => DevWalk.dmay_any d v w' (hv.below hb)
  obtain ⟨hX, hR, hB, hs⟩ := two_boxes w (.int .i64 d.sa) (.int .i64 d.su) (.int .i64 d.nx) (.int .i64 d.gt) (.int .i64 d.sl) v
  have b1 := build_d0
  have hmm : NorWalk.mayB f = mayF f := rfl
  rw [hmm] at HM
  clear hmm
  obtain ⟨a, ca, rfl, _, _⟩ := hv
  rcases cut_no h with h1 | ⟨h1, h2⟩ | ⟨h1, h2, h3⟩ | ⟨h1, h2, h3, h4⟩
  · rw [h1] at HM
    clear h1 h
    go_enter Try.func12, Try.ntmps12
    go_wp2_with (go_at_call 25; refine (HM.out _).mono ?_; rintro e w' ⟨rfl, rfl⟩)
    exact bodyPost_ret (v := .tuple #[.string ⟨#[]⟩, .agg #[.int .i64 0, .int .i64 0, .int .i64 0, .int .i64 0, .int .i64 0, .slice none 0 0], .int .i64 1800]) (by simp [results, Try.results12, go_sem, hR]) rfl ⟨rfl, hB⟩
  all_goals
    rw [h1] at HM
    rw [h2] at HD
    clear h1 h2 h
    go_enter Try.func12, Try.ntmps12
    go_wp2_with (first | (go_at_call 25; refine (HM.out _).mono ?_; rintro e w' ⟨rfl, rfl⟩) | (go_at_call 26; refine (HD.out _ hB).mono ?_; rintro e w' ⟨rfl, hb⟩; replace hB := thenB hB hb; replace hX := resB hX hb; replace hR := resB hR hb; clear hb))
    exact bodyPost_ret (v := .tuple #[.string ⟨#[]⟩, .agg #[.int .i64 0, .int .i64 0, .int .i64 0, .int .i64 0, .int .i64 0, .slice none 0 0], .int .i64 1800]) (by simp [results, Try.results12, go_sem, hR]) rfl ⟨rfl, set6 hB (Nat.le_succ _)⟩
set_option maxRecDepth 100000 in
set_option maxHeartbeats 2000000 in
theorem cutted_idle (f : ByteArray) (d : FDev) (v : Value) (k : Int) (w : World) (hv : IsSt w v d.ops) (h : cutB f d k = true) (hd : dueB d = false) : Calls Try.prog 12 #[.string f, .agg #[.int .i64 d.sa, .int .i64 d.su, .int .i64 d.nx, .int .i64 d.gt, .int .i64 d.sl, v], .int .i64 k] w (Cutted w f 0) := by
  obtain ⟨h1, h2, h3, h4⟩ := cut_parts.1 h
  have hf := may_size h1
  have HM := hide (fun w => NorWalk.may_any f w)
  have HD : Hid (∀ (w' : World), Below w.heap.size w w' → _) := fun w' hb => DevWalk.dmay_any d v w' (hv.below hb)
  have HC := hide (fun w => clone_any f w (by omega))
  have HU : Hid (∀ (w' : World), Below w.heap.size w w' → _) := fun w' hb => dueN_any d v w' (hv.below hb) hd
  obtain ⟨hX, hR, hB, hs⟩ := two_boxes w (.int .i64 d.sa) (.int .i64 d.su) (.int .i64 d.nx) (.int .i64 d.gt) (.int .i64 d.sl) v
  have hmm : NorWalk.mayB f = mayF f := rfl
  rw [hmm, h1] at HM
  rw [h2] at HD
  have h5 : ¬ k < 0 := by omega
  have h6 : ¬ 96 < k := by omega
  clear hmm h h1 h2 hd h3 h4 hf hs
  obtain ⟨a, ca, rfl, _, _⟩ := hv
  go_enter Try.func12, Try.ntmps12
  go_wp2_with (first | (go_at_call 25; refine (HM.out _).mono ?_; rintro e w' ⟨rfl, rfl⟩) | (go_at_call 26; refine (HD.out _ hB).mono ?_; rintro e w' ⟨rfl, hb⟩; replace hB := thenB hB hb; replace hX := resB hX hb; replace hR := resB hR hb; clear hb) | (go_at_call 27; refine (HC.out _).mono ?_; rintro e w' ⟨rfl, hb⟩; replace hB := thenB hB hb; replace hX := resB hX hb; replace hR := resB hR hb; clear hb))
  refine (HU.out _ hB).mono ?_
  rintro e w4 ⟨rfl, hb⟩
  have hn := hal w4 (.cells #[.bool false, .int .i64 0, .string ⟨#[]⟩] 40)
  replace hB := thenB (thenB hB hb) hn
  replace hR := resB (resB hR hb) hn
  clear hb hn HU hX
  go_wp2_with (go_at_call 37; refine (DevWalk.new_any _).mono ?_; rintro e w' ⟨rfl, hb⟩; replace hB := thenB hB hb; replace hR := resB hR hb; clear hb)
  exact bodyPost_ret (v := .tuple #[.string f, .agg #[.int .i64 0, .int .i64 0, .int .i64 0, .int .i64 0, .int .i64 0, .slice none 0 0], .int .i64 0]) (by simp [results, Try.results12, go_sem, hR]) rfl ⟨rfl, set6 hB (Nat.le_succ _)⟩
set_option maxRecDepth 100000 in
set_option maxHeartbeats 2000000 in
theorem cutted_due (f : ByteArray) (d : FDev) (v : Value) (k : Int) (w : World) (hv : IsSt w v d.ops) (h : cutB f d k = true) (o : FOp) (l : List FOp) (hw : workB d.sa = true) (hd : d.ops = o :: l) : Calls Try.prog 12 #[.string f, .agg #[.int .i64 d.sa, .int .i64 d.su, .int .i64 d.nx, .int .i64 d.gt, .int .i64 d.sl, v], .int .i64 k] w (Cutted w (cutS f o.er o.pl o.tx k) 0) := by
  obtain ⟨h1, h2, h3, h4⟩ := cut_parts.1 h
  have hf := may_size h1
  have HM := hide (fun w => NorWalk.may_any f w)
  have HD : Hid (∀ (w' : World), Below w.heap.size w w' → _) := fun w' hb => DevWalk.dmay_any d v w' (hv.below hb)
  have HC := hide (fun w => clone_any f w (by omega))
  have HU : Hid (∀ (w' : World), Below w.heap.size w w' → _) := fun w' hb => dueY_any d v w' o l (hd ▸ hv.below hb) hw
  have HO := hide (fun w' => OpsWalk.cut_any f o.er o.pl o.tx k w')
  obtain ⟨hX, hR, hB, hs⟩ := two_boxes w (.int .i64 d.sa) (.int .i64 d.su) (.int .i64 d.nx) (.int .i64 d.gt) (.int .i64 d.sl) v
  have hmm : NorWalk.mayB f = mayF f := rfl
  rw [hmm, h1] at HM
  rw [h2] at HD
  have h5 : ¬ k < 0 := by omega
  have h6 : ¬ 96 < k := by omega
  clear hmm h h1 h2 hw hd h3 h4 hf hs
  obtain ⟨a, ca, rfl, _, _⟩ := hv
  generalize cutS f o.er o.pl o.tx k = F at *
  generalize errO (cutOk f o.er o.pl o.tx k) = E at *
  go_enter Try.func12, Try.ntmps12
  go_wp2_with (first | (go_at_call 25; refine (HM.out _).mono ?_; rintro e w' ⟨rfl, rfl⟩) | (go_at_call 26; refine (HD.out _ hB).mono ?_; rintro e w' ⟨rfl, hb⟩; replace hB := thenB hB hb; replace hX := resB hX hb; replace hR := resB hR hb; clear hb) | (go_at_call 27; refine (HC.out _).mono ?_; rintro e w' ⟨rfl, hb⟩; replace hB := thenB hB hb; replace hX := resB hX hb; replace hR := resB hR hb; clear hb))
  refine (HU.out _ hB).mono ?_
  rintro e w4 ⟨rfl, hb⟩
  have hn := hal w4 (.cells #[.bool o.er, .int .i64 o.pl, .string o.tx] 40)
  replace hB := thenB (thenB hB hb) hn
  replace hR := resB (resB hR hb) hn
  clear hb hn HU hX
  go_wp2_with (first | (go_at_call 36; refine (HO.out _).mono ?_; rintro e w5 ⟨rfl, hb⟩; replace hB := thenB hB hb; replace hR := resB hR hb; clear hb) | (go_at_call 37; refine (DevWalk.new_any _).mono ?_; rintro e w' ⟨rfl, hb⟩; replace hB := thenB hB hb; replace hR := resB hR hb; clear hb))
  exact bodyPost_ret (v := .tuple #[.string F, .agg #[.int .i64 0, .int .i64 0, .int .i64 0, .int .i64 0, .int .i64 0, .slice none 0 0], .int .i64 0]) (by simp [results, Try.results12, go_sem, hR]) rfl ⟨rfl, set6 hB (Nat.le_succ _)⟩
theorem cut_any (f : ByteArray) (d : FDev) (v : Value) (k : Int) (w : World) (hv : IsSt w v d.ops) : Calls Try.prog 12 #[.string f, .agg #[.int .i64 d.sa, .int .i64 d.su, .int .i64 d.nx, .int .i64 d.gt, .int .i64 d.sl, v], .int .i64 k] w (Cutted w (cutF f d k) (errK (cutB f d k))) := by
  unfold cutF
  cases h : cutB f d k with
  | false => exact cutted_no f d v k w hv h
  | true =>
    rw [if_pos rfl]
    cases hd : dueB d with
    | false =>
      rw [idle_step hd]
      exact cutted_idle f d v k w hv h hd
    | true =>
      obtain ⟨hw, o, l, hl⟩ := due_yes hd
      rw [due_step hw hl]
      exact cutted_due f d v k w hv h o l hw hl
end Go.Proofs.Ytmbgdidelbkdgaa.TicCut
