/- The contract of download.Take: whatever it is asked, the device and the error that the plain functions give. -/
import Derived.Test.YthpoefaipmcceaaDnlWalk
namespace Go.Proofs.Ythpoefaipmcceaa.DnlTake
open Go.Proofs.Ythpoefaipmcceaa Go.RowKit Go.Proofs.Ythpoefaipmcceaa.Bytes Go.Proofs.Ythpoefaipmcceaa.Ops Go.Proofs.Ythpoefaipmcceaa.OpsRow Go.Proofs.Ythpoefaipmcceaa.Jou Go.Proofs.Ythpoefaipmcceaa.Dev Go.Proofs.Ythpoefaipmcceaa.DevRow Go.Proofs.Ythpoefaipmcceaa.DevSet Go.Proofs.Ythpoefaipmcceaa.Dnl Go.Proofs.Ythpoefaipmcceaa.DnlCopy Go.Proofs.Ythpoefaipmcceaa.DnlWalk
open Go.Proofs.Ythpoefaipmcceaa.DevWalk (build_d0)
attribute [local go_sem ↓] Go.wp_at_zero Go.wp_at_succ
theorem ok_no {f : ByteArray} {d : FDev} {b : Int} {t : ByteArray} (h : okB f d b t = false) : mayF f = false ∨ (mayF f = true ∧ devB d = false) ∨ (mayF f = true ∧ devB d = true ∧ b < 0) ∨ (mayF f = true ∧ devB d = true ∧ ¬ b < 0 ∧ 65535 < b) ∨ (mayF f = true ∧ devB d = true ∧ ¬ b < 0 ∧ ¬ 65535 < b ∧ 32 < (t.size : Int)) ∨ (mayF f = true ∧ devB d = true ∧ ¬ b < 0 ∧ ¬ 65535 < b ∧ ¬ 32 < (t.size : Int) ∧ ¬ d.sa = 0 ∧ ¬ d.sa = 3) := by
  have hn : ¬ okB f d b t = true := by rw [h]; simp
  rw [okB_parts] at hn
  cases h1 : mayF f with
  | false => exact .inl rfl
  | true =>
    cases h2 : devB d with
    | false => exact .inr (.inl ⟨rfl, rfl⟩)
    | true =>
      right; right
      by_cases h3 : b < 0
      · exact .inl ⟨rfl, rfl, h3⟩
      by_cases h4 : 65535 < b
      · exact .inr (.inl ⟨rfl, rfl, h3, h4⟩)
      by_cases h5 : 32 < (t.size : Int)
      · exact .inr (.inr (.inl ⟨rfl, rfl, h3, h4, h5⟩))
      refine .inr (.inr (.inr ⟨rfl, rfl, h3, h4, h5, ?_, ?_⟩))
      · exact fun e => hn ⟨h1, h2, .inl e, ⟨by omega, by omega⟩, by omega⟩
      · exact fun e => hn ⟨h1, h2, .inr e, ⟨by omega, by omega⟩, by omega⟩
set_option maxRecDepth 100000 in
set_option maxHeartbeats 4000000 in
theorem take_any (f : ByteArray) (d : FDev) (v : Value) (b : Int) (t : ByteArray) (w : World) (hv : IsSt w v d.ops) : Calls Try.prog 9 #[.string f, .agg #[.int .i64 d.sa, .int .i64 d.su, .int .i64 d.nx, .int .i64 d.gt, .int .i64 d.sl, v], .int .i64 b, .string t] w (Gave w (takeD f d b t) (errL (okB f d b t))) := by
  have HM := hide (fun w => NorWalk.may_any f w)
  have HD : Hid (∀ (w' : World), Below w.heap.size w w' → _) := fun w' hb => DevWalk.dmay_any d v w' (hv.below hb)
  obtain ⟨hX, hR, hB, hs⟩ := two_boxes w (.int .i64 d.sa) (.int .i64 d.su) (.int .i64 d.nx) (.int .i64 d.gt) (.int .i64 d.sl) v
  have b1 := build_d0
  have hmm : NorWalk.mayB f = mayF f := rfl
  rw [hmm] at HM
  clear hmm
  cases hok : okB f d b t with
  | false =>
    rw [take_no hok, show errL false = 1700 from rfl]
    unfold newD
    obtain ⟨a, ca, rfl, _, _⟩ := hv
    rcases ok_no hok with h1 | ⟨h1, h2⟩ | ⟨h1, h2, h3⟩ | ⟨h1, h2, h3, h4⟩ | ⟨h1, h2, h3, h4, h5⟩ | ⟨h1, h2, h3, h4, h5, h6, h7⟩
    · rw [h1] at HM
      clear h1 hok
      go_enter Try.func9, Try.ntmps9
      go_wp2_with (go_at_call 20; refine (HM.out _).mono ?_; rintro e w' ⟨rfl, rfl⟩)
      exact bodyPost_ret (v := .tuple #[.agg #[.int .i64 0, .int .i64 0, .int .i64 0, .int .i64 0, .int .i64 0, .slice none 0 0], .int .i64 1700]) (by simp [results, Try.results9, go_sem, hR]) rfl ⟨_, rfl, owns_nil _ _ _, hB⟩
    all_goals
      rw [h1] at HM
      rw [h2] at HD
      clear h1 h2 hok
      obtain ⟨sa, su, nx, gt, sl, l⟩ := d
      dsimp only at *
      try have h6 := eq_f h6
      try have h7 := eq_f h7
      go_enter Try.func9, Try.ntmps9
      go_wp2_with (first | (go_at_call 20; refine (HM.out _).mono ?_; rintro e w' ⟨rfl, rfl⟩) | (go_at_call 21; refine (HD.out _ hB).mono ?_; rintro e w' ⟨rfl, hb⟩; replace hB := thenB hB hb; replace hX := resB hX hb; replace hR := resB hR hb; clear hb))
      exact bodyPost_ret (v := .tuple #[.agg #[.int .i64 0, .int .i64 0, .int .i64 0, .int .i64 0, .int .i64 0, .slice none 0 0], .int .i64 1700]) (by simp [results, Try.results9, go_sem, hR]) rfl ⟨_, rfl, owns_nil _ _ _, set6 hB (Nat.le_succ _)⟩
  | true =>
    obtain ⟨h1, h2, h3, ⟨h4, h5⟩, h6⟩ := okB_parts.1 hok
    have h7 : ¬ b < 0 := by omega
    have h8 : ¬ 65535 < b := by omega
    have h9 : ¬ 32 < (t.size : Int) := by omega
    rw [show errL true = 0 from rfl]
    rw [h1] at HM
    rw [h2] at HD
    rcases h3 with h3 | h3
    · rw [take_first hok h3]
      have HF : Hid (∀ (w' : World), Below w.heap.size w w' → _) := fun w' hb => first_any f d v b t w' (hv.below hb) h2 h6
      clear h1 h2 hok h4 h5 h6
      obtain ⟨a, ca, rfl, _, _⟩ := hv
      generalize firstD f d b t = D at *
      obtain ⟨sa, su, nx, gt, sl, l⟩ := d
      obtain ⟨xa, xu, xn, xg, xl, xo⟩ := D
      dsimp only at *
      subst h3
      go_enter Try.func9, Try.ntmps9
      go_wp2_with (first | (go_at_call 20; refine (HM.out _).mono ?_; rintro e w' ⟨rfl, rfl⟩) | (go_at_call 21; refine (HD.out _ hB).mono ?_; rintro e w' ⟨rfl, hb⟩; replace hB := thenB hB hb; replace hX := resB hX hb; replace hR := resB hR hb; replace hs := Nat.le_trans (Nat.le_of_eq hs) hb.size; clear hb))
      refine (HF.out _ hB).mono ?_
      rintro e w2 ⟨u, rfl, hown, hb⟩
      replace hB := thenB hB hb
      replace hR := resB hR hb
      replace hown := owns_mono hown hs
      clear hb hX HF HD
      obtain ⟨a', c', rfl⟩ := owns_form hown
      go_wp2_with fail
      exact bodyPost_ret (v := .tuple #[.agg #[.int .i64 xa, .int .i64 xu, .int .i64 xn, .int .i64 xg, .int .i64 xl, .slice a' xo.length c'], .int .i64 0]) (by simp [results, Try.results9, go_sem, hR]) rfl ⟨_, rfl, owns_mono (base := w.heap.size + 1 + 1) (own6 hown (Nat.lt_succ_self _) _ _ _ _ _ _) (by omega), set6 hB (Nat.le_succ _)⟩
    · rw [take_further hok h3]
      have HF : Hid (∀ (w' : World), Below w.heap.size w w' → _) := fun w' hb => further_any d v b t w' (hv.below hb) h2 h6
      clear h1 h2 hok h4 h5 h6
      obtain ⟨a, ca, rfl, _, _⟩ := hv
      generalize furtherD d b t = D at *
      obtain ⟨sa, su, nx, gt, sl, l⟩ := d
      obtain ⟨xa, xu, xn, xg, xl, xo⟩ := D
      dsimp only at *
      subst h3
      go_enter Try.func9, Try.ntmps9
      go_wp2_with (first | (go_at_call 20; refine (HM.out _).mono ?_; rintro e w' ⟨rfl, rfl⟩) | (go_at_call 21; refine (HD.out _ hB).mono ?_; rintro e w' ⟨rfl, hb⟩; replace hB := thenB hB hb; replace hX := resB hX hb; replace hR := resB hR hb; replace hs := Nat.le_trans (Nat.le_of_eq hs) hb.size; clear hb))
      refine (HF.out _ hB).mono ?_
      rintro e w2 ⟨u, rfl, hown, hb⟩
      replace hB := thenB hB hb
      replace hR := resB hR hb
      replace hown := owns_mono hown hs
      clear hb hX HF HD
      obtain ⟨a', c', rfl⟩ := owns_form hown
      go_wp2_with fail
      exact bodyPost_ret (v := .tuple #[.agg #[.int .i64 xa, .int .i64 xu, .int .i64 xn, .int .i64 xg, .int .i64 xl, .slice a' xo.length c'], .int .i64 0]) (by simp [results, Try.results9, go_sem, hR]) rfl ⟨_, rfl, owns_mono (base := w.heap.size + 1 + 1) (own6 hown (Nat.lt_succ_self _) _ _ _ _ _ _) (by omega), set6 hB (Nat.le_succ _)⟩
end Go.Proofs.Ythpoefaipmcceaa.DnlTake
