/- Asked again, a device stays: it may be, and it tells the same. No program is named here. -/
import Derived.Test.YthdnpgkoanfijaaStsMath
import Derived.Test.YthdnpgkoanfijaaBagRow
namespace Go.Proofs.Ythdnpgkoanfijaa.Sts
open Go.Proofs.Ythdnpgkoanfijaa Go.Proofs.Ythdnpgkoanfijaa.Nor Go.Proofs.Ythdnpgkoanfijaa.Ent Go.Proofs.Ythdnpgkoanfijaa.Ops Go.Proofs.Ythdnpgkoanfijaa.Jou Go.Proofs.Ythdnpgkoanfijaa.Act Go.Proofs.Ythdnpgkoanfijaa.Pla Go.Proofs.Ythdnpgkoanfijaa.Ans Go.Proofs.Ythdnpgkoanfijaa.Dev Go.Proofs.Ythdnpgkoanfijaa.Dnl Go.Proofs.Ythdnpgkoanfijaa.Tic Go.Proofs.Ythdnpgkoanfijaa.DnlDoes
theorem er_may {s : Int} (h0 : 0 ≤ s) (h1 : s ≤ 1) : mayAll [⟨true, (1 - s) * 96, ⟨#[]⟩⟩] = true := by
  obtain rfl | rfl : s = 0 ∨ s = 1 := by omega
  · decide
  · decide
theorem appE_may (f : ByteArray) : mayAll (appE f) = true := by
  unfold appE
  split
  · rfl
  · exact er_may (home_01 f).1 (home_01 f).2
theorem rec_may (f : ByteArray) (t z : Int) : mayAll (recL f t z) = true := by
  rcases rec_ways f t z with ⟨_, h⟩ | ⟨_, _, _, _, _, _, h⟩
  · unfold recL
    rw [app_ok h, ← (app_words h).2.2]
    exact may_append (appE_may f) may_words
  · rw [h]; rfl
theorem dev_with {d : FDev} (h : devB d = true) {s : Int} {l : List FOp} (hs : saB s = true) (hl : stepsB l = true) : devB ⟨s, d.su, d.nx, d.gt, d.sl, l⟩ = true := by
  unfold devB at h ⊢
  simp only [Bool.and_eq_true] at h ⊢
  obtain ⟨⟨⟨⟨⟨_, h1⟩, h2⟩, h3⟩, h4⟩, _⟩ := h
  exact ⟨⟨⟨⟨⟨hs, h1⟩, h2⟩, h3⟩, h4⟩, hl⟩
theorem dev_stB {d : FDev} (h : devB d = true) : stepsB d.ops = true := by
  unfold devB at h
  simp only [Bool.and_eq_true] at h
  exact h.2
theorem sync_ways (d : FDev) : (d.ops.length = 0 ∧ syncI d = 3) ∨ (¬ d.ops.length = 0 ∧ syncI d = 2) := by
  unfold syncI
  by_cases h : d.ops.length = 0
  · exact .inl ⟨h, if_pos h⟩
  · exact .inr ⟨h, if_neg h⟩
theorem mani_may {f : ByteArray} {d : FDev} (h : devB d = true) : devB (maniD f d) = true := by
  by_cases he : errS f d.sl d.gt = 0
  · rw [mani_ok he]
    refine dev_with h rfl ?_
    have := rec_few f d.sl d.gt
    rw [stepsB_short (by omega)]
    exact rec_may f _ _
  · rw [mani_no he]
    exact failed_may (by decide)
theorem ask_may {f : ByteArray} {d : FDev} (h : devB d = true) : devB (askD f d) = true := by
  by_cases h1 : d.sa = 1
  · rw [ask_sync h1]
    refine dev_with h ?_ (dev_stB h)
    rcases sync_ways d with ⟨_, e⟩ | ⟨_, e⟩ <;> rw [e] <;> rfl
  by_cases h4 : d.sa = 4
  · rw [ask_mani h4]; exact mani_may h
  rw [ask_other h1 h4]; exact h
theorem ask_again (f : ByteArray) (d : FDev) : askD f (askD f d) = askD f d := by
  by_cases h1 : d.sa = 1
  · rw [ask_sync h1]
    rcases sync_ways d with ⟨_, e⟩ | ⟨_, e⟩
    · rw [e]; exact ask_other (show ¬ (3 : Int) = 1 by decide) (show ¬ (3 : Int) = 4 by decide)
    · rw [e]; exact ask_other (show ¬ (2 : Int) = 1 by decide) (show ¬ (2 : Int) = 4 by decide)
  by_cases h4 : d.sa = 4
  · rw [ask_mani h4]
    by_cases he : errS f d.sl d.gt = 0
    · rw [mani_ok he]; exact ask_other (show ¬ (5 : Int) = 1 by decide) (show ¬ (5 : Int) = 4 by decide)
    · rw [mani_no he]; exact ask_other (show ¬ (7 : Int) = 1 by decide) (show ¬ (7 : Int) = 4 by decide)
  rw [ask_other h1 h4, ask_other h1 h4]
theorem get_twice {f : ByteArray} {d : FDev} (h : bothB f d = true) : bothB f (askD f d) = true ∧ getD f (askD f d) = askD f d := by
  obtain ⟨h1, h2⟩ := both_parts.1 h
  have h3 : bothB f (askD f d) = true := both_parts.2 ⟨h1, ask_may h2⟩
  exact ⟨h3, by rw [get_ok h3, ask_again]⟩
end Go.Proofs.Ythdnpgkoanfijaa.Sts
