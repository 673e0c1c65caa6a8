/- A host in memory, with the bytes that came beside it: what each store makes of it; the contracts of what counts what goes wrong. -/
import Derived.Test.YtgkmallikomnaaaRepMath
import Derived.Test.YtgkmallikomnaaaBagHst
namespace Go.Proofs.Ytgkmallikomnaaa.RepNear
open Go.Proofs.Ytgkmallikomnaaa Go.RowKit Go.Proofs.Ytgkmallikomnaaa.Bytes Go.Proofs.Ytgkmallikomnaaa.NorWalk Go.Proofs.Ytgkmallikomnaaa.Hst Go.Proofs.Ytgkmallikomnaaa.HstWalk Go.Proofs.Ytgkmallikomnaaa.HstSet Go.Proofs.Ytgkmallikomnaaa.Rep
open Go.Proofs.Ytgkmallikomnaaa.Blo (nP splitL splitOk errB)
open Go.Proofs.Ytgkmallikomnaaa.BloWalk (split_any)
open Go.Proofs.Ytgkmallikomnaaa.TxtRow (txC)
open Go.Proofs.Ytgkmallikomnaaa.OpsRow (boxM boxB boxD thenD)
attribute [local go_sem ↓] Go.wp_at_zero Go.wp_at_succ

/-- Seven cells that may be written, and one more that is read. -/
abbrev Tkr (w : World) (B : Nat) (x0 x1 x2 x3 x4 x5 x6 t : Value) : Prop := SevR w B x0 x1 x2 x3 x4 x5 x6 ∧ w.cell? ⟨B, 7, none⟩ = some t
section
variable {w w' : World} {B : Nat} {x0 x1 x2 x3 x4 x5 x6 t : Value}
theorem tkrB (h : Tkr w B x0 x1 x2 x3 x4 x5 x6 t) (hb : Below w.heap.size w w') : Tkr w' B x0 x1 x2 x3 x4 x5 x6 t := ⟨sevRB h.1 hb, by rw [hb.cell (p := ⟨B, 7, none⟩) h.1.1]; exact h.2⟩
theorem tkr0 (h : Tkr w B x0 x1 x2 x3 x4 x5 x6 t) (y : Value) : Tkr (w.setCell ⟨B, 0, none⟩ y) B y x1 x2 x3 x4 x5 x6 t := ⟨set0 h.1 y, by rw [World.cell?_setCell_other w _ _ _ (ne_off (by decide))]; exact h.2⟩
theorem tkr1 (h : Tkr w B x0 x1 x2 x3 x4 x5 x6 t) (y : Value) : Tkr (w.setCell ⟨B, 1, none⟩ y) B x0 y x2 x3 x4 x5 x6 t := ⟨set1 h.1 y, by rw [World.cell?_setCell_other w _ _ _ (ne_off (by decide))]; exact h.2⟩
theorem tkr2 (h : Tkr w B x0 x1 x2 x3 x4 x5 x6 t) (y : Value) : Tkr (w.setCell ⟨B, 2, none⟩ y) B x0 x1 y x3 x4 x5 x6 t := ⟨set2 h.1 y, by rw [World.cell?_setCell_other w _ _ _ (ne_off (by decide))]; exact h.2⟩
theorem tkr3 (h : Tkr w B x0 x1 x2 x3 x4 x5 x6 t) (y : Value) : Tkr (w.setCell ⟨B, 3, none⟩ y) B x0 x1 x2 y x4 x5 x6 t := ⟨set3 h.1 y, by rw [World.cell?_setCell_other w _ _ _ (ne_off (by decide))]; exact h.2⟩
theorem tkr4 (h : Tkr w B x0 x1 x2 x3 x4 x5 x6 t) (y : Value) : Tkr (w.setCell ⟨B, 4, none⟩ y) B x0 x1 x2 x3 y x5 x6 t := ⟨set4 h.1 y, by rw [World.cell?_setCell_other w _ _ _ (ne_off (by decide))]; exact h.2⟩
theorem tkr5 (h : Tkr w B x0 x1 x2 x3 x4 x5 x6 t) (y : Value) : Tkr (w.setCell ⟨B, 5, none⟩ y) B x0 x1 x2 x3 x4 y x6 t := ⟨set5 h.1 y, by rw [World.cell?_setCell_other w _ _ _ (ne_off (by decide))]; exact h.2⟩
theorem tkr6 (h : Tkr w B x0 x1 x2 x3 x4 x5 x6 t) (y : Value) : Tkr (w.setCell ⟨B, 6, none⟩ y) B x0 x1 x2 x3 x4 x5 y t := ⟨set6 h.1 y, by rw [World.cell?_setCell_other w _ _ _ (ne_off (by decide))]; exact h.2⟩
theorem tkrD (h : Tkr w B x0 x1 x2 x3 x4 x5 x6 t) : Tkr w.drew B x0 x1 x2 x3 x4 x5 x6 t := h
theorem belD {base : Nat} (h : Below base w w') : Below base w w'.drew := ⟨h.os, h.tape, h.output, h.size, h.block⟩
theorem sizD {base : Nat} (h : base ≤ w.heap.size) : base ≤ w.drew.heap.size := h
end
/-- A host in memory. -/
abbrev HostR (w : World) (B : Nat) (h : FHost) (t : ByteArray) : Prop := Tkr w B (.int .i64 h.ph) (.string h.im) (.int .i64 h.bl) (.bool h.ag) (.int .i64 h.tr) (.string h.rd) (.int .i64 h.rp) (.string t)
/-- It is this one now; of what was there below nothing has turned. -/
def Gone (B base : Nat) (w : World) (x : FHost) (t : ByteArray) (e : Ending) (w' : World) : Prop := e = .returned (.tuple #[]) ∧ HostR w' B x t ∧ Below base w w'
set_option maxRecDepth 100000 in
theorem leave_any (h : FHost) (t : ByteArray) {B base : Nat} (w : World) (hX : HostR w B h t) (hb : base ≤ B) : Calls Try.prog 54 #[.pointer (some ⟨B, 0, none⟩)] w (Gone B base w ⟨h.ph, h.im, 0, false, h.tr, ⟨#[]⟩, h.rp⟩ t) := by
  obtain ⟨ph, im, bl, ag, tr, rd, rp⟩ := h
  dsimp only at *
  go_enter Try.func54, Try.ntmps54
  go_wp2_with fail
  refine bodyPost_ret (v := .tuple #[]) (by simp [results, Try.results54, go_sem]) rfl ?_
  exact ⟨rfl, tkr5 (tkr3 (tkr2 hX (.int .i64 0)) (.bool false)) (.string ⟨#[]⟩), ((((Below.refl base w).setCell (p := ⟨B, 2, none⟩) hb _).setCell (p := ⟨B, 3, none⟩) hb _).setCell (p := ⟨B, 5, none⟩) hb _)⟩
set_option maxRecDepth 100000 in
theorem wrong_no (h : FHost) (t : ByteArray) {B base : Nat} (w : World) (hX : HostR w B h t) (hb : base ≤ B) (g : 8 ≤ h.tr) : Calls Try.prog 53 #[.pointer (some ⟨B, 0, none⟩)] w fun e w' => e = .returned (.bool false) ∧ HostR w' B (overH h) t ∧ Below base w w' := by
  obtain ⟨ph, im, bl, ag, tr, rd, rp⟩ := h
  dsimp only [overH] at *
  go_enter Try.func53, Try.ntmps53
  go_wp2_with fail
  go_ret
  exact ⟨rfl, tkr6 (tkr5 (tkr4 (tkr3 (tkr2 (tkr1 (tkr0 hX (.int .i64 7)) (.string im)) (.int .i64 0)) (.bool false)) (.int .i64 8)) (.string ⟨#[]⟩)) (.int .i64 2), HstHost.set7 (Below.refl base w) hb⟩
set_option maxRecDepth 100000 in
theorem wrong_yes (h : FHost) (t : ByteArray) {B base : Nat} (w : World) (hX : HostR w B h t) (hb : base ≤ B) (g : ¬ 8 ≤ h.tr) (g0 : 0 ≤ h.tr) : Calls Try.prog 53 #[.pointer (some ⟨B, 0, none⟩)] w fun e w' => e = .returned (.bool true) ∧ HostR w' B (moreH h) t ∧ Below base w w' := by
  obtain ⟨ph, im, bl, ag, tr, rd, rp⟩ := h
  dsimp only [moreH] at *
  go_enter Try.func53, Try.ntmps53
  go_wp2_with fail
  go_ret
  exact ⟨rfl, tkr4 hX (.int .i64 (tr + 1)), (Below.refl base w).setCell (p := ⟨B, 4, none⟩) hb _⟩
theorem gone_then {B base : Nat} {w w1 : World} {x : FHost} {t : ByteArray} (hb : Below base w w1) {e : Ending} {w2 : World} (h : Gone B base w1 x t e w2) : Gone B base w x t e w2 := ⟨h.1, h.2.1, hb.trans h.2.2⟩
set_option maxRecDepth 100000 in
theorem anew_any (h : FHost) (t : ByteArray) {B base : Nat} (w : World) (hX : HostR w B h t) (hb : base ≤ B) (g0 : 0 ≤ h.tr) : Calls Try.prog 39 #[.pointer (some ⟨B, 0, none⟩)] w (Gone B base w (anewH h) t) := by
  unfold anewH
  cases ho : overB h with
  | true =>
    have HW := hide (wrong_no h t w hX hb (over_iff.1 ho))
    rw [if_pos rfl]
    clear hX ho
    generalize overH h = X at *
    go_enter Try.func39, Try.ntmps39
    go_wp2_with (go_at_call 53; refine HW.out.mono ?_; rintro e w1 ⟨rfl, hX, hB⟩)
    exact bodyPost_ret (v := .tuple #[]) (by simp [results, Try.results39, go_sem]) rfl ⟨rfl, hX, hB⟩
  | false =>
    have HW := hide (wrong_yes h t w hX hb (over_not.1 ho) g0)
    rw [if_neg (by decide)]
    have HL : Hid (∀ w, HostR w B ⟨1, h.im, h.bl, h.ag, h.tr + 1, h.rd, h.rp⟩ t → Calls Try.prog 54 #[.pointer (some ⟨B, 0, none⟩)] w (Gone B base w (freshH h) t)) := fun w hX => leave_any _ t w hX hb
    clear hX ho
    generalize freshH h = X at *
    go_enter Try.func39, Try.ntmps39
    go_wp2_with (first | (go_at_call 53; refine HW.out.mono ?_; rintro e w1 ⟨rfl, hX, hB⟩) | (go_at_call 54; refine (HL.out _ (tkr0 hX (.int .i64 1))).mono ?_; rintro e w2 ⟨rfl, hX2, hB2⟩))
    exact bodyPost_ret (v := .tuple #[]) (by simp [results, Try.results39, go_sem]) rfl ⟨rfl, hX2, (hB.setCell (p := ⟨B, 0, none⟩) hb _).trans hB2⟩
set_option maxRecDepth 100000 in
theorem lose_any (h : FHost) (t : ByteArray) {B base : Nat} (w : World) (hX : HostR w B h t) (hb : base ≤ B) (g0 : 0 ≤ h.tr) : Calls Try.prog 38 #[.pointer (some ⟨B, 0, none⟩)] w (Gone B base w (lostH h) t) := by
  unfold lostH
  cases ho : overB h with
  | true =>
    have HW := hide (wrong_no h t w hX hb (over_iff.1 ho))
    rw [if_pos rfl]
    clear hX ho
    generalize overH h = X at *
    go_enter Try.func38, Try.ntmps38
    go_wp2_with (go_at_call 53; refine HW.out.mono ?_; rintro e w1 ⟨rfl, hX, hB⟩)
    exact bodyPost_ret (v := .tuple #[]) (by simp [results, Try.results38, go_sem]) rfl ⟨rfl, hX, hB⟩
  | false =>
    have HW := hide (wrong_yes h t w hX hb (over_not.1 ho) g0)
    rw [if_neg (by decide)]
    obtain ⟨ph, im, bl, ag, tr, rd, rp⟩ := h
    unfold goneH freshH
    dsimp only [moreH] at *
    have HL : Hid (∀ w, HostR w B ⟨ph, im, bl, ag, tr + 1, rd, rp⟩ t → Calls Try.prog 54 #[.pointer (some ⟨B, 0, none⟩)] w (Gone B base w ⟨ph, im, 0, false, tr + 1, ⟨#[]⟩, rp⟩ t)) := fun w hX => leave_any _ t w hX hb
    clear hX ho g0
    generalize tr + 1 = n at *
    by_cases h1 : ph = 1
    · subst h1
      rw [if_pos rfl]
      go_enter Try.func38, Try.ntmps38
      go_wp2_with (first | (go_at_call 53; refine HW.out.mono ?_; rintro e w1 ⟨rfl, hX, hB⟩) | (go_at_call 54; refine (HL.out _ hX).mono ?_; rintro e w2 ⟨rfl, hX2, hB2⟩))
      exact bodyPost_ret (v := .tuple #[]) (by simp [results, Try.results38, go_sem]) rfl ⟨rfl, hX2, hB.trans hB2⟩
    rw [if_neg h1]
    by_cases h2 : ph = 2
    · subst h2
      rw [if_pos rfl]
      go_enter Try.func38, Try.ntmps38
      go_wp2_with (go_at_call 53; refine HW.out.mono ?_; rintro e w1 ⟨rfl, hX, hB⟩)
      exact bodyPost_ret (v := .tuple #[]) (by simp [results, Try.results38, go_sem]) rfl ⟨rfl, tkr3 (tkr0 hX (.int .i64 3)) (.bool true), (hB.setCell (p := ⟨B, 0, none⟩) hb _).setCell (p := ⟨B, 3, none⟩) hb _⟩
    rw [if_neg h2]
    by_cases h4 : ph = 4
    · subst h4
      rw [if_pos rfl]
      go_enter Try.func38, Try.ntmps38
      go_wp2_with (go_at_call 53; refine HW.out.mono ?_; rintro e w1 ⟨rfl, hX, hB⟩)
      exact bodyPost_ret (v := .tuple #[]) (by simp [results, Try.results38, go_sem]) rfl ⟨rfl, tkr3 (tkr0 hX (.int .i64 5)) (.bool true), (hB.setCell (p := ⟨B, 0, none⟩) hb _).setCell (p := ⟨B, 3, none⟩) hb _⟩
    rw [if_neg h4]
    by_cases h6 : ph = 6
    · subst h6
      rw [if_pos rfl]
      go_enter Try.func38, Try.ntmps38
      go_wp2_with (go_at_call 53; refine HW.out.mono ?_; rintro e w1 ⟨rfl, hX, hB⟩)
      exact bodyPost_ret (v := .tuple #[]) (by simp [results, Try.results38, go_sem]) rfl ⟨rfl, tkr5 (tkr3 (tkr2 (tkr0 hX (.int .i64 1)) (.int .i64 1)) (.bool true)) (.string bangS), (((hB.setCell (p := ⟨B, 0, none⟩) hb _).setCell (p := ⟨B, 2, none⟩) hb _).setCell (p := ⟨B, 3, none⟩) hb _).setCell (p := ⟨B, 5, none⟩) hb _⟩
    rw [if_neg h6]
    go_enter Try.func38, Try.ntmps38
    go_wp2_with (go_at_call 53; refine HW.out.mono ?_; rintro e w1 ⟨rfl, hX, hB⟩)
    exact bodyPost_ret (v := .tuple #[]) (by simp [results, Try.results38, go_sem]) rfl ⟨rfl, hX, hB⟩
set_option maxRecDepth 100000 in
theorem npieces_any (h : FHost) (t : ByteArray) {B : Nat} (w : World) (hX : HostR w B h t) (hi : h.im.size ≤ 288) : Calls Try.prog 63 #[.pointer (some ⟨B, 0, none⟩)] w fun e w' => e = .returned (.int .i64 (nP h.im : Int)) ∧ Below w.heap.size w w' := by
  obtain ⟨ph, im, bl, ag, tr, rd, rp⟩ := h
  dsimp only at *
  have hn : (splitL im).length = nP im := len_split hi
  have HS : Hid (∀ w, Calls Try.prog 52 #[.string im] w fun e w' => ∃ a c, e = .returned (.tuple #[.slice a (nP im) c, .int .i64 (errB (splitOk im))]) ∧ Below w.heap.size w w') := fun w => (split_any im w).mono fun e w' ⟨v, he, hown, hb⟩ => by
    obtain ⟨a, c, rfl⟩ := owns_form hown
    rw [hn] at he
    exact ⟨a, c, he, hb⟩
  clear hn
  generalize nP im = n at *
  generalize errB (splitOk im) = E at *
  go_enter Try.func63, Try.ntmps63
  go_wp2_with (go_at_call 52; refine (HS.out _).mono ?_; rintro e w1 ⟨a, c, rfl, hB⟩)
  go_ret
  exact ⟨rfl, hB⟩
end Go.Proofs.Ytgkmallikomnaaa.RepNear
