/- What is kept, counted, reported by a reply taken. No program is named here. -/
import Derived.Test.YtgkmallikomnaaaRepMath
namespace Go.Proofs.Ytgkmallikomnaaa.RepFacts
open Go.Proofs.Ytgkmallikomnaaa Go.Proofs.Ytgkmallikomnaaa.Bytes Go.Proofs.Ytgkmallikomnaaa.Hst Go.Proofs.Ytgkmallikomnaaa.Rep
open Go.Proofs.Ytgkmallikomnaaa.Blo (nP)
open Go.Proofs.Ytgkmallikomnaaa.Ans (isAns aSa)
/-- As many tries or more; if it is done, its tries are used up. -/
structure Stay (h x : FHost) : Prop where
  tr : h.tr ≤ x.tr
  nd : x.ph = 7 → x.rp = 2
theorem stay_to {h : FHost} (p b : Int) (a : Bool) (hp : p ≠ 7) : Stay h (toH h p b a) := ⟨Int.le_refl _, fun e => absurd e hp⟩
theorem stay_self {h : FHost} (hp : h.ph ≠ 7) : Stay h h := ⟨Int.le_refl _, fun e => absurd e hp⟩
theorem stay_over {h : FHost} (ht : h.tr ≤ 8) : Stay h (overH h) := ⟨ht, fun _ => rfl⟩
theorem stay_mk {h : FHost} {p b : Int} {im r : ByteArray} {a : Bool} {t rp : Int} (hp : p ≠ 7) (ht : h.tr ≤ t) : Stay h ⟨p, im, b, a, t, r, rp⟩ := ⟨ht, fun e => absurd e hp⟩
theorem stay_anew {h : FHost} (ht : h.tr ≤ 8) : Stay h (anewH h) := by
  unfold anewH
  cases overB h with
  | true => exact stay_over ht
  | false => exact stay_mk (by decide) (by omega)
theorem stay_lost {h : FHost} (ht : h.tr ≤ 8) (hp : h.ph ≠ 7) : Stay h (lostH h) := by
  unfold lostH
  cases overB h with
  | true => exact stay_over ht
  | false =>
    show Stay h (goneH h)
    unfold goneH
    split
    · exact stay_mk (by decide) (by omega)
    · split
      · exact stay_mk (by decide) (by omega)
      · split
        · exact stay_mk (by decide) (by omega)
        · split
          · exact stay_mk (by decide) (by omega)
          · exact stay_mk hp (by omega)
/-- Is its image read, whole, and the last bytes fewer than a block? -/
def gotAll (h : FHost) (t : ByteArray) : Prop := h.ph = 6 ∧ t.size < 32 ∧ h.rd ++ t = h.im
theorem stay_go {h : FHost} (g : okH h = true) (t : ByteArray) (hn : ¬ gotAll h t) : Stay h (goH h t) := by
  obtain ⟨g1, _, _, _, g5, _⟩ := ok_nums g
  have hp : h.ph ≠ 7 := by omega
  have ha := stay_anew g5.2
  have hs := stay_self hp
  unfold goH
  split
  · unfold clearedH
    split
    · exact stay_mk (by split <;> decide) (Int.le_refl _)
    · split
      · split
        · exact stay_to 2 0 h.ag (by decide)
        · split
          · exact stay_to 1 0 true (by decide)
          · split
            · exact stay_to 1 1 true (by decide)
            · exact hs
      · exact ha
  · split
    · exact stay_to 3 h.bl false (by decide)
    · split
      · unfold polledH
        split
        · split
          · exact hs
          · split
            · exact stay_to 2 h.bl false (by decide)
            · split
              · exact stay_to 4 (nP h.im : Int) false (by decide)
              · split
                · exact stay_to 2 (h.bl + 1) false (by decide)
                · exact ha
        · exact ha
      · split
        · exact stay_to 5 h.bl false (by decide)
        · split
          · unfold waitedH
            split
            · split
              · exact stay_mk (by decide) (Int.le_refl _)
              · split
                · exact stay_to 4 h.bl false (by decide)
                · split
                  · exact hs
                  · exact ha
            · exact ha
          · rename_i n1 n2 n3 n4 n5
            have h6 : h.ph = 6 := by omega
            unfold readH
            split
            · exact ha
            · split
              · split
                · rename_i m1 m2 m3
                  exact absurd ⟨h6, m2, m3⟩ hn
                · exact ha
              · split
                · exact ha
                · exact stay_mk hp (Int.le_refl _)
theorem good_go {h : FHost} {t : ByteArray} (hg : gotAll h t) : goH h t = goodH h := by
  obtain ⟨h1, h2, h3⟩ := hg
  unfold goH readH
  rw [if_neg (by omega), if_neg (by omega), if_neg (by omega), if_neg (by omega), if_neg (by omega), if_neg (by omega), if_pos h2, if_pos h3]
theorem take_tr {h : FHost} (g : okH h = true) (lo st : Bool) (t : ByteArray) : h.tr ≤ (takeH h lo st t).tr := by
  obtain ⟨g1, _, _, _, g5, _⟩ := ok_nums g
  rw [take_ok lo st t g]
  cases lo
  · cases st
    · by_cases hg : gotAll h t
      · show h.tr ≤ (goH h t).tr
        rw [good_go hg]
        exact Int.le_refl _
      · exact (stay_go g t hg).tr
    · exact (stay_anew g5.2).tr
  · exact (stay_lost g5.2 (by omega)).tr
/-- Who is done, and reports good: just who read all its image. -/
theorem take_good {h : FHost} (g : okH h = true) (lo st : Bool) (t : ByteArray) : (takeH h lo st t).ph = 7 ∧ (takeH h lo st t).rp = 1 ↔ lo = false ∧ st = false ∧ gotAll h t := by
  obtain ⟨g1, _, _, _, g5, _⟩ := ok_nums g
  have no : ∀ {x : FHost}, Stay h x → ¬ (x.ph = 7 ∧ x.rp = 1) := fun hs e => by have := hs.nd e.1; omega
  rw [take_ok lo st t g]
  cases lo
  · cases st
    · by_cases hg : gotAll h t
      · refine ⟨fun _ => ⟨rfl, rfl, hg⟩, fun _ => ?_⟩
        show (goH h t).ph = 7 ∧ (goH h t).rp = 1
        rw [good_go hg]
        exact ⟨rfl, rfl⟩
      · exact ⟨fun e => absurd e (no (stay_go g t hg)), fun e => absurd e.2.2 hg⟩
    · exact ⟨fun e => absurd e (no (stay_anew g5.2)), fun e => absurd e.2.1 (by decide)⟩
  · exact ⟨fun e => absurd e (no (stay_lost g5.2 (by omega))), fun e => absurd e.1 (by decide)⟩
end Go.Proofs.Ytgkmallikomnaaa.RepFacts
