/- A host and what came back: what it makes of it. No program is named here. -/
import Derived.Test.YtgkmallikomnaaaBagHst
import Derived.Test.YtgkmallikomnaaaBagAns
namespace Go.Proofs.Ytgkmallikomnaaa.Rep
open Go.Proofs.Ytgkmallikomnaaa Go.Proofs.Ytgkmallikomnaaa.Bytes Go.Proofs.Ytgkmallikomnaaa.Hst
open Go.Proofs.Ytgkmallikomnaaa.Blo (nP)
open Go.Proofs.Ytgkmallikomnaaa.Ans (isAns aSa)

/-- A host: its phase, image, block, whether again, tries, what it read, its report. -/
structure FHost where
  ph : Int
  im : ByteArray
  bl : Int
  ag : Bool
  tr : Int
  rd : ByteArray
  rp : Int
def zeroH : FHost := ⟨0, ⟨#[]⟩, 0, false, 0, ⟨#[]⟩, 0⟩
def mayH (h : FHost) : Bool := hostB h.ph h.im h.bl h.tr h.rd h.rp
/-- May a reply be taken? -/
def okH (h : FHost) : Bool := askB h.ph h.im h.bl h.tr h.rd h.rp
def toH (h : FHost) (p b : Int) (g : Bool) : FHost := ⟨p, h.im, b, g, h.tr, h.rd, h.rp⟩
def overB (h : FHost) : Bool := decide (8 ≤ h.tr)
def overH (h : FHost) : FHost := ⟨7, h.im, 0, false, 8, ⟨#[]⟩, 2⟩
def moreH (h : FHost) : FHost := ⟨h.ph, h.im, h.bl, h.ag, h.tr + 1, h.rd, h.rp⟩
def bangS : ByteArray := ⟨#[33]⟩
def wrongH (h : FHost) : FHost := if overB h then overH h else moreH h
def freshH (h : FHost) : FHost := ⟨1, h.im, 0, false, h.tr + 1, ⟨#[]⟩, h.rp⟩
def anewH (h : FHost) : FHost := if overB h then overH h else freshH h
def goneH (h : FHost) : FHost := if h.ph = 1 then freshH h else if h.ph = 2 then ⟨3, h.im, h.bl, true, h.tr + 1, h.rd, h.rp⟩ else if h.ph = 4 then ⟨5, h.im, h.bl, true, h.tr + 1, h.rd, h.rp⟩ else if h.ph = 6 then ⟨1, h.im, 1, true, h.tr + 1, bangS, h.rp⟩ else moreH h
def lostH (h : FHost) : FHost := if overB h then overH h else goneH h
def clearedH (h : FHost) (t : ByteArray) : FHost := if h.ag then ⟨if h.rd = bangS then 5 else 1, h.im, 0, false, h.tr, ⟨#[]⟩, h.rp⟩ else if isAns t then (if aSa t = 0 then toH h 2 0 h.ag else if aSa t = 7 then toH h 1 0 true else if aSa t = 3 ∨ aSa t = 6 then toH h 1 1 true else h) else anewH h
def polledH (h : FHost) (t : ByteArray) : FHost := if isAns t then (if aSa t = 1 ∨ aSa t = 2 then h else if aSa t = 3 ∧ h.ag = true ∨ aSa t = 0 ∧ h.ag = true ∧ h.bl = 0 then toH h 2 h.bl false else if aSa t = 3 ∧ (nP h.im : Int) ≤ h.bl + 1 then toH h 4 (nP h.im : Int) false else if aSa t = 3 then toH h 2 (h.bl + 1) false else anewH h) else anewH h
def waitedH (h : FHost) (t : ByteArray) : FHost := if isAns t then (if aSa t = 0 then ⟨6, h.im, 0, false, h.tr, ⟨#[]⟩, h.rp⟩ else if aSa t = 3 ∧ h.ag = true then toH h 4 h.bl false else if aSa t = 4 ∨ aSa t = 5 then h else anewH h) else anewH h
def goodH (h : FHost) : FHost := ⟨7, h.im, 0, h.ag, h.tr, ⟨#[]⟩, 1⟩
def readH (h : FHost) (t : ByteArray) : FHost := if 32 < t.size then anewH h else if t.size < 32 then (if h.rd ++ t = h.im then goodH h else anewH h) else if h.im.size < (h.rd ++ t).size ∨ (nP h.im : Int) ≤ h.bl then anewH h else ⟨h.ph, h.im, h.bl + 1, h.ag, h.tr, h.rd ++ t, h.rp⟩
def goH (h : FHost) (t : ByteArray) : FHost := if h.ph = 1 then clearedH h t else if h.ph = 2 then toH h 3 h.bl false else if h.ph = 3 then polledH h t else if h.ph = 4 then toH h 5 h.bl false else if h.ph = 5 then waitedH h t else readH h t
def takeH (h : FHost) (lo st : Bool) (t : ByteArray) : FHost := if okH h then (if lo then lostH h else if st then anewH h else goH h t) else zeroH
def errR (ok : Bool) : Int := if ok then 0 else 2300
theorem take_no {h : FHost} (lo st : Bool) (t : ByteArray) (g : okH h = false) : takeH h lo st t = zeroH := by unfold takeH; rw [g]; rfl
theorem take_ok {h : FHost} (lo st : Bool) (t : ByteArray) (g : okH h = true) : takeH h lo st t = if lo then lostH h else if st then anewH h else goH h t := by unfold takeH; rw [g]; rfl
theorem ok_parts {h : FHost} : okH h = true ↔ mayH h = true ∧ ¬ h.ph = 0 ∧ ¬ h.ph = 7 := by unfold okH mayH; exact ask_parts
theorem ok_nums {h : FHost} (g : okH h = true) : (1 ≤ h.ph ∧ h.ph ≤ 6) ∧ (0 ≤ h.rp ∧ h.rp ≤ 3) ∧ (1 ≤ h.im.size ∧ h.im.size ≤ 288) ∧ (0 ≤ h.bl ∧ h.bl ≤ (nP h.im : Int)) ∧ (0 ≤ h.tr ∧ h.tr ≤ 8) ∧ h.rd.size ≤ 320 ∧ 1 ≤ nP h.im ∧ nP h.im ≤ 9 := by
  obtain ⟨g1, g2, g3⟩ := ok_parts.1 g
  unfold mayH at g1
  obtain ⟨a1, a2, a3, a4, a5, a6, a7, a8, a9, a10, a11⟩ := host_parts.1 g1
  have hn : nP h.im = (h.im.size + 31) / 32 := rfl
  refine ⟨?_, ⟨a3, a4⟩, ?_, ⟨a7, a8⟩, ⟨a9, a10⟩, a11, ?_, ?_⟩ <;> omega
theorem may_of {h : FHost} (h1 : 0 ≤ h.ph ∧ h.ph ≤ 7) (h2 : 0 ≤ h.rp ∧ h.rp ≤ 3) (h3 : 1 ≤ h.im.size ∧ h.im.size ≤ 288) (h4 : 0 ≤ h.bl ∧ h.bl ≤ (nP h.im : Int)) (h5 : 0 ≤ h.tr ∧ h.tr ≤ 8) (h6 : h.rd.size ≤ 320) : mayH h = true := by
  unfold mayH
  exact host_parts.2 ⟨h1.1, h1.2, h2.1, h2.2, h3.2, .inl h3.1, h4.1, h4.2, h5.1, h5.2, h6⟩
theorem may_mk {p b tr rp : Int} {im rd : ByteArray} (ag : Bool) (h1 : 0 ≤ p ∧ p ≤ 7) (h2 : 0 ≤ rp ∧ rp ≤ 3) (h3 : 1 ≤ im.size ∧ im.size ≤ 288) (h4 : 0 ≤ b ∧ b ≤ (nP im : Int)) (h5 : 0 ≤ tr ∧ tr ≤ 8) (h6 : rd.size ≤ 320) : mayH ⟨p, im, b, ag, tr, rd, rp⟩ = true := may_of (h := ⟨p, im, b, ag, tr, rd, rp⟩) h1 h2 h3 h4 h5 h6
theorem over_iff {h : FHost} : overB h = true ↔ 8 ≤ h.tr := by unfold overB; exact decide_eq_true_iff
theorem over_not {h : FHost} : overB h = false ↔ ¬ 8 ≤ h.tr := by unfold overB; exact decide_eq_false_iff_not
/-- What is kept, whatever came back: the image; that it may be. -/
structure Kept (h x : FHost) : Prop where
  im : x.im = h.im
  may : mayH x = true
theorem kept_to {h : FHost} (g : okH h = true) (p b : Int) (a : Bool) (hp : 0 ≤ p ∧ p ≤ 7) (hb : 0 ≤ b ∧ b ≤ (nP h.im : Int)) : Kept h (toH h p b a) := by
  obtain ⟨_, g2, g3, _, g5, g6, _⟩ := ok_nums g
  exact ⟨rfl, may_of hp g2 g3 hb g5 g6⟩
theorem kept_self {h : FHost} (g : okH h = true) : Kept h h := ⟨rfl, (ok_parts.1 g).1⟩
theorem kept_over {h : FHost} (g : okH h = true) : Kept h (overH h) := by
  obtain ⟨_, g2, g3, g4, g5, g6, _⟩ := ok_nums g
  exact ⟨rfl, may_mk (p := 7) (b := 0) (tr := 8) (rp := 2) (rd := ⟨#[]⟩) false ⟨by decide, by decide⟩ ⟨by decide, by decide⟩ g3 ⟨Int.le_refl _, by omega⟩ ⟨by decide, by decide⟩ (by decide)⟩
theorem kept_more {h : FHost} (g : okH h = true) (ho : overB h = false) (p b : Int) (a : Bool) (r : ByteArray) (hp : 0 ≤ p ∧ p ≤ 7) (hb : 0 ≤ b ∧ b ≤ (nP h.im : Int)) (hr : r.size ≤ 320) : Kept h ⟨p, h.im, b, a, h.tr + 1, r, h.rp⟩ := by
  obtain ⟨_, g2, g3, _, g5, g6, _⟩ := ok_nums g
  have := over_not.1 ho
  exact ⟨rfl, may_of hp g2 g3 hb ⟨by show 0 ≤ h.tr + 1; omega, by show h.tr + 1 ≤ 8; omega⟩ hr⟩
theorem kept_anew {h : FHost} (g : okH h = true) : Kept h (anewH h) := by
  unfold anewH
  cases ho : overB h with
  | true => exact kept_over g
  | false => exact kept_more g ho 1 0 false ⟨#[]⟩ ⟨by decide, by decide⟩ ⟨Int.le_refl _, by omega⟩ (by decide)
theorem kept_lost {h : FHost} (g : okH h = true) : Kept h (lostH h) := by
  obtain ⟨g1, _, _, g4, _, g6, g7, _⟩ := ok_nums g
  unfold lostH
  cases ho : overB h with
  | true => exact kept_over g
  | false =>
    show Kept h (goneH h)
    unfold goneH
    split
    · exact kept_more g ho 1 0 false ⟨#[]⟩ ⟨by decide, by decide⟩ ⟨Int.le_refl _, by omega⟩ (by decide)
    · split
      · exact kept_more g ho 3 h.bl true h.rd ⟨by decide, by decide⟩ g4 g6
      · split
        · exact kept_more g ho 5 h.bl true h.rd ⟨by decide, by decide⟩ g4 g6
        · split
          · exact kept_more g ho 1 1 true bangS ⟨by decide, by decide⟩ ⟨by decide, by omega⟩ (by decide)
          · exact kept_more g ho h.ph h.bl h.ag h.rd ⟨by omega, by omega⟩ g4 g6
theorem kept_go {h : FHost} (g : okH h = true) (t : ByteArray) : Kept h (goH h t) := by
  obtain ⟨g1, g2, g3, g4, g5, g6, g7, _⟩ := ok_nums g
  have ha := kept_anew g
  have hs := kept_self g
  unfold goH
  split
  · unfold clearedH
    split
    · exact ⟨rfl, may_of ⟨by show 0 ≤ (if h.rd = bangS then (5 : Int) else 1); split <;> decide, by show (if h.rd = bangS then (5 : Int) else 1) ≤ 7; split <;> decide⟩ g2 g3 ⟨Int.le_refl _, by show (0 : Int) ≤ _; omega⟩ g5 (by show (0 : Nat) ≤ 320; omega)⟩
    · split
      · split
        · exact kept_to g 2 0 h.ag ⟨by decide, by decide⟩ ⟨Int.le_refl _, by omega⟩
        · split
          · exact kept_to g 1 0 true ⟨by decide, by decide⟩ ⟨Int.le_refl _, by omega⟩
          · split
            · exact kept_to g 1 1 true ⟨by decide, by decide⟩ ⟨by decide, by omega⟩
            · exact hs
      · exact ha
  · split
    · exact kept_to g 3 h.bl false ⟨by decide, by decide⟩ g4
    · split
      · unfold polledH
        split
        · split
          · exact hs
          · split
            · exact kept_to g 2 h.bl false ⟨by decide, by decide⟩ g4
            · split
              · exact kept_to g 4 (nP h.im : Int) false ⟨by decide, by decide⟩ ⟨by omega, Int.le_refl _⟩
              · split
                · exact kept_to g 2 (h.bl + 1) false ⟨by decide, by decide⟩ (by omega)
                · exact ha
        · exact ha
      · split
        · exact kept_to g 5 h.bl false ⟨by decide, by decide⟩ g4
        · split
          · unfold waitedH
            split
            · split
              · exact ⟨rfl, may_mk (p := 6) (b := 0) (rd := ⟨#[]⟩) false ⟨by decide, by decide⟩ g2 g3 ⟨Int.le_refl _, by omega⟩ g5 (by decide)⟩
              · split
                · exact kept_to g 4 h.bl false ⟨by decide, by decide⟩ g4
                · split
                  · exact hs
                  · exact ha
            · exact ha
          · unfold readH
            split
            · exact ha
            · split
              · split
                · exact ⟨rfl, may_mk (p := 7) (b := 0) (rp := 1) (rd := ⟨#[]⟩) h.ag ⟨by decide, by decide⟩ ⟨by decide, by decide⟩ g3 ⟨Int.le_refl _, by omega⟩ g5 (by decide)⟩
                · exact ha
              · split
                · exact ha
                · exact ⟨rfl, may_mk (p := h.ph) (b := h.bl + 1) (rd := h.rd ++ t) h.ag ⟨by omega, by omega⟩ g2 g3 ⟨by omega, by omega⟩ g5 (by omega)⟩
theorem kept_take {h : FHost} (g : okH h = true) (lo st : Bool) (t : ByteArray) : Kept h (takeH h lo st t) := by
  rw [take_ok lo st t g]
  cases lo <;> cases st
  · exact kept_go g t
  · exact kept_anew g
  · exact kept_lost g
  · exact kept_lost g
end Go.Proofs.Ytgkmallikomnaaa.Rep
