/- A carrying without a fault, reply by reply. No program is named here. -/
import Derived.Test.YtgkmallikomnaaaRepMath
namespace Go.Proofs.Ytgkmallikomnaaa.RepRun
open Go.Proofs.Ytgkmallikomnaaa Go.Proofs.Ytgkmallikomnaaa.Bytes Go.Proofs.Ytgkmallikomnaaa.Hst Go.Proofs.Ytgkmallikomnaaa.Rep
open Go.Proofs.Ytgkmallikomnaaa.Blo (nP pieceS)
open Go.Proofs.Ytgkmallikomnaaa.Ans (isAns aSa)
/-- A host in this phase, at this block, with these bytes read: nothing went wrong. -/
def atH (im : ByteArray) (p : Int) (b : Nat) (rd : ByteArray) : FHost := ⟨p, im, b, false, 0, rd, 0⟩
theorem ok_at {im : ByteArray} (hi : 1 ≤ im.size ∧ im.size ≤ 288) {p : Int} (hp : 1 ≤ p ∧ p ≤ 6) {b : Nat} (hb : b ≤ nP im) {rd : ByteArray} (hr : rd.size ≤ 320) : okH (atH im p b rd) = true := by
  rw [ok_parts]
  refine ⟨may_mk false ⟨by omega, by omega⟩ ⟨by decide, by decide⟩ hi ⟨by omega, by omega⟩ ⟨by decide, by decide⟩ hr, ?_, ?_⟩
  · show ¬ p = 0; omega
  · show ¬ p = 7; omega
variable {im t : ByteArray}
theorem go_idle (g : okH (atH im 1 0 ⟨#[]⟩) = true) (h1 : isAns t = true) (h2 : aSa t = 0) : takeH (atH im 1 0 ⟨#[]⟩) false false t = atH im 2 0 ⟨#[]⟩ := by
  rw [take_ok _ _ _ g, if_neg (by decide), if_neg (by decide)]
  unfold goH
  rw [if_pos (show (atH im 1 0 ⟨#[]⟩).ph = 1 from rfl)]
  unfold clearedH
  rw [if_neg (show ¬ (atH im 1 0 ⟨#[]⟩).ag = true from by show ¬ false = true; decide), if_pos h1, if_pos h2]
  rfl
theorem go_send {j : Nat} (g : okH (atH im 2 j ⟨#[]⟩) = true) : takeH (atH im 2 j ⟨#[]⟩) false false t = atH im 3 j ⟨#[]⟩ := by
  rw [take_ok _ _ _ g]
  rfl
theorem go_busy {j : Nat} (g : okH (atH im 3 j ⟨#[]⟩) = true) (h1 : isAns t = true) (h2 : aSa t = 2) : takeH (atH im 3 j ⟨#[]⟩) false false t = atH im 3 j ⟨#[]⟩ := by
  rw [take_ok _ _ _ g]
  show polledH _ t = _
  unfold polledH
  rw [if_pos h1, if_pos (.inr h2)]
theorem go_down {j : Nat} (g : okH (atH im 3 j ⟨#[]⟩) = true) (h1 : isAns t = true) (h2 : aSa t = 3) (hj : j + 1 < nP im) : takeH (atH im 3 j ⟨#[]⟩) false false t = atH im 2 (j + 1) ⟨#[]⟩ := by
  rw [take_ok _ _ _ g]
  show polledH _ t = _
  unfold polledH
  have n1 : ¬ (nP (atH im 3 j ⟨#[]⟩).im : Int) ≤ (atH im 3 j ⟨#[]⟩).bl + 1 := by show ¬ (nP im : Int) ≤ (j : Int) + 1; omega
  rw [if_pos h1, if_neg (by omega), if_neg (by rw [h2]; simp [atH]), if_neg (fun h => n1 h.2), if_pos h2]
  unfold toH atH
  simp
theorem go_last {j : Nat} (g : okH (atH im 3 j ⟨#[]⟩) = true) (h1 : isAns t = true) (h2 : aSa t = 3) (hj : j + 1 = nP im) : takeH (atH im 3 j ⟨#[]⟩) false false t = atH im 4 (nP im) ⟨#[]⟩ := by
  rw [take_ok _ _ _ g]
  show polledH _ t = _
  unfold polledH
  have n1 : (nP (atH im 3 j ⟨#[]⟩).im : Int) ≤ (atH im 3 j ⟨#[]⟩).bl + 1 := by show (nP im : Int) ≤ (j : Int) + 1; omega
  rw [if_pos h1, if_neg (by omega), if_neg (by rw [h2]; simp [atH]), if_pos ⟨h2, n1⟩]
  rfl
theorem go_end {j : Nat} (g : okH (atH im 4 j ⟨#[]⟩) = true) : takeH (atH im 4 j ⟨#[]⟩) false false t = atH im 5 j ⟨#[]⟩ := by
  rw [take_ok _ _ _ g]
  rfl
theorem go_wait {j : Nat} (g : okH (atH im 5 j ⟨#[]⟩) = true) (h1 : isAns t = true) (h2 : aSa t = 0) : takeH (atH im 5 j ⟨#[]⟩) false false t = atH im 6 0 ⟨#[]⟩ := by
  rw [take_ok _ _ _ g]
  show waitedH _ t = _
  unfold waitedH
  rw [if_pos h1, if_pos h2]
  rfl
/-- Bytes that came back: a whole block, and there is more of the image; the last ones. -/
theorem go_read {q : Nat} {rd : ByteArray} (g : okH (atH im 6 q rd) = true) (ht : t.size = 32) (hs : (rd ++ t).size ≤ im.size) (hq : q < nP im) : takeH (atH im 6 q rd) false false t = atH im 6 (q + 1) (rd ++ t) := by
  rw [take_ok _ _ _ g]
  show readH _ t = _
  unfold readH
  have n1 : ¬ ((atH im 6 q rd).im.size < ((atH im 6 q rd).rd ++ t).size ∨ (nP (atH im 6 q rd).im : Int) ≤ (atH im 6 q rd).bl) := by
    show ¬ (im.size < (rd ++ t).size ∨ (nP im : Int) ≤ (q : Int))
    omega
  rw [if_neg (by omega), if_neg (by omega), if_neg n1]
  unfold atH
  simp
theorem go_good {q : Nat} {rd : ByteArray} (g : okH (atH im 6 q rd) = true) (ht : t.size < 32) (hs : rd ++ t = im) : takeH (atH im 6 q rd) false false t = ⟨7, im, 0, false, 0, ⟨#[]⟩, 1⟩ := by
  rw [take_ok _ _ _ g]
  show readH _ t = _
  unfold readH
  rw [if_neg (by omega), if_pos ht, if_pos (show (atH im 6 q rd).rd ++ t = (atH im 6 q rd).im from hs)]
  rfl
end Go.Proofs.Ytgkmallikomnaaa.RepRun
