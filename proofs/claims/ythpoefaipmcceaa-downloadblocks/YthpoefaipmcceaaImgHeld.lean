/- What is known of the laws' flash of one record, its image and the next record. No program is named here. -/
import Derived.Test.YthpoefaipmcceaaHeldMath
namespace Go.Proofs.Ythpoefaipmcceaa.Held
open Go.Proofs.Ythpoefaipmcceaa Go.Proofs.Ythpoefaipmcceaa.Bytes Go.Proofs.Ythpoefaipmcceaa.Ent Go.Proofs.Ythpoefaipmcceaa.Ops Go.Proofs.Ythpoefaipmcceaa.Jou Go.Proofs.Ythpoefaipmcceaa.Act

theorem get_ext (f : ByteArray) (p n i : Nat) : (f.extract p (p + n)).data.toList[i]? = if i < n then f.data.toList[p + i]? else none := by
  rw [list_extract, List.getElem?_take, List.getElem?_drop, show p + n - p = n from by omega]
theorem ext_eq {f g : ByteArray} {p n : Nat} (h : ∀ i, p ≤ i → i < p + n → f.data.toList[i]? = g.data.toList[i]?) : f.extract p (p + n) = g.extract p (p + n) := by
  apply ba_ext
  apply List.ext_getElem?
  intro i
  rw [get_ext, get_ext]
  split
  · exact h _ (by omega) (by omega)
  · rfl
theorem cut_eq {f g : ByteArray} {t z : Int} (h : ∀ i, 192 + 288 * t.toNat ≤ i → i < 192 + 288 * t.toNat + z.toNat → f.data.toList[i]? = g.data.toList[i]?) : cutI f t z = cutI g t z := ext_eq h
theorem held_cut : cutI heldS 0 12 = ab := by
  rw [← bare_cut]
  exact cut_eq fun i h _ => held_out i (by omega)
theorem held_sum : sumI heldS 0 12 = sumAb := by unfold sumI sumAb; rw [held_cut]
theorem held_top : topI heldS = 1 := by unfold topI; rw [held_scan]; rfl
theorem sumAb_lt : 0 ≤ sumAb ∧ sumAb ≤ 4294967295 := by
  have := sumI_lt heldS 0 12
  rw [held_sum] at this
  exact this
theorem held_rof : rofQ heldS 0 12 = 2 ∧ rofT heldS 0 12 = 0 ∧ rofZ heldS 0 12 = 12 ∧ rofM heldS 0 12 = sumAb ∧ errS heldS 0 12 = 0 := by
  obtain ⟨h1, h2, h3, h4, h5⟩ := rof_yes (f := heldS) (t := 0) (z := 12) (rofOk_parts.2 ⟨size_heldS, by omega, by omega, by omega, by omega⟩) (by rw [held_top]; omega)
  rw [held_top] at h1
  rw [held_sum] at h4
  exact ⟨h1, h2, h3, h4, h5⟩
theorem held_imgOk (m : Int) (h : 0 ≤ m ∧ m ≤ 4294967295) (q : Int) (hq : 1 ≤ q ∧ q ≤ 1048576) : imgOk heldS q 0 12 m = true :=
  imgOk_parts.2 ⟨size_heldS, recMay_parts.2 ⟨hq.1, hq.2, by omega, by omega, by omega, by omega, h.1, h.2⟩⟩
theorem held_img (m : Int) (h : 0 ≤ m ∧ m ≤ 4294967295) (q : Int) (hq : 1 ≤ q ∧ q ≤ 1048576) : imgS heldS q 0 12 m = ab := by rw [imgS_ok (held_imgOk m h q hq), held_cut]
theorem held_good (m : Int) (h : 0 ≤ m ∧ m ≤ 4294967295) (q : Int) (hq : 1 ≤ q ∧ q ≤ 1048576) : goodB heldS q 0 12 m = decide (sumAb = m) := by unfold goodB; rw [held_imgOk m h q hq, held_sum, Bool.true_and]
def sumAb1 : Int := bits .xor .i64 sumAb 1
theorem sumAb1_ne : ¬ sumAb = sumAb1 ∧ 0 ≤ sumAb1 ∧ sumAb1 ≤ 4294967295 := by decide +kernel
end Go.Proofs.Ythpoefaipmcceaa.Held
