/- Asking a device: what becomes of it, what it tells. No program is named here. -/
import Derived.Test.YthdnpgkoanfijaaTicMath
import Derived.Test.YthdnpgkoanfijaaBagCho
namespace Go.Proofs.Ythdnpgkoanfijaa.Sts
open Go.Proofs.Ythdnpgkoanfijaa Go.Proofs.Ythdnpgkoanfijaa.Nor Go.Proofs.Ythdnpgkoanfijaa.Ent Go.Proofs.Ythdnpgkoanfijaa.Ops Go.Proofs.Ythdnpgkoanfijaa.Jou Go.Proofs.Ythdnpgkoanfijaa.Act Go.Proofs.Ythdnpgkoanfijaa.Pla Go.Proofs.Ythdnpgkoanfijaa.Ans Go.Proofs.Ythdnpgkoanfijaa.Dev Go.Proofs.Ythdnpgkoanfijaa.Dnl Go.Proofs.Ythdnpgkoanfijaa.Tic

/-- The steps that lay down the record of a slot's first bytes: none, where there is no such record. -/
def recL (f : ByteArray) (t z : Int) : List FOp := appL f (rofQ f t z) (rofT f t z) (rofZ f t z) (rofM f t z)
theorem rec_ways (f : ByteArray) (t z : Int) : (errS f t z = 0 ∧ appOk f (rofQ f t z) (rofT f t z) (rofZ f t z) (rofM f t z) = true) ∨ (¬ errS f t z = 0 ∧ rofQ f t z = 0 ∧ rofT f t z = 0 ∧ rofZ f t z = 0 ∧ rofM f t z = 0 ∧ appOk f 0 0 0 0 = false ∧ recL f t z = []) := by
  have hr : recMay 0 0 0 0 = false := by decide
  have ha : appOk f 0 0 0 0 = false := by unfold appOk; rw [hr, Bool.and_false]
  cases h : rofOk f t z with
  | false =>
    obtain ⟨v1, v2, v3, v4, v5⟩ := rof_no h
    refine .inr ⟨by rw [v5]; decide, v1, v2, v3, v4, ha, ?_⟩
    unfold recL
    rw [v1, v2, v3, v4]
    exact app_no ha
  | true =>
    by_cases ht : topI f < 1048576
    · obtain ⟨_, _, _, _, v5⟩ := rof_yes h ht
      exact .inl ⟨v5, (rof_good v5).2.1⟩
    · obtain ⟨v1, v2, v3, v4, v5⟩ := rof_full h ht
      refine .inr ⟨by rw [v5]; decide, v1, v2, v3, v4, ha, ?_⟩
      unfold recL
      rw [v1, v2, v3, v4]
      exact app_no ha
theorem rec_len {f : ByteArray} {t z : Int} (h : errS f t z = 0) : 6 ≤ (recL f t z).length ∧ (recL f t z).length ≤ 7 := by
  have ho := (rof_good h).2.1
  unfold recL
  rw [app_ok ho, List.length_append, length_wordsTo]
  have : (appE f).length ≤ 1 := by unfold appE; split <;> simp
  omega
theorem rec_few (f : ByteArray) (t z : Int) : (recL f t z).length ≤ 7 := by
  rcases rec_ways f t z with ⟨h, _⟩ | ⟨_, _, _, _, _, _, h⟩
  · exact (rec_len h).2
  · rw [h]; exact Nat.zero_le _
/-- The device behind the question. -/
def maniD (f : ByteArray) (d : FDev) : FDev := if errS f d.sl d.gt = 0 then ⟨5, d.su, d.nx, d.gt, d.sl, recL f d.sl d.gt⟩ else failedD 3
def syncI (d : FDev) : Int := if d.ops.length = 0 then 3 else 2
def askD (f : ByteArray) (d : FDev) : FDev := if d.sa = 1 then ⟨syncI d, d.su, d.nx, d.gt, d.sl, d.ops⟩ else if d.sa = 4 then maniD f d else d
def getD (f : ByteArray) (d : FDev) : FDev := if bothB f d then askD f d else newD
/-- The ticks that an answer tells. -/
def tkI (d : FDev) : Int := min (d.ops.length : Int) 255
def errT (ok : Bool) : Int := if ok then 0 else 1900
theorem errT_t {ok : Bool} (h : ok = true) : errT ok = 0 := by rw [h]; rfl
theorem errT_f {ok : Bool} (h : ok = false) : errT ok = 1900 := by rw [h]; rfl
theorem get_no {f : ByteArray} {d : FDev} (h : bothB f d = false) : getD f d = newD := by unfold getD; rw [h]; rfl
theorem get_ok {f : ByteArray} {d : FDev} (h : bothB f d = true) : getD f d = askD f d := by unfold getD; rw [if_pos h]
theorem ask_sync {f : ByteArray} {d : FDev} (h : d.sa = 1) : askD f d = ⟨syncI d, d.su, d.nx, d.gt, d.sl, d.ops⟩ := by unfold askD; rw [if_pos h]
theorem ask_mani {f : ByteArray} {d : FDev} (h : d.sa = 4) : askD f d = maniD f d := by unfold askD; rw [if_neg (by omega), if_pos h]
theorem ask_other {f : ByteArray} {d : FDev} (h1 : ¬ d.sa = 1) (h4 : ¬ d.sa = 4) : askD f d = d := by unfold askD; rw [if_neg h1, if_neg h4]
theorem mani_ok {f : ByteArray} {d : FDev} (h : errS f d.sl d.gt = 0) : maniD f d = ⟨5, d.su, d.nx, d.gt, d.sl, recL f d.sl d.gt⟩ := by unfold maniD; rw [if_pos h]
theorem mani_no {f : ByteArray} {d : FDev} (h : ¬ errS f d.sl d.gt = 0) : maniD f d = failedD 3 := by unfold maniD; rw [if_neg h]
theorem mani_few (f : ByteArray) (d : FDev) : (maniD f d).ops.length ≤ 7 := by
  unfold maniD
  split
  · exact rec_few _ _ _
  · exact Nat.zero_le _
theorem get_few (f : ByteArray) (d : FDev) : (getD f d).ops.length ≤ 65536 := by
  cases h : bothB f d with
  | false => rw [get_no h]; exact Nat.zero_le _
  | true =>
    have hl := (dev_parts (both_parts.1 h).2).2.2.2
    rw [get_ok h]
    by_cases h1 : d.sa = 1
    · rw [ask_sync h1]; show d.ops.length ≤ _; omega
    by_cases h4 : d.sa = 4
    · rw [ask_mani h4]; have := mani_few f d; omega
    rw [ask_other h1 h4]
    omega
end Go.Proofs.Ythdnpgkoanfijaa.Sts
