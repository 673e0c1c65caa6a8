/- A block taken: which may be asked, what becomes of the device. No program is named here. -/
import Derived.Test.YthpoefaipmcceaaStaMath
import Derived.Test.YthpoefaipmcceaaDevMath
namespace Go.Proofs.Ythpoefaipmcceaa.Dnl
open Go.Proofs.Ythpoefaipmcceaa Go.Proofs.Ythpoefaipmcceaa.Nor Go.Proofs.Ythpoefaipmcceaa.Ops Go.Proofs.Ythpoefaipmcceaa.Jou Go.Proofs.Ythpoefaipmcceaa.Act Go.Proofs.Ythpoefaipmcceaa.Cho Go.Proofs.Ythpoefaipmcceaa.Sta Go.Proofs.Ythpoefaipmcceaa.Ans Go.Proofs.Ythpoefaipmcceaa.Dev

/-- May this be asked? -/
def okB (f : ByteArray) (d : FDev) (b : Int) (t : ByteArray) : Bool := mayF f && devB d && decide (d.sa = 0 ∨ d.sa = 3) && upB b 65535 && decide (t.size ≤ 32)
def errL (ok : Bool) : Int := if ok then 0 else 1700
def failedD (s : Int) : FDev := ⟨7, s, 0, 0, 0, []⟩
/-- Does the device take so many bytes more? -/
def roomB (d : FDev) (n : Int) : Bool := decide (d.gt % 32 = 0) && decide (d.gt + n ≤ 288) && decide (d.nx < 16)
def startD (f : ByteArray) (d : FDev) (t : ByteArray) : FDev := ⟨1, d.su, 1, t.size, othI f, erL (othI f) ++ wordsL (baseI (othI f)) t⟩
def turnD (d : FDev) (s : Int) : FDev := ⟨s, d.su, d.nx, d.gt, d.sl, d.ops⟩
def moreD (d : FDev) (t : ByteArray) : FDev := ⟨1, d.su, d.nx + 1, d.gt + t.size, d.sl, wordsL (baseI d.sl + d.gt) t⟩
def firstD (f : ByteArray) (d : FDev) (b : Int) (t : ByteArray) : FDev := if t.size = 0 then failedD 5 else if b = 0 then startD f d t else failedD 4
def furtherD (d : FDev) (b : Int) (t : ByteArray) : FDev := if b = d.nx - 1 then turnD d 1 else if ¬ b = d.nx then failedD 4 else if t.size = 0 then turnD d 4 else if roomB d t.size then moreD d t else failedD 4
/-- What Take answers, whatever it is asked. -/
def takeD (f : ByteArray) (d : FDev) (b : Int) (t : ByteArray) : FDev := if okB f d b t then (if d.sa = 0 then firstD f d b t else furtherD d b t) else newD
theorem take_no {f : ByteArray} {d : FDev} {b : Int} {t : ByteArray} (h : okB f d b t = false) : takeD f d b t = newD := by unfold takeD; rw [h]; rfl
theorem take_first {f : ByteArray} {d : FDev} {b : Int} {t : ByteArray} (h : okB f d b t = true) (h0 : d.sa = 0) : takeD f d b t = firstD f d b t := by unfold takeD; rw [if_pos h, if_pos h0]
theorem take_further {f : ByteArray} {d : FDev} {b : Int} {t : ByteArray} (h : okB f d b t = true) (h0 : d.sa = 3) : takeD f d b t = furtherD d b t := by unfold takeD; rw [if_pos h, if_neg (by omega)]
theorem errL_t {ok : Bool} (h : ok = true) : errL ok = 0 := by rw [h]; rfl
theorem errL_f {ok : Bool} (h : ok = false) : errL ok = 1700 := by rw [h]; rfl
theorem upB_iff {x k : Int} : upB x k = true ↔ 0 ≤ x ∧ x ≤ k := by unfold upB; rw [decide_eq_true_iff]
theorem okB_parts {f : ByteArray} {d : FDev} {b : Int} {t : ByteArray} : okB f d b t = true ↔ mayF f = true ∧ devB d = true ∧ (d.sa = 0 ∨ d.sa = 3) ∧ (0 ≤ b ∧ b ≤ 65535) ∧ t.size ≤ 32 := by
  unfold okB
  simp only [Bool.and_eq_true, decide_eq_true_iff, upB_iff]
  constructor
  · rintro ⟨⟨⟨⟨h1, h2⟩, h3⟩, h4⟩, h5⟩; exact ⟨h1, h2, h3, h4, h5⟩
  · rintro ⟨h1, h2, h3, h4, h5⟩; exact ⟨⟨⟨⟨h1, h2⟩, h3⟩, h4⟩, h5⟩
theorem dev_parts {d : FDev} (h : devB d = true) : (0 ≤ d.nx ∧ d.nx ≤ 16) ∧ (0 ≤ d.gt ∧ d.gt ≤ 288) ∧ (0 ≤ d.sl ∧ d.sl ≤ 1) ∧ d.ops.length ≤ 768 := by
  unfold devB stepsB at h
  simp only [Bool.and_eq_true, decide_eq_true_iff, upB_iff] at h
  obtain ⟨⟨⟨⟨_, h1⟩, h2⟩, h3⟩, h4, _⟩ := h
  exact ⟨h1, h2, h3, h4⟩
theorem may_size {f : ByteArray} (h : mayF f = true) : f.size = 768 := by unfold mayF at h; exact of_decide_eq_true h
theorem oth_01 (f : ByteArray) : 0 ≤ othI f ∧ othI f ≤ 1 := by
  unfold othI
  cases h : actO f with
  | none => exact ⟨Int.le_refl _, by decide⟩
  | some p =>
    rcases act_slot h with h1 | h1
    all_goals
      show 0 ≤ 1 - p.pt ∧ 1 - p.pt ≤ 1
      omega
theorem base_of {t : Int} (h0 : 0 ≤ t) (h1 : t ≤ 1) : baseOk t = true ∧ baseI t = 192 + 288 * t := by
  have : baseOk t = true := by unfold baseOk; exact decide_eq_true ⟨h0, h1⟩
  exact ⟨this, by unfold baseI; rw [this]; rfl⟩
theorem base_le (t : Int) : 0 ≤ baseI t ∧ baseI t ≤ 480 := by
  unfold baseI
  split
  · rename_i h; unfold baseOk at h; have := of_decide_eq_true h; omega
  · omega
theorem room_iff {d : FDev} {n : Int} : roomB d n = true ↔ d.gt % 32 = 0 ∧ d.gt + n ≤ 288 ∧ d.nx < 16 := by
  unfold roomB
  simp only [Bool.and_eq_true, decide_eq_true_iff]
  exact ⟨fun ⟨⟨a, b⟩, c⟩ => ⟨a, b, c⟩, fun ⟨a, b, c⟩ => ⟨⟨a, b⟩, c⟩⟩
theorem words_few (a : Int) (t : ByteArray) (h : t.size ≤ 32) : (wordsL a t).length ≤ 8 := by
  unfold wordsL
  split
  · rw [length_wordsTo]; unfold wordsN; omega
  · exact Nat.zero_le _
theorem er_three (f : ByteArray) : (erL (othI f)).length = 3 := by
  obtain ⟨h0, h1⟩ := oth_01 f
  rw [erL_ok (base_of h0 h1).1, length_erTo]
theorem start_ok {s : Int} {t : ByteArray} (h0 : 0 ≤ s) (h1 : s ≤ 1) (ht : t.size ≤ 32) : wordsOk (baseI s) t = true := by
  rw [wordsOk_parts, (base_of h0 h1).2]
  omega
theorem more_ok {s g : Int} {t : ByteArray} (h0 : 0 ≤ s) (h1 : s ≤ 1) (h2 : 0 ≤ g) (h3 : g % 32 = 0) (h4 : g + t.size ≤ 288) : wordsOk (baseI s + g) t = true := by
  rw [wordsOk_parts, (base_of h0 h1).2]
  omega
end Go.Proofs.Ythpoefaipmcceaa.Dnl
