/- A tick: which may be asked, what becomes of the flash and of the device; the same cut short. No program is named here. -/
import Derived.Test.YthdnpgkoanfijaaBagDnl
namespace Go.Proofs.Ythdnpgkoanfijaa.Tic
open Go.Proofs.Ythdnpgkoanfijaa Go.Proofs.Ythdnpgkoanfijaa.Nor Go.Proofs.Ythdnpgkoanfijaa.Ops Go.Proofs.Ythdnpgkoanfijaa.Jou Go.Proofs.Ythdnpgkoanfijaa.Act Go.Proofs.Ythdnpgkoanfijaa.Ans Go.Proofs.Ythdnpgkoanfijaa.Dev Go.Proofs.Ythdnpgkoanfijaa.Dnl

/-- Does a device in this state work on its steps? -/
def workB (s : Int) : Bool := decide (s = 2 ∨ s = 5)
def bothB (f : ByteArray) (d : FDev) : Bool := mayF f && devB d
def errK (ok : Bool) : Int := if ok then 0 else 1800
/-- The flash behind so many parts of the step that is due, if one is. -/
def stepF (f : ByteArray) (d : FDev) (k : Int) : ByteArray := if workB d.sa then (match d.ops with | [] => f | o :: _ => cutS f o.er o.pl o.tx k) else f
/-- The device without the step that is due; out of the state in which it worked, if no step is left. -/
def goneD (d : FDev) : FDev := if workB d.sa then ⟨d.sa, d.su, d.nx, d.gt, d.sl, d.ops.tail⟩ else d
def setD (d : FDev) : FDev := if workB d.sa && decide (d.ops.length = 0) then (if d.sa = 5 then newD else ⟨1, d.su, d.nx, d.gt, d.sl, d.ops⟩) else d
def tickF (f : ByteArray) (d : FDev) : ByteArray := if bothB f d then stepF f d 96 else ⟨#[]⟩
def tickD (f : ByteArray) (d : FDev) : FDev := if bothB f d then setD (goneD d) else newD
def cutB (f : ByteArray) (d : FDev) (k : Int) : Bool := bothB f d && upB k 96
def cutF (f : ByteArray) (d : FDev) (k : Int) : ByteArray := if cutB f d k then stepF f d k else ⟨#[]⟩
theorem work_iff {s : Int} : workB s = true ↔ s = 2 ∨ s = 5 := by unfold workB; exact decide_eq_true_iff
theorem work_no {s : Int} : workB s = false ↔ ¬ (s = 2 ∨ s = 5) := by unfold workB; exact decide_eq_false_iff_not
theorem both_parts {f : ByteArray} {d : FDev} : bothB f d = true ↔ mayF f = true ∧ devB d = true := by unfold bothB; rw [Bool.and_eq_true]
theorem cut_parts {f : ByteArray} {d : FDev} {k : Int} : cutB f d k = true ↔ mayF f = true ∧ devB d = true ∧ 0 ≤ k ∧ k ≤ 96 := by
  unfold cutB
  rw [Bool.and_eq_true, both_parts, upB_iff, and_assoc]
/-- Is a step due? -/
def dueB (d : FDev) : Bool := workB d.sa && !decide (d.ops.length = 0)
theorem due_no {d : FDev} (h : dueB d = false) : workB d.sa = false ∨ (workB d.sa = true ∧ d.ops = []) := by
  unfold dueB at h
  cases hw : workB d.sa with
  | false => exact .inl rfl
  | true =>
    rw [hw, Bool.true_and] at h
    refine .inr ⟨rfl, ?_⟩
    simpa using h
theorem due_yes {d : FDev} (h : dueB d = true) : workB d.sa = true ∧ ∃ o l, d.ops = o :: l := by
  unfold dueB at h
  rw [Bool.and_eq_true] at h
  refine ⟨h.1, ?_⟩
  cases ho : d.ops with
  | nil => rw [ho] at h; exact absurd h.2 (by simp)
  | cons o l => exact ⟨o, l, rfl⟩
theorem idle_step {f : ByteArray} {d : FDev} {k : Int} (h : dueB d = false) : stepF f d k = f := by
  unfold stepF
  rcases due_no h with h | ⟨h, h2⟩
  · rw [h]; rfl
  · rw [h, if_pos rfl, h2]
theorem idle_gone {d : FDev} (h : dueB d = false) : goneD d = d := by
  obtain ⟨sa, su, nx, gt, sl, l⟩ := d
  unfold goneD
  rcases due_no h with h | ⟨h, h2⟩
  · rw [h]; rfl
  · dsimp only at h h2 ⊢
    rw [if_pos h, h2]
    rfl
theorem due_step {f : ByteArray} {d : FDev} {k : Int} {o : FOp} {l : List FOp} (h : workB d.sa = true) (hl : d.ops = o :: l) : stepF f d k = cutS f o.er o.pl o.tx k := by unfold stepF; rw [if_pos h, hl]
theorem due_gone {d : FDev} {o : FOp} {l : List FOp} (h : workB d.sa = true) (hl : d.ops = o :: l) : goneD d = ⟨d.sa, d.su, d.nx, d.gt, d.sl, l⟩ := by unfold goneD; rw [if_pos h, hl]; rfl
theorem set_keeps {d : FDev} (h : workB d.sa = false ∨ 0 < d.ops.length) : setD d = d := by
  unfold setD
  rcases h with h | h
  · rw [h]; rfl
  · rw [decide_eq_false (by omega), Bool.and_false]; rfl
theorem set_mani {d : FDev} (h : d.sa = 5) (h2 : d.ops = []) : setD d = newD := by
  unfold setD
  rw [if_pos (by rw [h, h2]; rfl), if_pos h]
theorem set_busy {d : FDev} (h : d.sa = 2) (h2 : d.ops = []) : setD d = ⟨1, d.su, d.nx, d.gt, d.sl, d.ops⟩ := by
  unfold setD
  rw [if_pos (by rw [h, h2]; rfl), if_neg (by omega)]
/-- The three ways out of a tick. -/
theorem set_ways (d : FDev) : ((workB d.sa = false ∨ 0 < d.ops.length) ∧ setD d = d) ∨ (d.sa = 5 ∧ d.ops = [] ∧ setD d = newD) ∨ (d.sa = 2 ∧ d.ops = [] ∧ setD d = ⟨1, d.su, d.nx, d.gt, d.sl, d.ops⟩) := by
  cases hw : workB d.sa with
  | false => exact .inl ⟨.inl rfl, set_keeps (.inl hw)⟩
  | true =>
    cases ho : d.ops with
    | cons o l => exact .inl ⟨.inr (by simp), set_keeps (.inr (by rw [ho]; simp))⟩
    | nil =>
      rcases work_iff.1 hw with h | h
      · exact .inr (.inr ⟨h, rfl, by rw [set_busy h ho, ho]⟩)
      · exact .inr (.inl ⟨h, rfl, set_mani h ho⟩)
theorem few_gone (d : FDev) (h : d.ops.length ≤ 65536) : (setD (goneD d)).ops.length ≤ 65536 := by
  have hg : (goneD d).ops.length ≤ 65536 := by
    unfold goneD
    split
    · show d.ops.tail.length ≤ 65536; rw [List.length_tail]; omega
    · exact h
  rcases set_ways (goneD d) with ⟨_, h2⟩ | ⟨_, _, h2⟩ | ⟨_, _, h2⟩
  · rw [h2]; exact hg
  · rw [h2]; exact Nat.zero_le _
  · rw [h2]; exact hg
theorem tick_few (f : ByteArray) (d : FDev) : (tickD f d).ops.length ≤ 65536 := by
  unfold tickD
  split
  · rename_i h
    have := (dev_parts (both_parts.1 h).2).2.2.2
    exact few_gone d (by omega)
  · exact Nat.zero_le _
end Go.Proofs.Ythdnpgkoanfijaa.Tic
