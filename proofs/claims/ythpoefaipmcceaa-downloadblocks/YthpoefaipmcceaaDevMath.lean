/- Devices: which may be, what becomes of one that fails. No program is named here. -/
import Derived.Test.YthpoefaipmcceaaOpsMath
import Derived.Test.YthpoefaipmcceaaAnsMath
namespace Go.Proofs.Ythpoefaipmcceaa.Dev
open Go.Proofs.Ythpoefaipmcceaa Go.Proofs.Ythpoefaipmcceaa.Ops Go.Proofs.Ythpoefaipmcceaa.Ans

/-- A device: its numbers, its steps. -/
structure FDev where
  sa : Int
  su : Int
  nx : Int
  gt : Int
  sl : Int
  ops : List FOp

/-- May each of the first n steps be? -/
def mayTo (l : List FOp) (n : Nat) : Bool := (l.take n).all fun o => opMay o.er o.pl o.tx
def mayAll (l : List FOp) : Bool := l.all fun o => opMay o.er o.pl o.tx
theorem mayTo_zero (l : List FOp) : mayTo l 0 = true := rfl
theorem mayTo_succ {l : List FOp} {n : Nat} (h : n < l.length) : mayTo l (n + 1) = (mayTo l n && opMay l[n].er l[n].pl l[n].tx) := by
  unfold mayTo
  rw [List.take_succ_eq_append_getElem h, List.all_append]
  simp
theorem mayTo_all (l : List FOp) : mayTo l l.length = mayAll l := by unfold mayTo mayAll; rw [List.take_length]
theorem mayAll_bad {l : List FOp} {n : Nat} (h : n < l.length) (hb : opMay l[n].er l[n].pl l[n].tx = false) : mayAll l = false := by
  unfold mayAll
  rw [List.all_eq_false]
  exact ⟨l[n], List.getElem_mem h, by rw [hb]; simp⟩
theorem mayAll_get {l : List FOp} (h : mayAll l = true) {n : Nat} (hn : n < l.length) : opMay l[n].er l[n].pl l[n].tx = true := by
  unfold mayAll at h
  exact List.all_eq_true.1 h _ (List.getElem_mem hn)

def upB (x k : Int) : Bool := decide (0 ≤ x ∧ x ≤ k)
/-- May these be a device's steps? -/
def stepsB (l : List FOp) : Bool := decide (l.length ≤ 768) && mayAll l
theorem stepsB_long {l : List FOp} (h : ¬ l.length ≤ 768) : stepsB l = false := by unfold stepsB; rw [decide_eq_false h]; rfl
theorem stepsB_short {l : List FOp} (h : l.length ≤ 768) : stepsB l = mayAll l := by unfold stepsB; rw [decide_eq_true h]; rfl
theorem stepsB_nil : stepsB [] = true := rfl
def devB (d : FDev) : Bool := saB d.sa && stB d.su && upB d.nx 16 && upB d.gt 288 && upB d.sl 1 && stepsB d.ops
/-- A status that a device may fail with. -/
def flB (s : Int) : Bool := decide (1 ≤ s ∧ s ≤ 6)
theorem flB_parts {s : Int} : flB s = true ↔ 1 ≤ s ∧ s ≤ 6 := by unfold flB; exact decide_eq_true_iff
def failB (d : FDev) (s : Int) : Bool := devB d && flB s
def errD (ok : Bool) : Int := if ok then 0 else 1600
/-- The state, the status of what comes of it: nothing where it is refused. -/
def faSa (ok : Bool) : Int := if ok then 7 else 0
def faSu (ok : Bool) (s : Int) : Int := if ok then s else 0
def newD : FDev := ⟨0, 0, 0, 0, 0, []⟩
def failD (d : FDev) (s : Int) : FDev := ⟨faSa (failB d s), faSu (failB d s) s, 0, 0, 0, []⟩
theorem new_may : devB newD = true := rfl
theorem failed_may {s : Int} (h : flB s = true) : devB ⟨7, s, 0, 0, 0, []⟩ = true := by
  obtain ⟨h1, h2⟩ := flB_parts.1 h
  have : stB s = true := by unfold stB; exact decide_eq_true (by omega)
  unfold devB
  simp only [this]
  rfl
end Go.Proofs.Ythpoefaipmcceaa.Dev
