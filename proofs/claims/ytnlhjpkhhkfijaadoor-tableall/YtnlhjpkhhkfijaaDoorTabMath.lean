/- What may be asked when, on plain numbers: which requests hang on the state, and which are always allowed. -/
import Derived.Test.YtnlhjpkhhkfijaaDoorAnsMath
import Derived.Test.YtnlhjpkhhkfijaaDoorSetMath
namespace Go.Proofs.YtnlhjpkhhkfijaaDoor.Tab

/-- The table's rows: a state and a request. -/
def tabL : List (Int × Int) := [(0, 1), (3, 1), (0, 2), (6, 2), (7, 4), (0, 6), (3, 6), (6, 6)]
/-- Is it one of the table's first rows? -/
def inTo (s c : Int) (n : Nat) : Bool := (tabL.take n).any fun x => x.1 == s && x.2 == c
def liB (s c : Int) : Bool := inTo s c 8
def alB (c : Int) : Bool := decide (c = 3 ∨ c = 5)
/-- Are both numbers what they should be? -/
def tokB (s c : Int) : Bool := decide ((0 ≤ s ∧ s ≤ 7) ∧ 0 ≤ c ∧ c ≤ 6)
/-- May it be asked? -/
def tabB (s c : Int) : Bool := tokB s c && (alB c || liB s c)
def errT (b : Bool) : Int := if b then 0 else 1500
theorem errT_t : errT true = 0 := rfl
theorem errT_f : errT false = 1500 := rfl
theorem tok_parts {s c : Int} : tokB s c = true ↔ (0 ≤ s ∧ s ≤ 7) ∧ 0 ≤ c ∧ c ≤ 6 := by unfold tokB; exact decide_eq_true_iff
theorem tok_no {s c : Int} (h : ¬ ((0 ≤ s ∧ s ≤ 7) ∧ 0 ≤ c ∧ c ≤ 6)) : tokB s c = false := decide_eq_false h
theorem tab_no {s c : Int} (h : tokB s c = false) : tabB s c = false := by unfold tabB; rw [h]; rfl
theorem inTo_zero (s c : Int) : inTo s c 0 = false := rfl
theorem inTo_succ {s c : Int} {n : Nat} {a b : Int} (h : tabL[n]? = some (a, b)) : inTo s c (n + 1) = (inTo s c n || (a == s && b == c)) := by
  unfold inTo
  rw [List.take_add_one, h, List.any_append]
  simp
/-- A row that is met early is met. -/
theorem inTo_mono {s c : Int} {n : Nat} (h : inTo s c n = true) : liB s c = true := by
  unfold inTo at h
  unfold liB inTo
  rw [List.any_eq_true] at h ⊢
  obtain ⟨x, hx, hp⟩ := h
  refine ⟨x, ?_, hp⟩
  rw [List.take_of_length_le (show tabL.length ≤ 8 from Nat.le_refl 8)]
  exact List.mem_of_mem_take hx
/-- The eight states, the seven requests. -/
theorem states {s : Int} (h1 : 0 ≤ s) (h2 : s ≤ 7) : s = 0 ∨ s = 1 ∨ s = 2 ∨ s = 3 ∨ s = 4 ∨ s = 5 ∨ s = 6 ∨ s = 7 := by omega
theorem codes {c : Int} (h1 : 0 ≤ c) (h2 : c ≤ 6) : c = 0 ∨ c = 1 ∨ c = 2 ∨ c = 3 ∨ c = 4 ∨ c = 5 ∨ c = 6 := by omega
end Go.Proofs.YtnlhjpkhhkfijaaDoor.Tab
