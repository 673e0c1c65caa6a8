/- Whom a file is for: which numbers may be, and whether one's are the other's, on numbers. No program is named here. -/
import Derived.Test.YtlffkljnoebciaaSufMath
namespace Go.Proofs.Ytlffkljnoebciaa.Idt
open Go.Proofs.Ytlffkljnoebciaa Go.Proofs.Ytlffkljnoebciaa.Suf

/-- One number that is wanted, and one that is. -/
def fitB (a b : Int) : Bool := decide (a = b) || decide (a = 65535)
def fitsB (v p r v' p' r' : Int) : Bool := fitB v v' && (fitB p p' && fitB r r')
def mtOk (v p r v' p' r' : Int) : Bool := idsB v p r && idsB v' p' r'
def errM (ok : Bool) : Int := if ok then 0 else 1200
def mtB (v p r v' p' r' : Int) : Bool := mtOk v p r v' p' r' && fitsB v p r v' p' r'
theorem fitB_same (a : Int) : fitB a a = true := by unfold fitB; simp
theorem fitB_max (b : Int) : fitB 65535 b = true := by unfold fitB; simp
theorem fitB_iff {a b : Int} : fitB a b = true ↔ a = b ∨ a = 65535 := by unfold fitB; rw [Bool.or_eq_true, decide_eq_true_iff, decide_eq_true_iff]
theorem fitsB_iff {v p r v' p' r' : Int} : fitsB v p r v' p' r' = true ↔ (v = v' ∨ v = 65535) ∧ (p = p' ∨ p = 65535) ∧ (r = r' ∨ r = 65535) := by
  unfold fitsB
  rw [Bool.and_eq_true, Bool.and_eq_true, fitB_iff, fitB_iff, fitB_iff]
theorem mtOk_parts {v p r v' p' r' : Int} : mtOk v p r v' p' r' = true ↔ idsB v p r = true ∧ idsB v' p' r' = true := by unfold mtOk; rw [Bool.and_eq_true]
theorem mtOk_comm (v p r v' p' r' : Int) : mtOk v' p' r' v p r = mtOk v p r v' p' r' := by unfold mtOk; exact Bool.and_comm _ _
theorem mtB_no {v p r v' p' r' : Int} (h : mtOk v p r v' p' r' = false) : mtB v p r v' p' r' = false := by unfold mtB; rw [h]; rfl
theorem mtB_ok {v p r v' p' r' : Int} (h : mtOk v p r v' p' r' = true) : mtB v p r v' p' r' = fitsB v p r v' p' r' := by unfold mtB; rw [h]; rfl
end Go.Proofs.Ytlffkljnoebciaa.Idt
