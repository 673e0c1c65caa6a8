/- The contract of ops.Words: a text in words, each a step, in a row of steps that the call has made. -/
import Derived.Test.YtebbficaolommaaOpsWalk
namespace Go.Proofs.Ytebbficaolommaa.OpsWords
open Go.Proofs.Ytebbficaolommaa Go.RowKit Go.Proofs.Ytebbficaolommaa.Bytes Go.Proofs.Ytebbficaolommaa.NorWalk Go.Proofs.Ytebbficaolommaa.Ops Go.Proofs.Ytebbficaolommaa.OpsRow Go.Proofs.Ytebbficaolommaa.OpsWalk

theorem wordsOk_f {a : Int} {t : ByteArray} (h : wordsOk a t = false) : begB a 4 = false ∧ ¬ a = 768 ∨ (0 ≤ a ∧ a ≤ 768 ∧ (begB a 4 = true ∨ begB a 4 = false ∧ a = 768) ∧ (768 : Int) - a < (t.size : Int)) := by
  unfold wordsOk at h
  have h' := of_decide_eq_false h
  unfold begB
  by_cases h1 : 0 ≤ a ∧ a < 768 ∧ a % 4 = 0
  · rw [decide_eq_true h1]
    exact .inr ⟨by omega, by omega, .inl rfl, by omega⟩
  · rw [decide_eq_false h1]
    by_cases h2 : a = 768
    · exact .inr ⟨by omega, by omega, .inr ⟨rfl, h2⟩, by omega⟩
    · exact .inl ⟨rfl, h2⟩
end Go.Proofs.Ytebbficaolommaa.OpsWords
