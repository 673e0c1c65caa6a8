/- The document's own answer to any reply: the host that the plain functions give; of what was there nothing has turned. -/
import Derived.Test.YtgkmallikomnaabRepRead
namespace Go.Proofs.Ytgkmallikomnaab.RepTake
open Go.Proofs.Ytgkmallikomnaab Go.RowKit Go.Proofs.Ytgkmallikomnaab.Bytes Go.Proofs.Ytgkmallikomnaab.NorWalk Go.Proofs.Ytgkmallikomnaab.Hst Go.Proofs.Ytgkmallikomnaab.HstWalk Go.Proofs.Ytgkmallikomnaab.HstAsk Go.Proofs.Ytgkmallikomnaab.HstRef Go.Proofs.Ytgkmallikomnaab.Rep Go.Proofs.Ytgkmallikomnaab.RepRef Go.Proofs.Ytgkmallikomnaab.RepRefs Go.Proofs.Ytgkmallikomnaab.RepRead
open Go.Proofs.Ytgkmallikomnaab.HstHost (set7)
open Go.Proofs.Ytgkmallikomnaab.OpsRow (boxM boxB)
attribute [local go_sem ↓] Go.wp_at_zero Go.wp_at_succ
/-- A host and an error given. -/
def Taken (w : World) (x : FHost) (k : Int) (e : Ending) (w' : World) : Prop := e = .returned (.tuple #[.agg #[.int .i64 x.ph, .string x.im, .int .i64 x.bl, .bool x.ag, .int .i64 x.tr, .string x.rd, .int .i64 x.rp], .int .i64 k]) ∧ Below w.heap.size w w'
/-- The boxes at the beginning: a host, a reply, the host that is given. -/
theorem take_boxes (w : World) (x0 x1 x2 x3 x4 x5 x6 r0 r1 r2 : Value) : ∃ W, ((w.alloc (.cells #[x0, x1, x2, x3, x4, x5, x6] 24)).alloc (.cells #[r0, r1, r2] 31)).alloc (.cells #[.int .i64 0, .string ⟨#[]⟩, .int .i64 0, .bool false, .int .i64 0, .string ⟨#[]⟩, .int .i64 0] 24) = W ∧ Sev W w.heap.size x0 x1 x2 x3 x4 x5 x6 ∧ (w.heap.size + 1 < W.heap.size ∧ W.cell? ⟨w.heap.size + 1, 0, none⟩ = some r0 ∧ W.cell? ⟨w.heap.size + 1, 1, none⟩ = some r1 ∧ W.cell? ⟨w.heap.size + 1, 2, none⟩ = some r2) ∧ SevR W (w.heap.size + 1 + 1) (.int .i64 0) (.string ⟨#[]⟩) (.int .i64 0) (.bool false) (.int .i64 0) (.string ⟨#[]⟩) (.int .i64 0) ∧ Below w.heap.size w W := by
  refine ⟨_, rfl, ?_⟩
  have h1 := sevM w x0 x1 x2 x3 x4 x5 x6 24
  have n1 := hal w (.cells #[x0, x1, x2, x3, x4, x5, x6] 24)
  have s1 : (w.alloc (.cells #[x0, x1, x2, x3, x4, x5, x6] 24)).heap.size = w.heap.size + 1 := by simp
  generalize w.alloc (.cells #[x0, x1, x2, x3, x4, x5, x6] 24) = W1 at *
  have h2 := boxM W1 r0 r1 r2 31
  have n2 := hal W1 (.cells #[r0, r1, r2] 31)
  have s2 : (W1.alloc (.cells #[r0, r1, r2] 31)).heap.size = w.heap.size + 1 + 1 := by rw [← s1]; simp
  rw [s1] at h2
  generalize W1.alloc (.cells #[r0, r1, r2] 31) = W2 at *
  have h3 := sevRM W2 (.int .i64 0) (.string ⟨#[]⟩) (.int .i64 0) (.bool false) (.int .i64 0) (.string ⟨#[]⟩) (.int .i64 0) 24
  have n3 := hal W2 (.cells #[.int .i64 0, .string ⟨#[]⟩, .int .i64 0, .bool false, .int .i64 0, .string ⟨#[]⟩, .int .i64 0] 24)
  rw [s2] at h3
  exact ⟨sevB (sevB h1 n2) n3, boxB h2 n3, h3, thenB (thenB n1 n2) n3⟩
end Go.Proofs.Ytgkmallikomnaab.RepTake
