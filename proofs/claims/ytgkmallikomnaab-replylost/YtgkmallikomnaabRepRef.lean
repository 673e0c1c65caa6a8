/- The document's own makings of a reply, way by way: the host that the plain functions give; of what was there nothing has turned. -/
import Derived.Test.YtgkmallikomnaabRepMath
import Derived.Test.YtgkmallikomnaabBagHsr
import Derived.Test.YtgkmallikomnaabBagHst
import Derived.Test.YtgkmallikomnaabBagAnr
namespace Go.Proofs.Ytgkmallikomnaab.RepRef
open Go.Proofs.Ytgkmallikomnaab Go.RowKit Go.Proofs.Ytgkmallikomnaab.Bytes Go.Proofs.Ytgkmallikomnaab.NorWalk Go.Proofs.Ytgkmallikomnaab.Hst Go.Proofs.Ytgkmallikomnaab.HstWalk Go.Proofs.Ytgkmallikomnaab.HstAsk Go.Proofs.Ytgkmallikomnaab.HstRef Go.Proofs.Ytgkmallikomnaab.Rep
open Go.Proofs.Ytgkmallikomnaab.HstHost (set7)
open Go.Proofs.Ytgkmallikomnaab.OpsRow (boxM boxB boxD thenD)
open Go.Proofs.Ytgkmallikomnaab.Blo (nP)
open Go.Proofs.Ytgkmallikomnaab.Ans (isAns aSt aTi aSa)
attribute [local go_sem ↓] Go.wp_at_zero Go.wp_at_succ
theorem build_over (s : ByteArray) (w : World) : (Instr.build 24 #[(0, .int .i64 7), (6, .int .i64 2), (4, .int .i64 8), (1, .string s)]).run Try.prog w = .ok (.agg #[.int .i64 7, .string s, .int .i64 0, .bool false, .int .i64 8, .string ⟨#[]⟩, .int .i64 2]) w := run_build w 24 _ _ (by kernel_rfl)
theorem build_good (x : Int) (s : ByteArray) (g : Bool) (w : World) : (Instr.build 24 #[(0, .int .i64 7), (6, .int .i64 1), (4, .int .i64 x), (1, .string s), (3, .bool g)]).run Try.prog w = .ok (.agg #[.int .i64 7, .string s, .int .i64 0, .bool g, .int .i64 x, .string ⟨#[]⟩, .int .i64 1]) w := run_build w 24 _ _ (by kernel_rfl)
/-- A host given. -/
def HostR (w : World) (x : FHost) (e : Ending) (w' : World) : Prop := e = .returned (.agg #[.int .i64 x.ph, .string x.im, .int .i64 x.bl, .bool x.ag, .int .i64 x.tr, .string x.rd, .int .i64 x.rp]) ∧ Below w.heap.size w w'
/-- The boxes at such a one's beginning: the host, the host that is given. -/
theorem host_boxes (w : World) (x0 x1 x2 x3 x4 x5 x6 : Value) : ∃ W, (w.alloc (.cells #[x0, x1, x2, x3, x4, x5, x6] 24)).alloc (.cells #[.int .i64 0, .string ⟨#[]⟩, .int .i64 0, .bool false, .int .i64 0, .string ⟨#[]⟩, .int .i64 0] 24) = W ∧ SevR W w.heap.size x0 x1 x2 x3 x4 x5 x6 ∧ SevR W (w.heap.size + 1) (.int .i64 0) (.string ⟨#[]⟩) (.int .i64 0) (.bool false) (.int .i64 0) (.string ⟨#[]⟩) (.int .i64 0) ∧ Below w.heap.size w W := by
  refine ⟨_, rfl, ?_⟩
  have h1 := sevRM w x0 x1 x2 x3 x4 x5 x6 24
  have n1 := hal w (.cells #[x0, x1, x2, x3, x4, x5, x6] 24)
  have s1 : (w.alloc (.cells #[x0, x1, x2, x3, x4, x5, x6] 24)).heap.size = w.heap.size + 1 := by simp
  generalize w.alloc (.cells #[x0, x1, x2, x3, x4, x5, x6] 24) = W1 at *
  have h2 := sevRM W1 (.int .i64 0) (.string ⟨#[]⟩) (.int .i64 0) (.bool false) (.int .i64 0) (.string ⟨#[]⟩) (.int .i64 0) 24
  have n2 := hal W1 (.cells #[.int .i64 0, .string ⟨#[]⟩, .int .i64 0, .bool false, .int .i64 0, .string ⟨#[]⟩, .int .i64 0] 24)
  rw [s1] at h2
  exact ⟨sevRB h1 n2, h2, thenB n1 n2⟩
/-- One thing more went wrong: the host; does it go on? -/
def WrongR (w : World) (x : FHost) (g : Bool) (e : Ending) (w' : World) : Prop := e = .returned (.tuple #[.agg #[.int .i64 x.ph, .string x.im, .int .i64 x.bl, .bool x.ag, .int .i64 x.tr, .string x.rd, .int .i64 x.rp], .bool g]) ∧ Below w.heap.size w w'
end Go.Proofs.Ytgkmallikomnaab.RepRef
