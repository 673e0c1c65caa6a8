/- The document's own makings of a reply's text: the host that the plain functions give; of what was there nothing has turned. -/
import Derived.Test.YtgkmallikomnaabRepRef
namespace Go.Proofs.Ytgkmallikomnaab.RepRefs
open Go.Proofs.Ytgkmallikomnaab Go.RowKit Go.Proofs.Ytgkmallikomnaab.Bytes Go.Proofs.Ytgkmallikomnaab.NorWalk Go.Proofs.Ytgkmallikomnaab.Hst Go.Proofs.Ytgkmallikomnaab.HstWalk Go.Proofs.Ytgkmallikomnaab.HstAsk Go.Proofs.Ytgkmallikomnaab.HstRef Go.Proofs.Ytgkmallikomnaab.Rep Go.Proofs.Ytgkmallikomnaab.RepRef
open Go.Proofs.Ytgkmallikomnaab.HstHost (set7)
open Go.Proofs.Ytgkmallikomnaab.EntRow (text_ne)
open Go.Proofs.Ytgkmallikomnaab.Blo (nP)
open Go.Proofs.Ytgkmallikomnaab.Ans (isAns aSt aTi aSa errW)
attribute [local go_sem ↓] Go.wp_at_zero Go.wp_at_succ
theorem not_bang {s : ByteArray} (h : ¬ s = bangS) : (s.toList == [33]) = false := by
  rw [beq_eq_false_iff_ne, ByteArray.toList_eq]
  exact fun e => h (ba_ext e)
end Go.Proofs.Ytgkmallikomnaab.RepRefs
