/- The document's own making of bytes that came back, and of any reply; of what was there nothing has turned. -/
import Derived.Test.YtgkmallikomnaabRepRefs
import Derived.Deep.RegionHeld3
namespace Go.Proofs.Ytgkmallikomnaab.RepRead
open Go.Proofs.Ytgkmallikomnaab Go.RowKit Go.Proofs.Ytgkmallikomnaab.Bytes Go.Proofs.Ytgkmallikomnaab.NorWalk Go.Proofs.Ytgkmallikomnaab.Hst Go.Proofs.Ytgkmallikomnaab.HstWalk Go.Proofs.Ytgkmallikomnaab.HstAsk Go.Proofs.Ytgkmallikomnaab.HstRef Go.Proofs.Ytgkmallikomnaab.Rep Go.Proofs.Ytgkmallikomnaab.RepRef Go.Proofs.Ytgkmallikomnaab.RepRefs Go.Proofs.Ytgkmallikomnaab.Take
open Go.Proofs.Ytgkmallikomnaab.HstHost (set7)
open Go.Proofs.Ytgkmallikomnaab.EntRow (text_ne)
open Go.Proofs.Ytgkmallikomnaab.SufWalk (text_eq)
open Go.Proofs.Ytgkmallikomnaab.Blo (nP)
open List (setIfInBounds_toArray set_cons_zero set_cons_succ)
attribute [local go_sem ↓] Go.wp_at_zero Go.wp_at_succ
end Go.Proofs.Ytgkmallikomnaab.RepRead
