/- A struct of seven cells that is stored whole. No program is named here. -/
import Derived.Test.YtgkmallikomnaaaBagHst
namespace Go.Proofs.Ytgkmallikomnaaa.RepSet
open Go.Proofs.Ytgkmallikomnaaa Go.RowKit Go.Proofs.Ytgkmallikomnaaa.Bytes Go.Proofs.Ytgkmallikomnaaa.HstWalk Go.Proofs.Ytgkmallikomnaaa.HstSet
/-- All seven stored; of another block. -/
theorem setAll {w : World} {B : Nat} {x0 x1 x2 x3 x4 x5 x6 : Value} (h : SevR w B x0 x1 x2 x3 x4 x5 x6) (y0 y1 y2 y3 y4 y5 y6 : Value) : SevR (((((((w.setCell ⟨B, 0, none⟩ y0).setCell ⟨B, 1, none⟩ y1).setCell ⟨B, 2, none⟩ y2).setCell ⟨B, 3, none⟩ y3).setCell ⟨B, 4, none⟩ y4).setCell ⟨B, 5, none⟩ y5).setCell ⟨B, 6, none⟩ y6) B y0 y1 y2 y3 y4 y5 y6 := set6 (set5 (set4 (set3 (set2 (set1 (set0 h y0) y1) y2) y3) y4) y5) y6
theorem setO7 {w : World} {B : Nat} {x0 x1 x2 x3 x4 x5 x6 : Value} (h : SevR w B x0 x1 x2 x3 x4 x5 x6) {A : Nat} (hA : A ≠ B) (y0 y1 y2 y3 y4 y5 y6 : Value) : SevR (((((((w.setCell ⟨A, 0, none⟩ y0).setCell ⟨A, 1, none⟩ y1).setCell ⟨A, 2, none⟩ y2).setCell ⟨A, 3, none⟩ y3).setCell ⟨A, 4, none⟩ y4).setCell ⟨A, 5, none⟩ y5).setCell ⟨A, 6, none⟩ y6) B x0 x1 x2 x3 x4 x5 x6 := setO (setO (setO (setO (setO (setO (setO h hA 0 y0) hA 1 y1) hA 2 y2) hA 3 y3) hA 4 y4) hA 5 y5) hA 6 y6
end Go.Proofs.Ytgkmallikomnaaa.RepSet
