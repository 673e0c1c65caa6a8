/- The contracts of strings.Clone and of what it calls: a text's own bytes come back, whatever the text under a bound; of what was there nothing has turned. -/
import Derived.Test.YtlmndigldifaoaaEntLow
import Derived.Lib.BufferWrite
import Derived.Lib.UnsafeStr
namespace Go.Proofs.Ytlmndigldifaoaa.ImgClone
open Go.Proofs.Ytlmndigldifaoaa Go.RowKit Go.Proofs.Ytlmndigldifaoaa.Bytes Go.Proofs.Ytlmndigldifaoaa.NorWalk Go.Proofs.Ytlmndigldifaoaa.EntRow Go.Proofs.Ytlmndigldifaoaa.EntLow

theorem cells_u8 : Try.prog.cellsOf 5 = 1 := by kernel_rfl
theorem one_u8 : (Try.prog.info? 5).map (·.size) = some 1 := by kernel_rfl
theorem size_made (n : Nat) : (madeBytes n).size = n := by
  unfold madeBytes
  rw [size_madeCells, Nat.mul_one]
end Go.Proofs.Ytlmndigldifaoaa.ImgClone
