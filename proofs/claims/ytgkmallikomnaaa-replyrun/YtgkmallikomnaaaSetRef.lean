/- The contracts of the document's own answers to package setup: they return what the same plain functions give. -/
import Derived.Test.YtgkmallikomnaaaBagSet
import Derived.Test.YtgkmallikomnaaaEntRef
namespace Go.Proofs.Ytgkmallikomnaaa.SetRef
open Go.Proofs.Ytgkmallikomnaaa Go.RowKit Go.Proofs.Ytgkmallikomnaaa.Bytes Go.Proofs.Ytgkmallikomnaaa.NorWalk Go.Proofs.Ytgkmallikomnaaa.NorRef Go.Proofs.Ytgkmallikomnaaa.Ent Go.Proofs.Ytgkmallikomnaaa.EntLow Go.Proofs.Ytgkmallikomnaaa.Sup Go.Proofs.Ytgkmallikomnaaa.SetWalk
open Go.Proofs.Ytgkmallikomnaaa.EntRow (text_ne size_alloc1)
open Go.Proofs.Ytgkmallikomnaaa.EntWalk (lowT size_lowT list_lowT numS ext_le)
open Go.Proofs.Ytgkmallikomnaaa.EntRef (refLowT_any)
open Go.Proofs.Ytgkmallikomnaaa.EntRef (num_of)
open Go.Proofs.Ytgkmallikomnaaa.OpsRow (boxM boxB boxD thenD)
attribute [local go_sem ↓] Go.wp_at_zero Go.wp_at_succ

theorem supB_up (c v n : Int) : supB c v n = (upToB c 0 6 && (upToB v 0 65535 && upToB n 0 32)) := by
  unfold supB upToB
  rw [Bool.eq_iff_iff]
  simp
  omega
theorem num_one (s : ByteArray) (h : 1 < s.size) : (s[1].toNat : Int) = numS (s.extract 1 2) := by
  unfold numS
  rw [list_extract]
  have hl : 1 < s.data.toList.length := by rw [Nor.size_list]; exact h
  have e1 : s.data.toList[1] = s[1] := by rw [Array.getElem_toList]; rfl
  rw [List.drop_eq_getElem_cons hl, e1]
  show _ = (((s[1].toNat + 256 * 0 : Nat)) : Int)
  omega
end Go.Proofs.Ytgkmallikomnaaa.SetRef
