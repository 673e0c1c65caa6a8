/- The contracts of the document's own answers to package answer: they return what the same plain functions give. -/
import Derived.Test.YthpoefaipmcceaaAnsWalk
import Derived.Test.YthpoefaipmcceaaEntRef
namespace Go.Proofs.Ythpoefaipmcceaa.AnsRef
open Go.Proofs.Ythpoefaipmcceaa Go.RowKit Go.Proofs.Ythpoefaipmcceaa.Bytes Go.Proofs.Ythpoefaipmcceaa.NorWalk Go.Proofs.Ythpoefaipmcceaa.NorRef Go.Proofs.Ythpoefaipmcceaa.Ent Go.Proofs.Ythpoefaipmcceaa.EntLow Go.Proofs.Ythpoefaipmcceaa.Ans Go.Proofs.Ythpoefaipmcceaa.AnsWalk
open Go.Proofs.Ythpoefaipmcceaa.EntRow (text_ne size_alloc1)
open Go.Proofs.Ythpoefaipmcceaa.EntWalk (lowT size_lowT list_lowT numS ext_le)
open Go.Proofs.Ythpoefaipmcceaa.EntRef (refLowT_any num_of)
open Go.Proofs.Ythpoefaipmcceaa.OpsRow (boxM boxB boxD thenD)
attribute [local go_sem ↓] Go.wp_at_zero Go.wp_at_succ

theorem stUp (c : Int) : stB c = upToB c 0 6 := rfl
theorem saUp (c : Int) : saB c = upToB c 0 7 := rfl
theorem ansB_up (c v n : Int) : ansB c v n = (stB c && (saB n && upToB v 0 255)) := by
  unfold ansB stB saB upToB
  rw [Bool.eq_iff_iff]
  simp
  omega
theorem refStatus_any (n : Int) (w : World) : Calls Try.prog 65 #[.int .i64 n] w fun e w' => e = .returned (.bool (stB n)) ∧ w' = w := by
  rw [stUp]
  go_enter Try.func65, Try.ntmps65
  go_wp2_with (go_at_call 36; refine (upTo_any _ _ _ _).mono ?_; rintro e w' ⟨rfl, rfl⟩)
  go_ret
  exact ⟨rfl, rfl⟩
theorem refState_any (n : Int) (w : World) : Calls Try.prog 64 #[.int .i64 n] w fun e w' => e = .returned (.bool (saB n)) ∧ w' = w := by
  rw [saUp]
  go_enter Try.func64, Try.ntmps64
  go_wp2_with (go_at_call 36; refine (upTo_any _ _ _ _).mono ?_; rintro e w' ⟨rfl, rfl⟩)
  go_ret
  exact ⟨rfl, rfl⟩
theorem num_at (s : ByteArray) (i : Nat) (h : i < s.size) : (s[i].toNat : Int) = numS (s.extract i (i + 1)) := by
  unfold numS
  rw [list_extract]
  have hl : i < s.data.toList.length := by rw [Nor.size_list]; exact h
  have e1 : s.data.toList[i] = s[i] := by rw [Array.getElem_toList]; rfl
  rw [List.drop_eq_getElem_cons hl, e1, Nat.add_sub_cancel_left]
  show _ = (((s[i].toNat + 256 * 0 : Nat)) : Int)
  omega
end Go.Proofs.Ythpoefaipmcceaa.AnsRef
