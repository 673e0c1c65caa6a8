/- The contracts of the document's own answers to package answer: they return what the same plain functions give. -/
import Derived.Test.YtgkmallikomnaabBagAns
import Derived.Test.YtgkmallikomnaabEntRef
namespace Go.Proofs.Ytgkmallikomnaab.AnsRef
open Go.Proofs.Ytgkmallikomnaab Go.RowKit Go.Proofs.Ytgkmallikomnaab.Bytes Go.Proofs.Ytgkmallikomnaab.NorWalk Go.Proofs.Ytgkmallikomnaab.NorRef Go.Proofs.Ytgkmallikomnaab.Ent Go.Proofs.Ytgkmallikomnaab.EntLow Go.Proofs.Ytgkmallikomnaab.Ans Go.Proofs.Ytgkmallikomnaab.AnsWalk
open Go.Proofs.Ytgkmallikomnaab.EntRow (text_ne size_alloc1)
open Go.Proofs.Ytgkmallikomnaab.EntWalk (lowT size_lowT list_lowT numS ext_le)
open Go.Proofs.Ytgkmallikomnaab.EntRef (refLowT_any)
open Go.Proofs.Ytgkmallikomnaab.EntRef (num_of)
open Go.Proofs.Ytgkmallikomnaab.OpsRow (boxM boxB boxD thenD)
attribute [local go_sem ↓] Go.wp_at_zero Go.wp_at_succ

theorem stUp (c : Int) : stB c = upToB c 0 6 := rfl
theorem saUp (c : Int) : saB c = upToB c 0 7 := rfl
theorem ansB_up (c v n : Int) : ansB c v n = (stB c && (saB n && upToB v 0 255)) := by
  unfold ansB stB saB upToB
  rw [Bool.eq_iff_iff]
  simp
  omega
theorem refStatus_any (n : Int) (w : World) : Calls Try.prog 30 #[.int .i64 n] w fun e w' => e = .returned (.bool (stB n)) ∧ w' = w := by
  rw [stUp]
  go_enter Try.func30, Try.ntmps30
  go_wp2_with (go_at_call 17; refine (upTo_any _ _ _ _).mono ?_; rintro e w' ⟨rfl, rfl⟩)
  go_ret
  exact ⟨rfl, rfl⟩
theorem refState_any (n : Int) (w : World) : Calls Try.prog 31 #[.int .i64 n] w fun e w' => e = .returned (.bool (saB n)) ∧ w' = w := by
  rw [saUp]
  go_enter Try.func31, Try.ntmps31
  go_wp2_with (go_at_call 17; refine (upTo_any _ _ _ _).mono ?_; rintro e w' ⟨rfl, rfl⟩)
  go_ret
  exact ⟨rfl, rfl⟩
set_option maxRecDepth 100000 in
set_option maxHeartbeats 1000000 in
theorem refMay_any (c v n : Int) (w : World) : Calls Try.prog 15 #[.agg #[.int .i64 c, .int .i64 v, .int .i64 n]] w fun e w' => e = .returned (.bool (ansB c v n)) ∧ Below w.heap.size w w' := by
  rw [ansB_up]
  have hX := boxM w (.int .i64 c) (.int .i64 v) (.int .i64 n) 37
  cases h1 : stB c <;> cases h2 : saB n <;> cases h3 : upToB v 0 255
  all_goals
    go_enter Try.func15, Try.ntmps15
    go_wp2_with (first | (go_at_call 30; refine (refStatus_any _ _).mono ?_; rintro e w' ⟨rfl, rfl⟩) | (go_at_call 31; refine (refState_any _ _).mono ?_; rintro e w' ⟨rfl, rfl⟩) | (go_at_call 17; refine (upTo_any _ _ _ _).mono ?_; rintro e w' ⟨rfl, rfl⟩))
    go_ret
    exact ⟨rfl, (Below.refl _ _).alloc (Nat.le_refl _) _⟩
set_option maxRecDepth 100000 in
set_option maxHeartbeats 1000000 in
theorem refPut_no (c v n : Int) (w : World) (h : ansB c v n = false) : Calls Try.prog 8 #[.agg #[.int .i64 c, .int .i64 v, .int .i64 n]] w fun e w' => e = .returned (.tuple #[.string ⟨#[]⟩, .int .i64 1400]) ∧ Below w.heap.size w w' := by
  have hB := (Below.refl w.heap.size w).alloc (Nat.le_refl _) (.cells #[.int .i64 c, .int .i64 v, .int .i64 n] 37)
  have hX := boxM w (.int .i64 c) (.int .i64 v) (.int .i64 n) 37
  go_enter Try.func8, Try.ntmps8
  go_wp2_with (go_at_call 15; refine (refMay_any _ _ _ _).mono ?_; rintro e w' ⟨rfl, hb⟩; replace hB := hB.trans (hb.mono hB.size); replace hX := boxB hX hb; clear hb)
  go_ret2
  exact ⟨rfl, hB⟩
set_option maxRecDepth 100000 in
set_option maxHeartbeats 4000000 in
theorem refPut_yes (c v n : Int) (w : World) (h : ansB c v n = true) : Calls Try.prog 8 #[.agg #[.int .i64 c, .int .i64 v, .int .i64 n]] w fun e w' => e = .returned (.tuple #[.string (ansS c v n), .int .i64 0]) ∧ Below w.heap.size w w' := by
  have hB := (Below.refl w.heap.size w).alloc (Nat.le_refl _) (.cells #[.int .i64 c, .int .i64 v, .int .i64 n] 37)
  have hX := boxM w (.int .i64 c) (.int .i64 v) (.int .i64 n) 37
  obtain ⟨p1, _, p2, _, p3, _⟩ := ansB_parts.1 h
  have p4 : (0 : Int) ≤ 0 := by omega
  have HP := hide (laid h)
  have a1 : (lowT c 1).size ≤ 1 := size_lowT c 1
  have b1 : (lowT v 3).size ≤ 3 := size_lowT v 3
  have c1 : (lowT n 1).size ≤ 1 := size_lowT n 1
  have d1 : (lowT 0 1).size ≤ 1 := size_lowT 0 1
  have n1 : ¬ 9223372036854775807 < (lowT c 1).size + (lowT v 3).size := by omega
  have n2 : ¬ 9223372036854775807 < (lowT c 1).size + (lowT v 3).size + (lowT n 1).size := by omega
  have n3 : ¬ 9223372036854775807 < (lowT c 1).size + (lowT v 3).size + (lowT n 1).size + (lowT 0 1).size := by omega
  go_enter Try.func8, Try.ntmps8
  go_wp2_with (go_at_call 15; refine (refMay_any _ _ _ _).mono ?_; rintro e w' ⟨rfl, hb⟩; replace hB := hB.trans (hb.mono hB.size); replace hX := boxB hX hb; clear hb)
  go_region_held3 (fun W => W.cell? ⟨w.heap.size, 0, none⟩ = some (.int .i64 c) ∧ W.cell? ⟨w.heap.size, 1, none⟩ = some (.int .i64 v) ∧ W.cell? ⟨w.heap.size, 2, none⟩ = some (.int .i64 n)) (go_keep) ((go_at_call 16; refine (refLowT_any _ _ _ (by assumption) (by decide) (by decide)).mono ?_; rintro e w' ⟨rfl, hb⟩; replace hB := thenD hb hB rfl rfl rfl rfl; replace hX := boxD hb hX; clear hb))
  go_wp2
  go_ret2
  exact ⟨ret_text HP.out rfl, hB⟩
theorem refPut_any (c v n : Int) (w : World) : Calls Try.prog 8 #[.agg #[.int .i64 c, .int .i64 v, .int .i64 n]] w fun e w' => e = .returned (.tuple #[.string (ansS c v n), .int .i64 (errW (ansB c v n))]) ∧ Below w.heap.size w w' := by
  cases h : ansB c v n with
  | false => rw [ansS_no h]; exact refPut_no c v n w h
  | true => exact refPut_yes c v n w h
theorem num_at (s : ByteArray) (i : Nat) (h : i < s.size) : (s[i].toNat : Int) = numS (s.extract i (i + 1)) := by
  unfold numS
  rw [list_extract]
  have hl : i < s.data.toList.length := by rw [Nor.size_list]; exact h
  have e1 : s.data.toList[i] = s[i] := by rw [Array.getElem_toList]; rfl
  rw [List.drop_eq_getElem_cons hl, e1, Nat.add_sub_cancel_left]
  show _ = (((s[i].toNat + 256 * 0 : Nat)) : Int)
  omega
end Go.Proofs.Ytgkmallikomnaab.AnsRef

/- The contracts of the document's own answers to package answer: they return what the same plain functions give. -/
namespace Go.Proofs.Ytgkmallikomnaab.AnsGet
open Go.Proofs.Ytgkmallikomnaab Go.RowKit Go.Proofs.Ytgkmallikomnaab.Bytes Go.Proofs.Ytgkmallikomnaab.NorWalk Go.Proofs.Ytgkmallikomnaab.NorRef Go.Proofs.Ytgkmallikomnaab.Ent Go.Proofs.Ytgkmallikomnaab.EntLow Go.Proofs.Ytgkmallikomnaab.Ans Go.Proofs.Ytgkmallikomnaab.AnsWalk Go.Proofs.Ytgkmallikomnaab.AnsRef
open Go.Proofs.Ytgkmallikomnaab.EntRow (text_ne size_alloc1)
open Go.Proofs.Ytgkmallikomnaab.EntWalk (lowT size_lowT list_lowT numS ext_le)
open Go.Proofs.Ytgkmallikomnaab.EntRef (refLowT_any num_of)
open Go.Proofs.Ytgkmallikomnaab.OpsRow (boxM boxB boxD thenD)
attribute [local go_sem ↓] Go.wp_at_zero Go.wp_at_succ

end Go.Proofs.Ytgkmallikomnaab.AnsGet
