/- The contracts of the document's own answers to package setup: they return what the same plain functions give. -/
import Derived.Test.YthegdhogpjhidaaBagSet
import Derived.Test.YthegdhogpjhidaaEntRef
namespace Go.Proofs.Ythegdhogpjhidaa.SetRef
open Go.Proofs.Ythegdhogpjhidaa Go.RowKit Go.Proofs.Ythegdhogpjhidaa.Bytes Go.Proofs.Ythegdhogpjhidaa.NorWalk Go.Proofs.Ythegdhogpjhidaa.NorRef Go.Proofs.Ythegdhogpjhidaa.Ent Go.Proofs.Ythegdhogpjhidaa.EntLow Go.Proofs.Ythegdhogpjhidaa.Sup Go.Proofs.Ythegdhogpjhidaa.SetWalk
open Go.Proofs.Ythegdhogpjhidaa.EntRow (text_ne size_alloc1)
open Go.Proofs.Ythegdhogpjhidaa.EntWalk (lowT size_lowT list_lowT numS ext_le)
open Go.Proofs.Ythegdhogpjhidaa.EntRef (refLowT_any)
open Go.Proofs.Ythegdhogpjhidaa.EntRef (num_of)
open Go.Proofs.Ythegdhogpjhidaa.OpsRow (boxM boxB boxD thenD)
attribute [local go_sem ↓] Go.wp_at_zero Go.wp_at_succ

theorem supB_up (c v n : Int) : supB c v n = (upToB c 0 6 && (upToB v 0 65535 && upToB n 0 32)) := by
  unfold supB upToB
  rw [Bool.eq_iff_iff]
  simp
  omega
set_option maxRecDepth 100000 in
set_option maxHeartbeats 1000000 in
theorem refMay_any (c v n : Int) (w : World) : Calls Try.prog 52 #[.agg #[.int .i64 c, .int .i64 v, .int .i64 n]] w fun e w' => e = .returned (.bool (supB c v n)) ∧ Below w.heap.size w w' := by
  rw [supB_up]
  have hX := boxM w (.int .i64 c) (.int .i64 v) (.int .i64 n) 48
  cases h1 : upToB c 0 6 <;> cases h2 : upToB v 0 65535 <;> cases h3 : upToB n 0 32
  all_goals
    go_enter Try.func52, Try.ntmps52
    go_wp2_with (go_at_call 36; refine (upTo_any _ _ _ _).mono ?_; rintro e w' ⟨rfl, rfl⟩)
    go_ret
    exact ⟨rfl, (Below.refl _ _).alloc (Nat.le_refl _) _⟩
set_option maxRecDepth 100000 in
set_option maxHeartbeats 1000000 in
theorem refPut_no (c v n : Int) (w : World) (h : supB c v n = false) : Calls Try.prog 29 #[.agg #[.int .i64 c, .int .i64 v, .int .i64 n]] w fun e w' => e = .returned (.tuple #[.string ⟨#[]⟩, .int .i64 1300]) ∧ Below w.heap.size w w' := by
  have hB := (Below.refl w.heap.size w).alloc (Nat.le_refl _) (.cells #[.int .i64 c, .int .i64 v, .int .i64 n] 48)
  have hX := boxM w (.int .i64 c) (.int .i64 v) (.int .i64 n) 48
  go_enter Try.func29, Try.ntmps29
  go_wp2_with (go_at_call 52; refine (refMay_any _ _ _ _).mono ?_; rintro e w' ⟨rfl, hb⟩; replace hB := hB.trans (hb.mono hB.size); replace hX := boxB hX hb; clear hb)
  go_ret2
  exact ⟨rfl, hB⟩
set_option maxRecDepth 100000 in
set_option maxHeartbeats 4000000 in
theorem refPut_yes (c v n : Int) (w : World) (h : supB c v n = true) : Calls Try.prog 29 #[.agg #[.int .i64 c, .int .i64 v, .int .i64 n]] w fun e w' => e = .returned (.tuple #[.string (supS c v n), .int .i64 0]) ∧ Below w.heap.size w w' := by
  have hB := (Below.refl w.heap.size w).alloc (Nat.le_refl _) (.cells #[.int .i64 c, .int .i64 v, .int .i64 n] 48)
  have hX := boxM w (.int .i64 c) (.int .i64 v) (.int .i64 n) 48
  obtain ⟨p1, _, p2, _, p3, _⟩ := supB_parts.1 h
  have p0 := kind_pos c
  have p4 : (0 : Int) ≤ 0 := by omega
  have hP := laid h
  have a1 : (lowT (kind c) 1).size ≤ 1 := size_lowT _ 1
  have b1 : (lowT c 1).size ≤ 1 := size_lowT c 1
  have c1 : (lowT v 2).size ≤ 2 := size_lowT v 2
  have d1 : (lowT 0 2).size ≤ 2 := size_lowT 0 2
  have f1 : (lowT n 2).size ≤ 2 := size_lowT n 2
  have n1 : ¬ 9223372036854775807 < (lowT (kind c) 1).size + (lowT c 1).size := by omega
  have n2 : ¬ 9223372036854775807 < (lowT (kind c) 1).size + (lowT c 1).size + (lowT v 2).size := by omega
  have n3 : ¬ 9223372036854775807 < (lowT (kind c) 1).size + (lowT c 1).size + (lowT v 2).size + (lowT 0 2).size := by omega
  have n4 : ¬ 9223372036854775807 < (lowT (kind c) 1).size + (lowT c 1).size + (lowT v 2).size + (lowT 0 2).size + (lowT n 2).size := by omega
  rcases kind_ways c with ⟨rfl, hk⟩ | ⟨rfl, hk⟩ | ⟨rfl, hk⟩ | ⟨k1, k2, k3, hk⟩
  all_goals
    rw [hk] at hP n1 n2 n3 n4 p0
    have HP := hide hP
    clear hP hk a1
    try replace k1 : (c == 2) = false := beq_eq_false_iff_ne.2 k1
    try replace k2 : (c == 3) = false := beq_eq_false_iff_ne.2 k2
    try replace k3 : (c == 5) = false := beq_eq_false_iff_ne.2 k3
    go_enter Try.func29, Try.ntmps29
    go_wp2_with (go_at_call 52; refine (refMay_any _ _ _ _).mono ?_; rintro e w' ⟨rfl, hb⟩; replace hB := hB.trans (hb.mono hB.size); replace hX := boxB hX hb; clear hb)
  · go_region_held3 (fun W => W.cell? ⟨w.heap.size, 0, none⟩ = some (.int .i64 2) ∧ W.cell? ⟨w.heap.size, 1, none⟩ = some (.int .i64 v) ∧ W.cell? ⟨w.heap.size, 2, none⟩ = some (.int .i64 n)) (go_keep) ((go_at_call 37; refine (refLowT_any _ _ _ (by assumption) (by decide) (by decide)).mono ?_; rintro e w' ⟨rfl, hb⟩; replace hB := thenD hb hB rfl rfl rfl rfl; replace hX := boxD hb hX; clear hb))
    go_wp2
    go_ret2
    exact ⟨ret_text HP.out rfl, hB⟩
  · go_region_held3 (fun W => W.cell? ⟨w.heap.size, 0, none⟩ = some (.int .i64 3) ∧ W.cell? ⟨w.heap.size, 1, none⟩ = some (.int .i64 v) ∧ W.cell? ⟨w.heap.size, 2, none⟩ = some (.int .i64 n)) (go_keep) ((go_at_call 37; refine (refLowT_any _ _ _ (by assumption) (by decide) (by decide)).mono ?_; rintro e w' ⟨rfl, hb⟩; replace hB := thenD hb hB rfl rfl rfl rfl; replace hX := boxD hb hX; clear hb))
    go_wp2
    go_ret2
    exact ⟨ret_text HP.out rfl, hB⟩
  · go_region_held3 (fun W => W.cell? ⟨w.heap.size, 0, none⟩ = some (.int .i64 5) ∧ W.cell? ⟨w.heap.size, 1, none⟩ = some (.int .i64 v) ∧ W.cell? ⟨w.heap.size, 2, none⟩ = some (.int .i64 n)) (go_keep) ((go_at_call 37; refine (refLowT_any _ _ _ (by assumption) (by decide) (by decide)).mono ?_; rintro e w' ⟨rfl, hb⟩; replace hB := thenD hb hB rfl rfl rfl rfl; replace hX := boxD hb hX; clear hb))
    go_wp2
    go_ret2
    exact ⟨ret_text HP.out rfl, hB⟩
  · go_region_held3 (fun W => W.cell? ⟨w.heap.size, 0, none⟩ = some (.int .i64 c) ∧ W.cell? ⟨w.heap.size, 1, none⟩ = some (.int .i64 v) ∧ W.cell? ⟨w.heap.size, 2, none⟩ = some (.int .i64 n)) (go_keep) ((go_at_call 37; refine (refLowT_any _ _ _ (by assumption) (by decide) (by decide)).mono ?_; rintro e w' ⟨rfl, hb⟩; replace hB := thenD hb hB rfl rfl rfl rfl; replace hX := boxD hb hX; clear hb))
    go_wp2
    go_ret2
    exact ⟨ret_text HP.out rfl, hB⟩
theorem refPut_any (c v n : Int) (w : World) : Calls Try.prog 29 #[.agg #[.int .i64 c, .int .i64 v, .int .i64 n]] w fun e w' => e = .returned (.tuple #[.string (supS c v n), .int .i64 (errU (supB c v n))]) ∧ Below w.heap.size w w' := by
  cases h : supB c v n with
  | false => rw [supS_no h]; exact refPut_no c v n w h
  | true => exact refPut_yes c v n w h
theorem num_one (s : ByteArray) (h : 1 < s.size) : (s[1].toNat : Int) = numS (s.extract 1 2) := by
  unfold numS
  rw [list_extract]
  have hl : 1 < s.data.toList.length := by rw [Nor.size_list]; exact h
  have e1 : s.data.toList[1] = s[1] := by rw [Array.getElem_toList]; rfl
  rw [List.drop_eq_getElem_cons hl, e1]
  show _ = (((s[1].toNat + 256 * 0 : Nat)) : Int)
  omega
set_option maxHeartbeats 4000000 in
theorem refGet_none (s : ByteArray) (w : World) (h1 : ¬ s.size = 8) : Calls Try.prog 19 #[.string s] w fun r w' => r = .returned (.tuple #[.agg #[.int .i64 0, .int .i64 0, .int .i64 0], .int .i64 1300]) ∧ Below w.heap.size w w' := by
  have b2 := build_no
  go_enter Try.func19, Try.ntmps19
  go_wp2
  exact bodyPost_ret (v := .tuple #[.agg #[.int .i64 0, .int .i64 0, .int .i64 0], .int .i64 1300]) (by simp [results, Try.results19, go_sem]) rfl ⟨rfl, (Below.refl _ _).alloc (Nat.le_refl _) _⟩
end Go.Proofs.Ythegdhogpjhidaa.SetRef
