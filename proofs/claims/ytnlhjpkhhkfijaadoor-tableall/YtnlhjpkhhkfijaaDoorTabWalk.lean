/- The contracts of package table: each call returns what the plain functions give, whatever its arguments, where the table's variable holds its rows; of what was there nothing has turned. -/
import Derived.Test.YtnlhjpkhhkfijaaDoorAnsWalk
import Derived.Test.YtnlhjpkhhkfijaaDoorSetWalk
import Derived.Test.YtnlhjpkhhkfijaaDoorTabLaid
import Derived.Laws.StructEq
import Derived.Deep.Cut
namespace Go.Proofs.YtnlhjpkhhkfijaaDoor.TabWalk
open Go.Proofs.YtnlhjpkhhkfijaaDoor Go.RowKit Go.Proofs.YtnlhjpkhhkfijaaDoor.Bytes Go.Proofs.YtnlhjpkhhkfijaaDoor.NorWalk Go.Proofs.YtnlhjpkhhkfijaaDoor.Tab Go.Proofs.YtnlhjpkhhkfijaaDoor.TabLaid

theorem always_any (c : Int) (w : World) : Calls Tryd.prog 12 #[.int .i64 c] w fun e w' => e = .returned (.bool (alB c)) ∧ w' = w := by
  go_enter Tryd.func12, Tryd.ntmps12
  go_wp2
  all_goals
    go_ret
    exact ⟨ret_bool (by unfold alB; rw [Bool.eq_iff_iff]; simp; try omega), rfl⟩
/-- A struct of two cells in a block of its own. -/
theorem box2M (w : World) (x y : Value) (e : TypeId) : w.heap.size < (w.alloc (.cells #[x, y] e)).heap.size ∧ (w.alloc (.cells #[x, y] e)).cell? ⟨w.heap.size, 0, none⟩ = some x ∧ (w.alloc (.cells #[x, y] e)).cell? ⟨w.heap.size, 1, none⟩ = some y :=
  ⟨by simp, by rw [World.cell?_alloc_at _ e _ _ rfl]; rfl, by rw [World.cell?_alloc_at _ e _ _ rfl]; rfl⟩
theorem box2B {w w' : World} {B : Nat} {x y : Value} (h : B < w.heap.size ∧ w.cell? ⟨B, 0, none⟩ = some x ∧ w.cell? ⟨B, 1, none⟩ = some y) (hb : Below w.heap.size w w') : B < w'.heap.size ∧ w'.cell? ⟨B, 0, none⟩ = some x ∧ w'.cell? ⟨B, 1, none⟩ = some y :=
  ⟨Nat.lt_of_lt_of_le h.1 hb.size, by rw [hb.cell (p := ⟨B, 0, none⟩) h.1]; exact h.2.1, by rw [hb.cell (p := ⟨B, 1, none⟩) h.1]; exact h.2.2⟩
/-- The table, read at one of its rows. -/
theorem idx (n : Nat) (hn : n < 8) : ∃ a b, tabL[n]? = some (a, b) ∧ ∀ w, (Instr.index 44 (.agg #[.int .i64 0, .int .i64 1, .int .i64 3, .int .i64 1, .int .i64 0, .int .i64 2, .int .i64 6, .int .i64 2, .int .i64 7, .int .i64 4, .int .i64 0, .int .i64 6, .int .i64 3, .int .i64 6, .int .i64 6, .int .i64 6]) (.int .i64 (n : Int))).run Tryd.prog w = .ok (.agg #[.int .i64 a, .int .i64 b]) w := by
  rcases (by omega : n = 0 ∨ n = 1 ∨ n = 2 ∨ n = 3 ∨ n = 4 ∨ n = 5 ∨ n = 6 ∨ n = 7) with rfl | rfl | rfl | rfl | rfl | rfl | rfl | rfl
  · exact ⟨0, 1, rfl, fun w => by kernel_rfl⟩
  · exact ⟨3, 1, rfl, fun w => by kernel_rfl⟩
  · exact ⟨0, 2, rfl, fun w => by kernel_rfl⟩
  · exact ⟨6, 2, rfl, fun w => by kernel_rfl⟩
  · exact ⟨7, 4, rfl, fun w => by kernel_rfl⟩
  · exact ⟨0, 6, rfl, fun w => by kernel_rfl⟩
  · exact ⟨3, 6, rfl, fun w => by kernel_rfl⟩
  · exact ⟨6, 6, rfl, fun w => by kernel_rfl⟩
set_option maxRecDepth 100000 in
set_option maxHeartbeats 4000000 in
theorem listed_any (s c : Int) (w : World) (hT : TabAt w) : Calls Tryd.prog 13 #[.agg #[.int .i64 s, .int .i64 c]] w fun e w' => e = .returned (.bool (liB s c)) ∧ Below w.heap.size w w' := by
  have hB := (Below.refl w.heap.size w).alloc (Nat.le_refl _) (.cells #[.int .i64 s, .int .i64 c] 43)
  have hT1 := hT.below hB
  have hX := box2M w (.int .i64 s) (.int .i64 c) 43
  have c0 : (w.alloc (.cells #[.int .i64 s, .int .i64 c] 43)).cell? ⟨0, 0, none⟩ = some (.int .i64 0) := hT1 0 _ rfl
  have c1 : (w.alloc (.cells #[.int .i64 s, .int .i64 c] 43)).cell? ⟨0, 1, none⟩ = some (.int .i64 1) := hT1 1 _ rfl
  have c2 : (w.alloc (.cells #[.int .i64 s, .int .i64 c] 43)).cell? ⟨0, 2, none⟩ = some (.int .i64 3) := hT1 2 _ rfl
  have c3 : (w.alloc (.cells #[.int .i64 s, .int .i64 c] 43)).cell? ⟨0, 3, none⟩ = some (.int .i64 1) := hT1 3 _ rfl
  have c4 : (w.alloc (.cells #[.int .i64 s, .int .i64 c] 43)).cell? ⟨0, 4, none⟩ = some (.int .i64 0) := hT1 4 _ rfl
  have c5 : (w.alloc (.cells #[.int .i64 s, .int .i64 c] 43)).cell? ⟨0, 5, none⟩ = some (.int .i64 2) := hT1 5 _ rfl
  have c6 : (w.alloc (.cells #[.int .i64 s, .int .i64 c] 43)).cell? ⟨0, 6, none⟩ = some (.int .i64 6) := hT1 6 _ rfl
  have c7 : (w.alloc (.cells #[.int .i64 s, .int .i64 c] 43)).cell? ⟨0, 7, none⟩ = some (.int .i64 2) := hT1 7 _ rfl
  have c8 : (w.alloc (.cells #[.int .i64 s, .int .i64 c] 43)).cell? ⟨0, 8, none⟩ = some (.int .i64 7) := hT1 8 _ rfl
  have c9 : (w.alloc (.cells #[.int .i64 s, .int .i64 c] 43)).cell? ⟨0, 9, none⟩ = some (.int .i64 4) := hT1 9 _ rfl
  have c10 : (w.alloc (.cells #[.int .i64 s, .int .i64 c] 43)).cell? ⟨0, 10, none⟩ = some (.int .i64 0) := hT1 10 _ rfl
  have c11 : (w.alloc (.cells #[.int .i64 s, .int .i64 c] 43)).cell? ⟨0, 11, none⟩ = some (.int .i64 6) := hT1 11 _ rfl
  have c12 : (w.alloc (.cells #[.int .i64 s, .int .i64 c] 43)).cell? ⟨0, 12, none⟩ = some (.int .i64 3) := hT1 12 _ rfl
  have c13 : (w.alloc (.cells #[.int .i64 s, .int .i64 c] 43)).cell? ⟨0, 13, none⟩ = some (.int .i64 6) := hT1 13 _ rfl
  have c14 : (w.alloc (.cells #[.int .i64 s, .int .i64 c] 43)).cell? ⟨0, 14, none⟩ = some (.int .i64 6) := hT1 14 _ rfl
  have c15 : (w.alloc (.cells #[.int .i64 s, .int .i64 c] 43)).cell? ⟨0, 15, none⟩ = some (.int .i64 6) := hT1 15 _ rfl
  go_enter Tryd.func13, Tryd.ntmps13
  go_upto_region 2 with fail
  clear c0 c1 c2 c3 c4 c5 c6 c7 c8 c9 c10 c11 c12 c13 c14 c15 hT hT1
  have HI := hide idx
  generalize Value.agg #[.int .i64 0, .int .i64 1, .int .i64 3, .int .i64 1, .int .i64 0, .int .i64 2, .int .i64 6, .int .i64 2, .int .i64 7, .int .i64 4, .int .i64 0, .int .i64 6, .int .i64 3, .int .i64 6, .int .i64 6, .int .i64 6] = T at *
  go_loopw [6] (fun x wr => ∃ n : Nat, n ≤ 8 ∧ x = .int .i64 (n : Int) ∧ Hid (inTo s c n = false) ∧ (w.heap.size < wr.heap.size ∧ wr.cell? ⟨w.heap.size, 0, none⟩ = some (.int .i64 s) ∧ wr.cell? ⟨w.heap.size, 1, none⟩ = some (.int .i64 c)) ∧ Below w.heap.size w wr) (fun x _ => 8 - (intOf x).toNat)
  case atStart => exact ⟨0, by omega, rfl, inTo_zero s c, hX, hB⟩
  case round =>
    clear hX hB
    obtain ⟨n, hn, rfl, HN, hX, hB⟩ := hrel
    by_cases hlt : n < 8
    · obtain ⟨a, b, hr, hI⟩ := HI.out n hlt
      have HS := hide (inTo_succ (s := s) (c := c) hr)
      have hl : (n : Int) < 8 := by omega
      clear hr HI hn hlt
      have hs : w.heap.size ≤ wr.heap.size := hB.size
      have hX2 := box2B hX ((Below.refl _ wr).alloc (Nat.le_refl _) (.cells #[.int .i64 a, .int .i64 b] 43))
      have hB2 := hB.alloc hs (.cells #[.int .i64 a, .int .i64 b] 43)
      have hc : (a = s ∧ b = c) ∨ ((a = s ∧ ¬ b = c) ∨ ¬ a = s) := by omega
      rcases hc with ⟨rfl, rfl⟩ | hc
      · have HL : Hid (liB a b = true) := inTo_mono (n := n + 1) (by rw [HS.out]; simp)
        go_wp2
        go_ret
        exact ⟨ret_bool HL.out.symm, hB2⟩
      · have HL : Hid (inTo s c (n + 1) = false) := by
          show inTo s c (n + 1) = false
          rw [HS.out, HN.out]
          rcases hc with ⟨h1, h2⟩ | h1
          · simp [h2]
          · simp [h1]
        have HQ : Hid ((n : Int) < 8) := hl
        rcases hc with ⟨rfl, h2⟩ | h1
        all_goals
          clear HN HS
          go_wp2
          have hq := HQ.out
          exact ⟨⟨n + 1, by omega, by go_num, HL, hX2, hB2⟩, by simp [intOf]; omega⟩
    · obtain rfl : n = 8 := by omega
      clear hn hlt HI
      go_wp2
      go_ret
      exact ⟨ret_bool (HN.out : liB s c = false).symm, hB⟩
theorem build_2 (n : Int) (w : World) : (Instr.build 37 #[(2, .int .i64 n)]).run Tryd.prog w = .ok (.agg #[.int .i64 0, .int .i64 0, .int .i64 n]) w := run_build w 37 _ _ (by kernel_rfl)
theorem build_0 (n : Int) (w : World) : (Instr.build 40 #[(0, .int .i64 n)]).run Tryd.prog w = .ok (.agg #[.int .i64 n, .int .i64 0, .int .i64 0]) w := run_build w 40 _ _ (by kernel_rfl)
theorem build_a (s c : Int) (w : World) : (Instr.build 43 #[(0, .int .i64 s), (1, .int .i64 c)]).run Tryd.prog w = .ok (.agg #[.int .i64 s, .int .i64 c]) w := run_build w 43 _ _ (by kernel_rfl)
theorem tok_ways (s c : Int) : (Ans.ansB 0 0 s = false ∧ tokB s c = false) ∨ (Ans.ansB 0 0 s = true ∧ Sup.supB c 0 0 = false ∧ tokB s c = false) ∨ (Ans.ansB 0 0 s = true ∧ Sup.supB c 0 0 = true ∧ tokB s c = true) := by
  unfold Ans.ansB Sup.supB tokB
  simp only [decide_eq_true_eq, decide_eq_false_iff_not]
  omega
set_option maxRecDepth 100000 in
set_option maxHeartbeats 4000000 in
theorem allowed_any (s c : Int) (w : World) (hT : TabAt w) : Calls Tryd.prog 6 #[.int .i64 s, .int .i64 c] w fun e w' => e = .returned (.tuple #[.bool (tabB s c), .int .i64 (errT (tokB s c))]) ∧ Below w.heap.size w w' := by
  have b1 := build_2
  have b2 := build_0
  have b3 := build_a
  have hB := Below.refl w.heap.size w
  have C1 := hide fun w => AnsWalk.amay_any 0 0 s w
  have C2 := hide fun w => SetWalk.smay_any c 0 0 w
  have C3 := hide fun w => always_any c w
  have C4 := hide fun w h => listed_any s c w h
  have HT := hide hT
  rcases tok_ways s c with ⟨h1, h3⟩ | ⟨h1, h2, h3⟩ | ⟨h1, h2, h3⟩
  · rw [tab_no h3, h3, errT_f]
    rw [h1] at C1
    clear C2 C3 C4 HT hT h1 h3
    go_enter Tryd.func6, Tryd.ntmps6
    go_wp2_with (go_at_call 10; refine (C1.out _).mono ?_; rintro e w' ⟨rfl, hb⟩; replace hB := hB.trans (hb.mono hB.size); clear hb)
    go_ret2
    exact ⟨rfl, hB⟩
  · rw [tab_no h3, h3, errT_f]
    rw [h1] at C1
    rw [h2] at C2
    clear C3 C4 HT hT h1 h2 h3
    go_enter Tryd.func6, Tryd.ntmps6
    go_wp2_with (first | (go_at_call 10; refine (C1.out _).mono ?_; rintro e w' ⟨rfl, hb⟩; replace hB := hB.trans (hb.mono hB.size); clear hb) | (go_at_call 11; refine (C2.out _).mono ?_; rintro e w' ⟨rfl, hb⟩; replace hB := hB.trans (hb.mono hB.size); clear hb))
    go_ret2
    exact ⟨rfl, hB⟩
  · have HP : Hid (tabB s c = (alB c || liB s c)) := by show tabB s c = _; unfold tabB; rw [h3]; rfl
    rw [h3, errT_t, HP.out]
    rw [h1] at C1
    rw [h2] at C2
    clear hT h1 h2 h3 HP
    generalize alB c = A at *
    generalize liB s c = L at *
    cases A
    all_goals
      go_enter Tryd.func6, Tryd.ntmps6
      go_wp2_with (first | (go_at_call 10; refine (C1.out _).mono ?_; rintro e w' ⟨rfl, hb⟩; replace hB := hB.trans (hb.mono hB.size); clear hb) | (go_at_call 11; refine (C2.out _).mono ?_; rintro e w' ⟨rfl, hb⟩; replace hB := hB.trans (hb.mono hB.size); clear hb) | (go_at_call 12; refine (C3.out _).mono ?_; rintro e w' ⟨rfl, rfl⟩) | (go_at_call 13; refine (C4.out _ (HT.out.below hB)).mono ?_; rintro e w' ⟨rfl, hb⟩; replace hB := hB.trans (hb.mono hB.size); clear hb))
      go_ret2
      exact ⟨rfl, hB⟩
end Go.Proofs.YtnlhjpkhhkfijaaDoor.TabWalk
