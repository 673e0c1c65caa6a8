/- The contracts of package device: each call returns what the plain functions give, whatever its arguments; of what was there nothing has turned. -/
import Derived.Test.YthpoefaipmcceaaDevRow
import Derived.Test.YthpoefaipmcceaaDevMath
import Derived.Test.YthpoefaipmcceaaOpsWalk
import Derived.Test.YthpoefaipmcceaaAnsWalk
namespace Go.Proofs.Ythpoefaipmcceaa.DevWalk
open Go.Proofs.Ythpoefaipmcceaa Go.RowKit Go.Proofs.Ythpoefaipmcceaa.Bytes Go.Proofs.Ythpoefaipmcceaa.Ops Go.Proofs.Ythpoefaipmcceaa.OpsRow Go.Proofs.Ythpoefaipmcceaa.OpsWalk Go.Proofs.Ythpoefaipmcceaa.Ans Go.Proofs.Ythpoefaipmcceaa.Dev Go.Proofs.Ythpoefaipmcceaa.DevRow
open Go.Proofs.Ythpoefaipmcceaa.AnsWalk (amay_any)
open Go.Proofs.Ythpoefaipmcceaa.NorWalk (ret_bool)
attribute [local go_sem ↓] Go.wp_at_zero Go.wp_at_succ

theorem notStep_any (e : Bool) (a : Int) (t : ByteArray) (w : World) : Calls Try.prog 56 #[.agg #[.bool e, .int .i64 a, .string t]] w fun r w' => r = .returned (.bool (!opMay e a t)) ∧ Below w.heap.size w w' := by
  have hB := (Below.refl w.heap.size w).alloc (Nat.le_refl _) (.cells #[.bool e, .int .i64 a, .string t] 44)
  go_enter Try.func56, Try.ntmps56
  go_wp2_with (go_at_call 57; refine (opMay_any _ _ _ _).mono ?_; rintro e w' ⟨rfl, hb⟩; replace hB := hB.trans (hb.mono hB.size); clear hb)
  all_goals
    go_ret
    exact ⟨rfl, hB⟩
set_option maxRecDepth 100000 in
set_option maxHeartbeats 1000000 in
/-- The first step that may not be. -/
theorem index_any (v : Value) (l : List FOp) (w : World) (hv : IsSt w v l) : Calls Try.prog 70 #[v, .func (.func 56) #[] #[]] w fun r w' => (∃ k : Int, r = .returned (.int .i64 k) ∧ decide (0 ≤ k) = !mayAll l) ∧ Below w.heap.size w w' := by
  have hl : l.length ≤ 9223372036854775807 := by have := hv.len; unfold maxLen at this; omega
  obtain ⟨a, ca, rfl, _, ha⟩ := hv
  go_enter Try.func70, Try.ntmps70
  go_wp2
  go_loopw [8] (fun i wr => ∃ j : Nat, j ≤ l.length ∧ i = .int .i64 j ∧ mayTo l j = true ∧ Below w.heap.size w wr) (fun i _ => l.length - (intOf i).toNat)
  case atStart => exact ⟨0, Nat.zero_le _, rfl, rfl, Below.refl _ _⟩
  case round =>
    obtain ⟨j, hj, rfl, hm, hB⟩ := hrel
    by_cases hlt : j < l.length
    · rcases ha with ha | ⟨g, o, rfl, _, _, hg, ha⟩
      · rw [ha] at hlt; simp at hlt
      have ha' := ha.below hB hg
      have a1 := ha'.er j hlt
      have a2 := ha'.pl j hlt
      have a3 := ha'.tx j hlt
      have HN := hide (mayTo_succ hlt)
      have HF : Hid (opMay l[j].er l[j].pl l[j].tx = false → mayAll l = false) := fun h => mayAll_bad hlt h
      generalize l[j].er = E at *
      generalize l[j].pl = A at *
      generalize l[j].tx = T at *
      clear ha ha'
      have HM : Hid (mayTo l j = true) := hm
      clear hm
      cases hc : opMay E A T with
      | true =>
        go_wp2_with (go_at_call 56; refine (notStep_any _ _ _ _).mono ?_; rintro e w' ⟨rfl, hb⟩; replace hB := hB.trans (hb.mono hB.size); clear hb)
        exact ⟨⟨j + 1, by omega, by go_num, by rw [HN.out, HM.out, hc]; rfl, hB⟩, by simp [intOf]; omega⟩
      | false =>
        go_wp2_with (go_at_call 56; refine (notStep_any _ _ _ _).mono ?_; rintro e w' ⟨rfl, hb⟩; replace hB := hB.trans (hb.mono hB.size); clear hb)
        go_ret
        exact ⟨⟨_, rfl, by rw [HF.out hc]; simp⟩, hB⟩
    · obtain rfl : j = l.length := by omega
      rw [mayTo_all] at hm
      go_wp2
      go_ret
      exact ⟨⟨_, rfl, by rw [hm]; rfl⟩, hB⟩
theorem contains_any (v : Value) (l : List FOp) (w : World) (hv : IsSt w v l) : Calls Try.prog 55 #[v, .func (.func 56) #[] #[]] w fun r w' => r = .returned (.bool (!mayAll l)) ∧ Below w.heap.size w w' := by
  have HI := hide (index_any v l w hv)
  go_enter Try.func55, Try.ntmps55
  go_wp2_with (go_at_call 70; refine HI.out.mono ?_; rintro e w' ⟨⟨k, rfl, hk⟩, hb⟩)
  go_ret
  exact ⟨ret_bool (by rw [← hk]), hb⟩
theorem steps_any (v : Value) (l : List FOp) (w : World) (hv : IsSt w v l) : Calls Try.prog 39 #[v] w fun r w' => r = .returned (.bool (stepsB l)) ∧ Below w.heap.size w w' := by
  have hl : l.length ≤ 9223372036854775807 := by have := hv.len; unfold maxLen at this; omega
  have HC := hide (contains_any v l w hv)
  obtain ⟨a, ca, rfl, _, _⟩ := hv
  by_cases h : l.length ≤ 768
  · rw [stepsB_short h]
    cases hc : mayAll l
    all_goals
      rw [hc] at HC
      go_enter Try.func39, Try.ntmps39
      go_wp2_with (go_at_call 55; refine HC.out.mono ?_; rintro e w' ⟨rfl, hb⟩)
      go_ret
      exact ⟨rfl, hb⟩
  · rw [stepsB_long h]
    go_enter Try.func39, Try.ntmps39
    go_wp2
    go_ret
    exact ⟨rfl, Below.refl _ _⟩
theorem within_any (x k : Int) (w : World) : Calls Try.prog 38 #[.int .i64 x, .int .i64 k] w fun r w' => r = .returned (.bool (upB x k)) ∧ w' = w := by
  go_enter Try.func38, Try.ntmps38
  go_wp2
  all_goals
    go_ret
    exact ⟨ret_bool (by unfold upB; rw [Bool.eq_iff_iff]; simp; try omega), rfl⟩
theorem build_su (su sa : Int) (w : World) : (Instr.build 73 #[(0, .int .i64 su), (2, .int .i64 sa)]).run Try.prog w = .ok (.agg #[.int .i64 su, .int .i64 0, .int .i64 sa]) w := run_build w 73 _ _ (by kernel_rfl)
theorem build_s (su : Int) (w : World) : (Instr.build 73 #[(0, .int .i64 su)]).run Try.prog w = .ok (.agg #[.int .i64 su, .int .i64 0, .int .i64 0]) w := run_build w 73 _ _ (by kernel_rfl)
theorem build_d0 (w : World) : (Instr.build 24 #[]).run Try.prog w = .ok (.agg #[.int .i64 0, .int .i64 0, .int .i64 0, .int .i64 0, .int .i64 0, .slice none 0 0]) w := run_build w 24 _ _ (by kernel_rfl)
theorem build_d2 (a b : Int) (w : World) : (Instr.build 24 #[(0, .int .i64 a), (1, .int .i64 b)]).run Try.prog w = .ok (.agg #[.int .i64 a, .int .i64 b, .int .i64 0, .int .i64 0, .int .i64 0, .slice none 0 0]) w := run_build w 24 _ _ (by kernel_rfl)
theorem dev_ways (d : FDev) : (ansB d.su 0 d.sa = false ∧ devB d = false) ∨ (ansB d.su 0 d.sa = true ∧ upB d.nx 16 = false ∧ devB d = false) ∨ (ansB d.su 0 d.sa = true ∧ upB d.nx 16 = true ∧ upB d.gt 288 = false ∧ devB d = false) ∨ (ansB d.su 0 d.sa = true ∧ upB d.nx 16 = true ∧ upB d.gt 288 = true ∧ upB d.sl 1 = false ∧ devB d = false) ∨ (ansB d.su 0 d.sa = true ∧ upB d.nx 16 = true ∧ upB d.gt 288 = true ∧ upB d.sl 1 = true ∧ devB d = stepsB d.ops) := by
  have h : ansB d.su 0 d.sa = (saB d.sa && stB d.su) := by
    unfold ansB saB stB
    rw [Bool.eq_iff_iff]
    simp
    omega
  unfold devB
  rw [h]
  cases saB d.sa <;> cases stB d.su <;> cases upB d.nx 16 <;> cases upB d.gt 288 <;> cases upB d.sl 1 <;> simp
set_option maxRecDepth 100000 in
set_option maxHeartbeats 1000000 in
theorem dmay_any (d : FDev) (v : Value) (w : World) (hv : IsSt w v d.ops) : Calls Try.prog 21 #[.agg #[.int .i64 d.sa, .int .i64 d.su, .int .i64 d.nx, .int .i64 d.gt, .int .i64 d.sl, v]] w fun r w' => r = .returned (.bool (devB d)) ∧ Below w.heap.size w w' := by
  have hB := (Below.refl w.heap.size w).alloc (Nat.le_refl _) (.cells #[.int .i64 d.sa, .int .i64 d.su, .int .i64 d.nx, .int .i64 d.gt, .int .i64 d.sl, v] 24)
  have hX := sixM w (.int .i64 d.sa) (.int .i64 d.su) (.int .i64 d.nx) (.int .i64 d.gt) (.int .i64 d.sl) v 24
  have HS : Hid (∀ w', Below w.heap.size w w' → Calls Try.prog 39 #[v] w' fun r w'' => r = .returned (.bool (stepsB d.ops)) ∧ Below w'.heap.size w' w'') := fun w' hb => steps_any v d.ops w' (hv.below hb)
  have b1 := build_su
  have hw := dev_ways d
  obtain ⟨sa, su, nx, gt, sl, l⟩ := d
  obtain ⟨a, ca, rfl, _, _⟩ := hv
  dsimp only at *
  rcases hw with ⟨h1, h⟩ | ⟨h1, h2, h⟩ | ⟨h1, h2, h3, h⟩ | ⟨h1, h2, h3, h4, h⟩ | ⟨h1, h2, h3, h4, h⟩
  all_goals
    rw [h]
    clear h
    go_enter Try.func21, Try.ntmps21
    go_wp2_with (first | (go_at_call 37; refine (amay_any _ _ _ _).mono ?_; rintro e w' ⟨rfl, hb⟩; replace hB := thenB hB hb; replace hX := sixB hX hb; clear hb) | (go_at_call 38; refine (within_any _ _ _).mono ?_; rintro e w' ⟨rfl, rfl⟩) | (go_at_call 39; refine (HS.out _ hB).mono ?_; rintro e w' ⟨rfl, hb⟩; replace hB := thenB hB hb; replace hX := sixB hX hb; clear hb))
    go_ret
    exact ⟨rfl, hB⟩
theorem new_any (w : World) : Calls Try.prog 59 #[] w fun r w' => r = .returned (.agg #[.int .i64 0, .int .i64 0, .int .i64 0, .int .i64 0, .int .i64 0, .slice none 0 0]) ∧ Below w.heap.size w w' := by
  have b := build_d2
  go_enter Try.func59, Try.ntmps59
  go_wp2
  exact bodyPost_ret (v := .agg #[.int .i64 0, .int .i64 0, .int .i64 0, .int .i64 0, .int .i64 0, .slice none 0 0]) (by simp [results, Try.results59, go_sem]) rfl ⟨rfl, (Below.refl _ _).alloc (Nat.le_refl _) _⟩
theorem flB_ways (s : Int) : (s = 0 ∧ flB s = false) ∨ ((s != 0) = true ∧ flB s = ansB s 0 0) := by
  unfold flB ansB
  by_cases h : s = 0
  · subst h; exact .inl ⟨rfl, rfl⟩
  · refine .inr ⟨bne_iff_ne.2 h, ?_⟩
    rw [Bool.eq_iff_iff]
    simp
    omega
set_option maxRecDepth 100000 in
theorem fault_any (s : Int) (w : World) : Calls Try.prog 58 #[.int .i64 s] w fun r w' => r = .returned (.bool (flB s)) ∧ Below w.heap.size w w' := by
  have b1 := build_s
  rcases flB_ways s with ⟨rfl, h⟩ | ⟨h1, h⟩
  all_goals
    rw [h]
    clear h
    go_enter Try.func58, Try.ntmps58
    go_wp2_with (go_at_call 37; refine (amay_any _ _ _ _).mono ?_; rintro e w' ⟨rfl, hb⟩)
    go_ret
    first | exact ⟨rfl, hb⟩ | exact ⟨rfl, Below.refl _ _⟩
end Go.Proofs.Ythpoefaipmcceaa.DevWalk
