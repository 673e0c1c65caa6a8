/- The contract of device.Fail. -/
import Derived.Test.YthpoefaipmcceaaDevWalk
namespace Go.Proofs.Ythpoefaipmcceaa.DevFail
open Go.Proofs.Ythpoefaipmcceaa Go.RowKit Go.Proofs.Ythpoefaipmcceaa.Bytes Go.Proofs.Ythpoefaipmcceaa.Ops Go.Proofs.Ythpoefaipmcceaa.Ans Go.Proofs.Ythpoefaipmcceaa.Dev Go.Proofs.Ythpoefaipmcceaa.DevRow Go.Proofs.Ythpoefaipmcceaa.DevWalk
open Go.Proofs.Ythpoefaipmcceaa.OpsWalk (size_alloc1)
attribute [local go_sem ↓] Go.wp_at_zero Go.wp_at_succ
theorem ret_dev {a b a' b' e e' : Int} (h : a = a' ∧ b = b' ∧ e = e') : Ending.returned (.tuple #[.agg #[.int .i64 a, .int .i64 b, .int .i64 0, .int .i64 0, .int .i64 0, .slice none 0 0], .int .i64 e]) = .returned (.tuple #[.agg #[.int .i64 a', .int .i64 b', .int .i64 0, .int .i64 0, .int .i64 0, .slice none 0 0], .int .i64 e']) := by
  obtain ⟨rfl, rfl, rfl⟩ := h
  rfl
theorem fail_f {d : FDev} {s : Int} (h : failB d s = false) : (0 : Int) = faSa (failB d s) ∧ (0 : Int) = faSu (failB d s) s ∧ (1600 : Int) = errD (failB d s) := by rw [h]; exact ⟨rfl, rfl, rfl⟩
theorem fail_t {d : FDev} {s : Int} (h : failB d s = true) : (7 : Int) = faSa (failB d s) ∧ s = faSu (failB d s) s ∧ (0 : Int) = errD (failB d s) := by rw [h]; exact ⟨rfl, rfl, rfl⟩
set_option maxRecDepth 100000 in
set_option maxHeartbeats 1000000 in
theorem fail_any (d : FDev) (v : Value) (s : Int) (w : World) (hv : IsSt w v d.ops) : Calls Try.prog 40 #[.agg #[.int .i64 d.sa, .int .i64 d.su, .int .i64 d.nx, .int .i64 d.gt, .int .i64 d.sl, v], .int .i64 s] w fun r w' => r = .returned (.tuple #[.agg #[.int .i64 (faSa (failB d s)), .int .i64 (faSu (failB d s) s), .int .i64 0, .int .i64 0, .int .i64 0, .slice none 0 0], .int .i64 (errD (failB d s))]) ∧ Below w.heap.size w w' := by
  have hB := ((Below.refl w.heap.size w).alloc (Nat.le_refl _) (.cells #[.int .i64 d.sa, .int .i64 d.su, .int .i64 d.nx, .int .i64 d.gt, .int .i64 d.sl, v] 24)).alloc (Nat.le_of_lt (size_alloc1 _ _)) (.cells #[.int .i64 0, .int .i64 0, .int .i64 0, .int .i64 0, .int .i64 0, .slice none 0 0] 24)
  have hR := resM (w.alloc (.cells #[.int .i64 d.sa, .int .i64 d.su, .int .i64 d.nx, .int .i64 d.gt, .int .i64 d.sl, v] 24)) (.int .i64 0) (.int .i64 0) (.int .i64 0) (.int .i64 0) (.int .i64 0) (.slice none 0 0) 24
  rw [show (w.alloc (.cells #[.int .i64 d.sa, .int .i64 d.su, .int .i64 d.nx, .int .i64 d.gt, .int .i64 d.sl, v] 24)).heap.size = w.heap.size + 1 from by simp] at hR
  have HS : Hid (∀ w', Below w.heap.size w w' → Calls Try.prog 21 #[.agg #[.int .i64 d.sa, .int .i64 d.su, .int .i64 d.nx, .int .i64 d.gt, .int .i64 d.sl, v]] w' fun r w'' => r = .returned (.bool (devB d)) ∧ Below w'.heap.size w' w'') := fun w' hb => dmay_any d v w' (hv.below hb)
  have b1 := build_d0
  have hF : failB d s = (devB d && flB s) := rfl
  obtain ⟨a, ca, rfl, _, _⟩ := hv
  cases h1 : devB d with
  | false =>
    have HZ := hide (fail_f (d := d) (s := s) (by rw [hF, h1]; rfl))
    rw [h1] at HS
    clear hF h1
    go_enter Try.func40, Try.ntmps40
    go_wp2_with (go_at_call 21; refine (HS.out _ hB).mono ?_; rintro e w' ⟨rfl, hb⟩; replace hB := thenB hB hb; replace hR := resB hR hb; clear hb)
    exact bodyPost_ret (v := .tuple #[.agg #[.int .i64 0, .int .i64 0, .int .i64 0, .int .i64 0, .int .i64 0, .slice none 0 0], .int .i64 1600]) (by simp [results, Try.results40, go_sem, hR]) rfl ⟨ret_dev HZ.out, set6 hB (by omega)⟩
  | true =>
    rw [h1] at HS
    cases h2 : flB s with
    | false =>
      have HZ := hide (fail_f (d := d) (s := s) (by rw [hF, h1, h2]; rfl))
      have HU := hide (fun w => fault_any s w)
      rw [h2] at HU
      clear hF h1 h2
      go_enter Try.func40, Try.ntmps40
      go_wp2_with (first | (go_at_call 21; refine (HS.out _ hB).mono ?_; rintro e w' ⟨rfl, hb⟩; replace hB := thenB hB hb; replace hR := resB hR hb; clear hb) | (go_at_call 58; refine (HU.out _).mono ?_; rintro e w' ⟨rfl, hb⟩; replace hB := thenB hB hb; replace hR := resB hR hb; clear hb))
      exact bodyPost_ret (v := .tuple #[.agg #[.int .i64 0, .int .i64 0, .int .i64 0, .int .i64 0, .int .i64 0, .slice none 0 0], .int .i64 1600]) (by simp [results, Try.results40, go_sem, hR]) rfl ⟨ret_dev HZ.out, set6 hB (by omega)⟩
    | true =>
      have HZ := hide (fail_t (d := d) (s := s) (by rw [hF, h1, h2]; rfl))
      have HU := hide (fun w => fault_any s w)
      rw [h2] at HU
      clear hF h1 h2
      go_enter Try.func40, Try.ntmps40
      go_wp2_with (first | (go_at_call 21; refine (HS.out _ hB).mono ?_; rintro e w' ⟨rfl, hb⟩; replace hB := thenB hB hb; replace hR := resB hR hb; clear hb) | (go_at_call 58; refine (HU.out _).mono ?_; rintro e w' ⟨rfl, hb⟩; replace hB := thenB hB hb; replace hR := resB hR hb; clear hb) | (go_at_call 59; refine (new_any _).mono ?_; rintro e w' ⟨rfl, hb⟩; replace hB := thenB hB hb; replace hR := resB hR hb; clear hb))
      have hS := set6 (x0 := .int .i64 7) (x1 := .int .i64 s) (x2 := .int .i64 0) (x3 := .int .i64 0) (x4 := .int .i64 0) (x5 := .slice none 0 0) hB (Nat.le_succ w.heap.size)
      exact bodyPost_ret (v := .tuple #[.agg #[.int .i64 7, .int .i64 s, .int .i64 0, .int .i64 0, .int .i64 0, .slice none 0 0], .int .i64 0]) (by simp [results, Try.results40, go_sem, hR]) rfl ⟨ret_dev HZ.out, hS.alloc hS.size _⟩
end Go.Proofs.Ythpoefaipmcceaa.DevFail
