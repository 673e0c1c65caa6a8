/- The contracts of the document's own answers to package setup: they return what the same plain functions give. -/
import Derived.Test.YthegdhogpjhidaaBagSet
import Derived.Test.YthegdhogpjhidaaSetRef
namespace Go.Proofs.Ythegdhogpjhidaa.SetGet
open Go.Proofs.Ythegdhogpjhidaa Go.RowKit Go.Proofs.Ythegdhogpjhidaa.Bytes Go.Proofs.Ythegdhogpjhidaa.NorWalk Go.Proofs.Ythegdhogpjhidaa.NorRef Go.Proofs.Ythegdhogpjhidaa.Ent Go.Proofs.Ythegdhogpjhidaa.EntLow Go.Proofs.Ythegdhogpjhidaa.Sup Go.Proofs.Ythegdhogpjhidaa.SetWalk Go.Proofs.Ythegdhogpjhidaa.SetRef
open Go.Proofs.Ythegdhogpjhidaa.EntRow (text_ne size_alloc1)
open Go.Proofs.Ythegdhogpjhidaa.EntWalk (lowT size_lowT list_lowT numS ext_le)
open Go.Proofs.Ythegdhogpjhidaa.EntRef (refLowT_any num_of)
open Go.Proofs.Ythegdhogpjhidaa.OpsRow (boxM boxB boxD thenD)
attribute [local go_sem ↓] Go.wp_at_zero Go.wp_at_succ

set_option maxRecDepth 100000 in
set_option maxHeartbeats 4000000 in
theorem refGet_8 (s : ByteArray) (w : World) (h1 : s.size = 8) : Calls Try.prog 19 #[.string s] w fun r w' => r = .returned (.tuple #[.agg #[.int .i64 (gc s), .int .i64 (gv s), .int .i64 (gn s)], .int .i64 (errU (gotB s))]) ∧ Below w.heap.size w w' := by
  have b1 := build_set
  have b2 := build_no
  have hc := got_ways h1
  have HC := hide hc
  clear hc
  have z0 : 1 < s.size := by omega
  have z1 : s.size ≤ 8 := by omega
  have z2 : 8 ≤ s.size := by omega
  have y1 : (2 : Int) ≤ (s.size : Int) := by omega
  have y2 : (4 : Int) ≤ (s.size : Int) := by omega
  have y3 : (8 : Int) ≤ (s.size : Int) := by omega
  have hn := num_one s z0
  have y0 : (1 : Int) < (s.size : Int) := by omega
  have hw : IntKind.i64.wrap (s[1].toNat : Int) = numS (s.extract 1 2) := by rw [← hn, IntKind.wrap_i64]; have := s[1].toNat_lt; omega
  have HW := hide hw
  clear hw
  clear h1 hn
  have hR := resB (resM w (.int .i64 0) (.int .i64 0) (.int .i64 0) 48) ((Below.refl _ _).alloc (Nat.le_refl _) (.cells #[.int .i64 (numS (s.extract 1 2)), .int .i64 (numS (s.extract 2 4)), .int .i64 (numS (s.extract 6 8))] 48))
  have hX := boxM (w.alloc (.cells #[.int .i64 0, .int .i64 0, .int .i64 0] 48)) (.int .i64 (numS (s.extract 1 2))) (.int .i64 (numS (s.extract 2 4))) (.int .i64 (numS (s.extract 6 8))) 48
  have hB := ((Below.refl w.heap.size w).alloc (Nat.le_refl _) (.cells #[.int .i64 0, .int .i64 0, .int .i64 0] 48)).alloc (Nat.le_of_lt (size_alloc1 _ _)) (.cells #[.int .i64 (numS (s.extract 1 2)), .int .i64 (numS (s.extract 2 4)), .int .i64 (numS (s.extract 6 8))] 48)
  rw [show (w.alloc (.cells #[.int .i64 0, .int .i64 0, .int .i64 0] 48)).heap.size = w.heap.size + 1 from by simp] at hX
  have HB := hide hB
  have HX := hide hX
  have HR := hide hR
  clear hB hX hR
  go_enter Try.func19, Try.ntmps19
  go_wp2
  go_region_held3 (fun _ => True) (trivial) ((go_at_call 39; refine (num_of _ _ (by exact ext_le _ _ _ (by omega))).mono ?_; rintro e w' ⟨rfl, rfl⟩))
  all_goals
    try rw [HW.out]
    have hB := HB.out.drew
    have hX := boxB HX.out (Below.refl _ _).drew
    have hR := resB HR.out (Below.refl _ _).drew
    clear HB HX HR
    generalize (World.alloc _ (.cells #[.int .i64 (numS (s.extract 1 2)), .int .i64 (numS (s.extract 2 4)), .int .i64 (numS (s.extract 6 8))] 48)).drew = W at *
    rcases HC.out with ⟨h2, h3⟩ | ⟨h2, h3, h4⟩ | ⟨h2, h3, h4⟩
    · have e0 : errU false = 1300 := rfl
      have HZ := hide (zero_set h3)
      clear h3
      go_wp2_with (go_at_call 29; refine (refPut_any _ _ _ _).mono ?_; rintro e w' ⟨rfl, hb⟩; replace hB := thenB hB hb; replace hX := boxB hX hb; replace hR := resB hR hb; clear hb)
      exact bodyPost_ret (v := .tuple #[.agg #[.int .i64 0, .int .i64 0, .int .i64 0], .int .i64 1300]) (by simp [results, Try.results19, go_sem, hR]) rfl ⟨ret_set HZ.out, set3 hB (Nat.le_refl _)⟩
    · have e0 : errU true = 0 := rfl
      have HZ := hide (zero_set h4)
      have h5 := text_ne h3
      clear h4 h3
      go_wp2_with (go_at_call 29; refine (refPut_any _ _ _ _).mono ?_; rintro e w' ⟨rfl, hb⟩; replace hB := thenB hB hb; replace hX := boxB hX hb; replace hR := resB hR hb; clear hb)
      exact bodyPost_ret (v := .tuple #[.agg #[.int .i64 0, .int .i64 0, .int .i64 0], .int .i64 1300]) (by simp [results, Try.results19, go_sem, hR]) rfl ⟨ret_set HZ.out, set3 hB (Nat.le_refl _)⟩
    · have e0 : errU true = 0 := rfl
      have HZ := hide (some_set h4)
      clear h4
      go_wp2_with (go_at_call 29; refine (refPut_any _ _ _ _).mono ?_; rintro e w' ⟨rfl, hb⟩; replace hB := thenB hB hb; replace hX := boxB hX hb; replace hR := resB hR hb; clear hb)
      exact bodyPost_ret (v := .tuple #[.agg #[.int .i64 (numS (s.extract 1 2)), .int .i64 (numS (s.extract 2 4)), .int .i64 (numS (s.extract 6 8))], .int .i64 0]) (by simp [results, Try.results19, go_sem, hR]) rfl ⟨ret_set HZ.out, set3 hB (Nat.le_refl _)⟩
theorem refGet_any (s : ByteArray) (w : World) : Calls Try.prog 19 #[.string s] w fun r w' => r = .returned (.tuple #[.agg #[.int .i64 (gc s), .int .i64 (gv s), .int .i64 (gn s)], .int .i64 (errU (gotB s))]) ∧ Below w.heap.size w w' := by
  by_cases h : s.size = 8
  · exact refGet_8 s w h
  · have h2 : gotB s = false := by unfold gotB; exact decide_eq_false (fun g => h g.1)
    obtain ⟨g1, g2, g3⟩ := got_no h2
    rw [g1, g2, g3, h2]
    exact refGet_none s w h
end Go.Proofs.Ythegdhogpjhidaa.SetGet
