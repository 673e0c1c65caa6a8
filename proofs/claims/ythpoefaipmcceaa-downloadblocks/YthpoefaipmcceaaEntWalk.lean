/- The contracts of package entry: each call returns what the plain functions give, whatever its arguments; of what was there nothing has turned. -/
import Derived.Test.YthpoefaipmcceaaEntLow
import Derived.Deep.RegionWith
import Derived.Deep.DrawnRows
import Derived.Deep.RegionHeld3
import Derived.Laws.Closers25
import Derived.Laws.Tables
namespace Go.Proofs.Ythpoefaipmcceaa.EntWalk
open Go.Proofs.Ythpoefaipmcceaa Go.RowKit Go.Proofs.Ythpoefaipmcceaa.Bytes Go.Proofs.Ythpoefaipmcceaa.NorWalk Go.Proofs.Ythpoefaipmcceaa.Ent Go.Proofs.Ythpoefaipmcceaa.EntRow Go.Proofs.Ythpoefaipmcceaa.EntLow
attribute [local go_sem ↓] Go.wp_at_zero Go.wp_at_succ

theorem recMay_f {q t z m : Int} (h : recMay q t z m = false) : ¬ 1 ≤ q ∨ (1 ≤ q ∧ ¬ q ≤ 1048576) ∨ (1 ≤ q ∧ q ≤ 1048576 ∧ ¬ t = 0 ∧ ¬ t = 1) ∨ (1 ≤ q ∧ q ≤ 1048576 ∧ (t = 0 ∨ t = 1) ∧ ¬ 1 ≤ z) ∨ (1 ≤ q ∧ q ≤ 1048576 ∧ (t = 0 ∨ t = 1) ∧ 1 ≤ z ∧ ¬ z ≤ 288) ∨ (1 ≤ q ∧ q ≤ 1048576 ∧ (t = 0 ∨ t = 1) ∧ 1 ≤ z ∧ z ≤ 288 ∧ ¬ 0 ≤ m) ∨ (1 ≤ q ∧ q ≤ 1048576 ∧ (t = 0 ∨ t = 1) ∧ 1 ≤ z ∧ z ≤ 288 ∧ 0 ≤ m ∧ ¬ m ≤ 4294967295) := by
  unfold recMay at h
  have := of_decide_eq_false h
  omega
set_option maxHeartbeats 1000000 in
theorem may_rec (q t z m : Int) (w : World) : Calls Try.prog 89 #[.agg #[.int .i64 q, .int .i64 t, .int .i64 z, .int .i64 m]] w fun r w' => r = .returned (.bool (recMay q t z m)) ∧ Below w.heap.size w w' := by
  cases h : recMay q t z m with
  | true =>
    obtain ⟨h1, h2, h3, h4, h5, h6, h7, h8⟩ := recMay_parts.1 h
    have h0 : t = 0 ∨ t = 1 := by omega
    clear h3 h4 h
    rcases h0 with rfl | rfl
    all_goals
      go_enter Try.func89, Try.ntmps89
      go_wp2
      go_ret
      exact ⟨rfl, (Below.refl _ _).alloc (Nat.le_refl _) _⟩
  | false =>
    rcases recMay_f h with h1 | ⟨h1, h2⟩ | ⟨h1, h2, h3, h4⟩ | ⟨h1, h2, h3 | h3, h4⟩ | ⟨h1, h2, h3 | h3, h4, h5⟩ | ⟨h1, h2, h3 | h3, h4, h5, h6⟩ | ⟨h1, h2, h3 | h3, h4, h5, h6, h7⟩
    all_goals
      clear h
      go_enter Try.func89, Try.ntmps89
      go_wp2
      go_ret
      exact ⟨rfl, (Below.refl _ _).alloc (Nat.le_refl _) _⟩

set_option maxHeartbeats 1000000 in
theorem put_no (q t z m : Int) (w : World) (h : recMay q t z m = false) : Calls Try.prog 85 #[.agg #[.int .i64 q, .int .i64 t, .int .i64 z, .int .i64 m]] w fun r w' => r = .returned (.tuple #[.string ⟨#[]⟩, .int .i64 400]) ∧ Below w.heap.size w w' := by
  have hB := (Below.refl w.heap.size w).alloc (Nat.le_refl _) (.cells #[.int .i64 q, .int .i64 t, .int .i64 z, .int .i64 m] 66)
  have hX := boxM w (.int .i64 q) (.int .i64 t) (.int .i64 z) (.int .i64 m) 66
  go_enter Try.func85, Try.ntmps85
  go_wp2_with (first | (go_at_call 89; refine (may_rec _ _ _ _ _).mono ?_; rintro e w' ⟨rfl, hb⟩; replace hB := hB.trans (hb.mono hB.size); replace hX := boxB hX hb; clear hb))
  go_ret2
  exact ⟨rfl, hB⟩
/-- lowest.Put where the number may be one. -/
def lowT (X K : Int) : ByteArray := lowS X.toNat K.toNat
theorem lowT_any (X K : Int) (w : World) (h0 : 0 ≤ X) (h1 : 1 ≤ K) (h7 : K ≤ 7) : Calls Try.prog 90 #[.int .i64 X, .int .i64 K] w fun e w' => e = .returned (.string (lowT X K)) ∧ Below w.heap.size w w' := by
  obtain ⟨x, rfl⟩ := Int.eq_ofNat_of_zero_le h0
  obtain ⟨k, rfl⟩ := Int.eq_ofNat_of_zero_le (show 0 ≤ K by omega)
  exact lowPut_any x k w (by omega) (by omega)
theorem size_lowT (X K : Int) : (lowT X K).size ≤ K.toNat := by unfold lowT; rw [size_lowS]; exact Nat.le_refl _
theorem list_lowT (X K : Int) : (lowT X K).data.toList = lowL X.toNat K.toNat := rfl
set_option maxHeartbeats 4000000 in
theorem put_yes (q t z m : Int) (w : World) (h : recMay q t z m = true) : Calls Try.prog 85 #[.agg #[.int .i64 q, .int .i64 t, .int .i64 z, .int .i64 m]] w fun r w' => r = .returned (.tuple #[.string (putS q t z m), .int .i64 0]) ∧ Below w.heap.size w w' := by
  have hB := (Below.refl w.heap.size w).alloc (Nat.le_refl _) (.cells #[.int .i64 q, .int .i64 t, .int .i64 z, .int .i64 m] 66)
  have hX := boxM w (.int .i64 q) (.int .i64 t) (.int .i64 z) (.int .i64 m) 66
  obtain ⟨p1, _, p3, _, p5, _, p7, _⟩ := recMay_parts.1 h
  have p1 : 0 ≤ q := by omega
  have p5 : 0 ≤ z := by omega
  have a1 : (lowT q 4).size ≤ 4 := size_lowT q 4
  have b1 : (lowT t 1).size ≤ 1 := size_lowT t 1
  have c1 : (lowT z 2).size ≤ 2 := size_lowT z 2
  have d1 : (lowT m 4).size ≤ 4 := size_lowT m 4
  have HP : Hid (lowT q 4 ++ lowT t 1 ++ ⟨#[0]⟩ ++ lowT z 2 ++ lowT m 4 ++ ⟨(compL (lowT q 4 ++ lowT t 1 ++ ⟨#[0]⟩ ++ lowT z 2 ++ lowT m 4).data.toList).toArray⟩ = putS q t z m) := by
    apply ba_ext
    rw [list_putS h]
    have e : (lowT q 4 ++ lowT t 1 ++ ⟨#[0]⟩ ++ lowT z 2 ++ lowT m 4).data.toList = headL q.toNat t.toNat z.toNat m.toNat := by
      rw [list_append, list_append, list_append, list_append, list_lowT, list_lowT, list_lowT, list_lowT]
      rfl
    rw [list_append, e]
    rfl
  have hz : (lowT q 4 ++ lowT t 1 ++ ⟨#[0]⟩ ++ lowT z 2 ++ lowT m 4).size ≤ 12 := by
    rw [ByteArray.size_append, ByteArray.size_append, ByteArray.size_append, ByteArray.size_append]
    have : (ByteArray.mk #[0]).size = 1 := rfl
    omega
  have n1 : ¬ 9223372036854775807 < (lowT q 4).size + (lowT t 1).size := by omega
  have n2 : ¬ 9223372036854775807 < (lowT q 4).size + (lowT t 1).size + 1 := by omega
  have n3 : ¬ 9223372036854775807 < (lowT q 4).size + (lowT t 1).size + 1 + (lowT z 2).size := by omega
  have n4 : ¬ 9223372036854775807 < (lowT q 4).size + (lowT t 1).size + 1 + (lowT z 2).size + (lowT m 4).size := by omega
  go_enter Try.func85, Try.ntmps85
  go_wp2_with (first | (go_at_call 89; refine (may_rec _ _ _ _ _).mono ?_; rintro e w' ⟨rfl, hb⟩; replace hB := hB.trans (hb.mono hB.size); replace hX := boxB hX hb; clear hb))
  go_region_held3 (fun W => W.cell? ⟨w.heap.size, 0, none⟩ = some (.int .i64 q) ∧ W.cell? ⟨w.heap.size, 1, none⟩ = some (.int .i64 t) ∧ W.cell? ⟨w.heap.size, 2, none⟩ = some (.int .i64 z) ∧ W.cell? ⟨w.heap.size, 3, none⟩ = some (.int .i64 m)) (go_keep) ((go_at_call 90; refine (lowT_any _ _ _ (by assumption) (by decide) (by decide)).mono ?_; rintro e w' ⟨rfl, hb⟩; replace hB := thenD hb hB rfl rfl rfl rfl; replace hX := boxD hb hX; clear hb))
  generalize hT : lowT q 4 ++ lowT t 1 ++ ⟨#[0]⟩ ++ lowT z 2 ++ lowT m 4 = T at *
  clear hT
  have n5 : ¬ 9223372036854775807 < T.size + (compL T.data.toList).length := by rw [length_compL, Nor.size_list]; omega
  go_wp2_with (go_at_call 91; refine (comp_any _ _ (by omega)).mono ?_; rintro e w' ⟨rfl, hb⟩; replace hB := hB.trans (hb.mono hB.size); clear hb)
  go_ret2
  exact ⟨ret_text HP.out rfl, hB⟩
theorem put_any (q t z m : Int) (w : World) : Calls Try.prog 85 #[.agg #[.int .i64 q, .int .i64 t, .int .i64 z, .int .i64 m]] w fun r w' => r = .returned (.tuple #[.string (putS q t z m), .int .i64 (errE (recMay q t z m))]) ∧ Below w.heap.size w w' := by
  cases h : recMay q t z m with
  | false => rw [putS_no h]; exact put_no q t z m w h
  | true => exact put_yes q t z m w h

/-- A text's number. -/
def numS (s : ByteArray) : Int := ((ofL s.data.toList : Nat) : Int)
theorem num_low (s : ByteArray) (w : World) (h : s.size ≤ 7) : Calls Try.prog 84 #[.string s] w fun e w' => e = .returned (.int .i64 (numS s)) ∧ w' = w := lowGet_any s w h
theorem ext_le (s : ByteArray) (a b : Nat) (h : b - a ≤ 7) : (s.extract a b).size ≤ 7 := by rw [ByteArray.size_extract]; omega
theorem num_fields (s : ByteArray) : numS (s.extract 0 4) = (fq s.data.toList : Int) ∧ numS (s.extract 4 5) = (ft s.data.toList : Int) ∧ numS (s.extract 6 8) = (fz s.data.toList : Int) ∧ numS (s.extract 8 12) = (fm s.data.toList : Int) := by
  unfold numS fq ft fz fm
  rw [list_extract, list_extract, list_extract, list_extract]
  exact ⟨rfl, rfl, rfl, rfl⟩
/-- A text of 24 bytes: no record's numbers; numbers of one, but other bytes; one. -/
theorem getOk_c {s : ByteArray} (h1 : s.size = 24) : (recMay (numS (s.extract 0 4)) (numS (s.extract 4 5)) (numS (s.extract 6 8)) (numS (s.extract 8 12)) = false ∧ getOk s = false) ∨ (recMay (numS (s.extract 0 4)) (numS (s.extract 4 5)) (numS (s.extract 6 8)) (numS (s.extract 8 12)) = true ∧ ¬ putS (numS (s.extract 0 4)) (numS (s.extract 4 5)) (numS (s.extract 6 8)) (numS (s.extract 8 12)) = s ∧ getOk s = false) ∨ (recMay (numS (s.extract 0 4)) (numS (s.extract 4 5)) (numS (s.extract 6 8)) (numS (s.extract 8 12)) = true ∧ putS (numS (s.extract 0 4)) (numS (s.extract 4 5)) (numS (s.extract 6 8)) (numS (s.extract 8 12)) = s ∧ getOk s = true) := by
  obtain ⟨e1, e2, e3, e4⟩ := num_fields s
  rw [e1, e2, e3, e4]
  cases h2 : recMay (fq s.data.toList) (ft s.data.toList) (fz s.data.toList) (fm s.data.toList) with
  | false =>
    refine .inl ⟨rfl, ?_⟩
    unfold getOk
    exact decide_eq_false (fun h => by rw [h2] at h; exact absurd h.2.1 (by decide))
  | true =>
    by_cases h3 : putS (fq s.data.toList) (ft s.data.toList) (fz s.data.toList) (fm s.data.toList) = s
    · exact .inr (.inr ⟨rfl, h3, getOk_parts.2 ⟨h1, h2, (list_putS h2).symm.trans (congrArg (fun x => x.data.toList) h3)⟩⟩)
    · refine .inr (.inl ⟨rfl, h3, ?_⟩)
      unfold getOk
      refine decide_eq_false (fun h => h3 (ba_ext ?_))
      rw [list_putS h2]
      exact h.2.2
theorem build_rec (q t z m : Int) (w : World) : (Instr.build 66 #[(0, .int .i64 q), (1, .int .i64 t), (2, .int .i64 z), (3, .int .i64 m)]).run Try.prog w = .ok (.agg #[.int .i64 q, .int .i64 t, .int .i64 z, .int .i64 m]) w := run_build w 66 _ _ (by kernel_rfl)
theorem build_none (w : World) : (Instr.build 66 #[]).run Try.prog w = .ok (.agg #[.int .i64 0, .int .i64 0, .int .i64 0, .int .i64 0]) w := run_build w 66 _ _ (by kernel_rfl)
/-- A struct of four cells in a block of its own that may be written. -/
theorem resM (w : World) (x y z u : Value) (e : TypeId) : w.heap.size < (w.alloc (.cells #[x, y, z, u] e)).heap.size ∧ (w.alloc (.cells #[x, y, z, u] e)).cell? ⟨w.heap.size, 0, none⟩ = some x ∧ (w.alloc (.cells #[x, y, z, u] e)).cell? ⟨w.heap.size, 1, none⟩ = some y ∧ (w.alloc (.cells #[x, y, z, u] e)).cell? ⟨w.heap.size, 2, none⟩ = some z ∧ (w.alloc (.cells #[x, y, z, u] e)).cell? ⟨w.heap.size, 3, none⟩ = some u ∧ ∀ i, (w.alloc (.cells #[x, y, z, u] e)).frozen? ⟨w.heap.size, i, none⟩ = false := by
  obtain ⟨h1, h2, h3, h4, h5⟩ := boxM w x y z u e
  exact ⟨h1, h2, h3, h4, h5, fun i => World.frozen?_alloc_at _ e _ i rfl⟩
theorem resB {w w' : World} {B : Nat} {x y z u : Value} (h : B < w.heap.size ∧ w.cell? ⟨B, 0, none⟩ = some x ∧ w.cell? ⟨B, 1, none⟩ = some y ∧ w.cell? ⟨B, 2, none⟩ = some z ∧ w.cell? ⟨B, 3, none⟩ = some u ∧ ∀ i, w.frozen? ⟨B, i, none⟩ = false) (hb : Below w.heap.size w w') :
    B < w'.heap.size ∧ w'.cell? ⟨B, 0, none⟩ = some x ∧ w'.cell? ⟨B, 1, none⟩ = some y ∧ w'.cell? ⟨B, 2, none⟩ = some z ∧ w'.cell? ⟨B, 3, none⟩ = some u ∧ ∀ i, w'.frozen? ⟨B, i, none⟩ = false := by
  obtain ⟨h0, h1, h2, h3, h4, h5⟩ := h
  obtain ⟨g0, g1, g2, g3, g4⟩ := boxB ⟨h0, h1, h2, h3, h4⟩ hb
  exact ⟨g0, g1, g2, g3, g4, fun i => by rw [hb.frozen (p := ⟨B, i, none⟩) h0]; exact h5 i⟩
theorem ret_rec {a b c d e a' b' c' d' e' : Int} (h : a = a' ∧ b = b' ∧ c = c' ∧ d = d' ∧ e = e') : Ending.returned (.tuple #[.agg #[.int .i64 a, .int .i64 b, .int .i64 c, .int .i64 d], .int .i64 e]) = .returned (.tuple #[.agg #[.int .i64 a', .int .i64 b', .int .i64 c', .int .i64 d'], .int .i64 e']) := by
  obtain ⟨rfl, rfl, rfl, rfl, rfl⟩ := h
  rfl
theorem zero_rec {s : ByteArray} (h : getOk s = false) : (0 : Int) = gq s ∧ (0 : Int) = gt s ∧ (0 : Int) = gz s ∧ (0 : Int) = gm s ∧ (400 : Int) = errE (getOk s) := by
  obtain ⟨g1, g2, g3, g4⟩ := Ent.get_no h
  exact ⟨g1.symm, g2.symm, g3.symm, g4.symm, (errE_f h).symm⟩
theorem some_rec {s : ByteArray} (h : getOk s = true) : numS (s.extract 0 4) = gq s ∧ numS (s.extract 4 5) = gt s ∧ numS (s.extract 6 8) = gz s ∧ numS (s.extract 8 12) = gm s ∧ (0 : Int) = errE (getOk s) := by
  obtain ⟨g1, g2, g3, g4⟩ := Ent.get_ok h
  obtain ⟨f1, f2, f3, f4⟩ := num_fields s
  exact ⟨f1.trans g1.symm, f2.trans g2.symm, f3.trans g3.symm, f4.trans g4.symm, (errE_t h).symm⟩
set_option maxHeartbeats 4000000 in
theorem get_none (s : ByteArray) (w : World) (h1 : ¬ s.size = 24) : Calls Try.prog 79 #[.string s] w fun r w' => r = .returned (.tuple #[.agg #[.int .i64 0, .int .i64 0, .int .i64 0, .int .i64 0], .int .i64 400]) ∧ Below w.heap.size w w' := by
  have b1 := build_rec
  have b2 := build_none
  go_enter Try.func79, Try.ntmps79
  go_wp2
  exact bodyPost_ret (v := .tuple #[.agg #[.int .i64 0, .int .i64 0, .int .i64 0, .int .i64 0], .int .i64 400]) (by simp [results, Try.results79, go_sem]) rfl ⟨rfl, (Below.refl _ _).alloc (Nat.le_refl _) _⟩
set_option maxHeartbeats 4000000 in
theorem get_24 (s : ByteArray) (w : World) (h1 : s.size = 24) : Calls Try.prog 79 #[.string s] w fun r w' => r = .returned (.tuple #[.agg #[.int .i64 (gq s), .int .i64 (gt s), .int .i64 (gz s), .int .i64 (gm s)], .int .i64 (errE (getOk s))]) ∧ Below w.heap.size w w' := by
  have b1 := build_rec
  have b2 := build_none
  have hc := getOk_c h1
  have HC := hide hc
  clear hc
  have z1 : s.size ≤ 24 := by omega
  have z2 : 24 ≤ s.size := by omega
  have y1 : (4 : Int) ≤ (s.size : Int) := by omega
  have y2 : (5 : Int) ≤ (s.size : Int) := by omega
  have y3 : (8 : Int) ≤ (s.size : Int) := by omega
  have y4 : (12 : Int) ≤ (s.size : Int) := by omega
  clear h1
  have hR := resB (resM w (.int .i64 0) (.int .i64 0) (.int .i64 0) (.int .i64 0) 66) ((Below.refl _ _).alloc (Nat.le_refl _) (.cells #[.int .i64 (numS (s.extract 0 4)), .int .i64 (numS (s.extract 4 5)), .int .i64 (numS (s.extract 6 8)), .int .i64 (numS (s.extract 8 12))] 66))
  have hX := boxM (w.alloc (.cells #[.int .i64 0, .int .i64 0, .int .i64 0, .int .i64 0] 66)) (.int .i64 (numS (s.extract 0 4))) (.int .i64 (numS (s.extract 4 5))) (.int .i64 (numS (s.extract 6 8))) (.int .i64 (numS (s.extract 8 12))) 66
  have hB := ((Below.refl w.heap.size w).alloc (Nat.le_refl _) (.cells #[.int .i64 0, .int .i64 0, .int .i64 0, .int .i64 0] 66)).alloc (Nat.le_of_lt (size_alloc1 _ _)) (.cells #[.int .i64 (numS (s.extract 0 4)), .int .i64 (numS (s.extract 4 5)), .int .i64 (numS (s.extract 6 8)), .int .i64 (numS (s.extract 8 12))] 66)
  rw [show (w.alloc (.cells #[.int .i64 0, .int .i64 0, .int .i64 0, .int .i64 0] 66)).heap.size = w.heap.size + 1 from by simp] at hX
  have HB := hide hB
  have HX := hide hX
  have HR := hide hR
  clear hB hX hR
  go_enter Try.func79, Try.ntmps79
  go_wp2
  go_region_held3 (fun _ => True) (trivial) ((go_at_call 84; refine (num_low _ _ (by exact ext_le _ _ _ (by omega))).mono ?_; rintro e w' ⟨rfl, rfl⟩))
  all_goals
    have hB := HB.out.drew
    have hX := boxB HX.out (Below.refl _ _).drew
    have hR := resB HR.out (Below.refl _ _).drew
    clear HB HX HR
    generalize (World.alloc _ (.cells #[.int .i64 (numS (s.extract 0 4)), .int .i64 (numS (s.extract 4 5)), .int .i64 (numS (s.extract 6 8)), .int .i64 (numS (s.extract 8 12))] 66)).drew = W at *
    rcases HC.out with ⟨h2, h3⟩ | ⟨h2, h3, h4⟩ | ⟨h2, h3, h4⟩
    · have e0 : errE false = 400 := rfl
      have HZ := hide (zero_rec h3)
      clear h3
      go_wp2_with (go_at_call 85; refine (put_any _ _ _ _ _).mono ?_; rintro e w' ⟨rfl, hb⟩; replace hB := thenB hB hb; replace hX := boxB hX hb; replace hR := resB hR hb; clear hb)
      exact bodyPost_ret (v := .tuple #[.agg #[.int .i64 0, .int .i64 0, .int .i64 0, .int .i64 0], .int .i64 400]) (by simp [results, Try.results79, go_sem, hR]) rfl ⟨ret_rec HZ.out, (((hB.setCell (p := ⟨w.heap.size, 0, none⟩) (Nat.le_refl _) _).setCell (p := ⟨w.heap.size, 1, none⟩) (Nat.le_refl _) _).setCell (p := ⟨w.heap.size, 2, none⟩) (Nat.le_refl _) _).setCell (p := ⟨w.heap.size, 3, none⟩) (Nat.le_refl _) _⟩
    · have e0 : errE true = 0 := rfl
      have HZ := hide (zero_rec h4)
      have h5 := text_ne h3
      clear h4 h3
      go_wp2_with (go_at_call 85; refine (put_any _ _ _ _ _).mono ?_; rintro e w' ⟨rfl, hb⟩; replace hB := thenB hB hb; replace hX := boxB hX hb; replace hR := resB hR hb; clear hb)
      exact bodyPost_ret (v := .tuple #[.agg #[.int .i64 0, .int .i64 0, .int .i64 0, .int .i64 0], .int .i64 400]) (by simp [results, Try.results79, go_sem, hR]) rfl ⟨ret_rec HZ.out, (((hB.setCell (p := ⟨w.heap.size, 0, none⟩) (Nat.le_refl _) _).setCell (p := ⟨w.heap.size, 1, none⟩) (Nat.le_refl _) _).setCell (p := ⟨w.heap.size, 2, none⟩) (Nat.le_refl _) _).setCell (p := ⟨w.heap.size, 3, none⟩) (Nat.le_refl _) _⟩
    · have e0 : errE true = 0 := rfl
      have HZ := hide (some_rec h4)
      clear h4
      go_wp2_with (go_at_call 85; refine (put_any _ _ _ _ _).mono ?_; rintro e w' ⟨rfl, hb⟩; replace hB := thenB hB hb; replace hX := boxB hX hb; replace hR := resB hR hb; clear hb)
      exact bodyPost_ret (v := .tuple #[.agg #[.int .i64 (numS (s.extract 0 4)), .int .i64 (numS (s.extract 4 5)), .int .i64 (numS (s.extract 6 8)), .int .i64 (numS (s.extract 8 12))], .int .i64 0]) (by simp [results, Try.results79, go_sem, hR]) rfl ⟨ret_rec HZ.out, (((hB.setCell (p := ⟨w.heap.size, 0, none⟩) (Nat.le_refl _) _).setCell (p := ⟨w.heap.size, 1, none⟩) (Nat.le_refl _) _).setCell (p := ⟨w.heap.size, 2, none⟩) (Nat.le_refl _) _).setCell (p := ⟨w.heap.size, 3, none⟩) (Nat.le_refl _) _⟩
theorem get_any (s : ByteArray) (w : World) : Calls Try.prog 79 #[.string s] w fun r w' => r = .returned (.tuple #[.agg #[.int .i64 (gq s), .int .i64 (gt s), .int .i64 (gz s), .int .i64 (gm s)], .int .i64 (errE (getOk s))]) ∧ Below w.heap.size w w' := by
  by_cases h : s.size = 24
  · exact get_24 s w h
  · have h2 : getOk s = false := by unfold getOk; exact decide_eq_false (fun g => h g.1)
    obtain ⟨g1, g2, g3, g4⟩ := Ent.get_no h2
    rw [g1, g2, g3, g4, h2]
    exact get_none s w h
end Go.Proofs.Ythpoefaipmcceaa.EntWalk
