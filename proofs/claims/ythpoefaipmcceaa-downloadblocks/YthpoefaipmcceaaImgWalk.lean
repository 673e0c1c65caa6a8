/- The contracts of package image: each call returns what the plain functions give, whatever its arguments; of what was there nothing has turned. -/
import Derived.Test.YthpoefaipmcceaaActMath
import Derived.Test.YthpoefaipmcceaaEntWalk
import Derived.Test.YthpoefaipmcceaaCrcSum
import Derived.Test.YthpoefaipmcceaaImgClone
import Derived.BigQuiet
namespace Go.Proofs.Ythpoefaipmcceaa.ImgWalk
open Go.Proofs.Ythpoefaipmcceaa Go.RowKit Go.Proofs.Ythpoefaipmcceaa.Bytes Go.Proofs.Ythpoefaipmcceaa.NorWalk Go.Proofs.Ythpoefaipmcceaa.Ent Go.Proofs.Ythpoefaipmcceaa.EntRow Go.Proofs.Ythpoefaipmcceaa.EntWalk Go.Proofs.Ythpoefaipmcceaa.Jou Go.Proofs.Ythpoefaipmcceaa.Ops Go.Proofs.Ythpoefaipmcceaa.Act Go.Proofs.Ythpoefaipmcceaa.ImgClone

theorem ret_pair {a a' b b' : Int} (h1 : a = a') (h2 : b = b') : Ending.returned (.tuple #[.int .i64 a, .int .i64 b]) = .returned (.tuple #[.int .i64 a', .int .i64 b']) := by rw [h1, h2]
theorem ret_good {a a' : Bool} {b b' : Int} (h1 : a = a') (h2 : b = b') : Ending.returned (.tuple #[.bool a, .int .i64 b]) = .returned (.tuple #[.bool a', .int .i64 b']) := by rw [h1, h2]
set_option maxRecDepth 100000 in
set_option maxHeartbeats 400000 in
theorem base_any (t : Int) (w : World) : Calls Try.prog 61 #[.int .i64 t] w fun e w' => e = .returned (.tuple #[.int .i64 (baseI t), .int .i64 (errI (baseOk t))]) ∧ w' = w := by
  cases h : baseOk t with
  | false =>
    have HB : Hid (baseI t = 0) := by unfold baseI; rw [h]; rfl
    have h1 : t < 0 ∨ (¬ t < 0 ∧ 2 ≤ t) := by
      unfold baseOk at h
      have := of_decide_eq_false h
      omega
    clear h
    rcases h1 with h1 | ⟨h1, h2⟩
    all_goals
      go_enter Try.func61, Try.ntmps61
      go_wp2
      go_ret2
      exact ⟨ret_pair HB.out.symm rfl, rfl⟩
  | true =>
    obtain ⟨h1, h2⟩ := baseOk_parts.1 h
    have HB : Hid (baseI t = 192 + 288 * t) := by show baseI t = _; unfold baseI; rw [if_pos h]
    clear h
    go_enter Try.func61, Try.ntmps61
    go_wp2
    go_ret2
    exact ⟨ret_pair (by rw [HB.out]; omega) rfl, rfl⟩
theorem base_nat (t p : Nat) (w : World) (ht : t ≤ 1) (hp : p = 192 + 288 * t) : Calls Try.prog 61 #[.int .i64 (t : Int)] w fun e w' => e = .returned (.tuple #[.int .i64 (p : Int), .int .i64 0]) ∧ w' = w := by
  have h := base_any (t : Int) w
  have h1 : baseOk (t : Int) = true := baseOk_parts.2 ⟨by omega, by omega⟩
  have h2 : baseI (t : Int) = (p : Int) := by unfold baseI; rw [if_pos h1]; omega
  rw [h1, h2] at h
  exact h
set_option maxRecDepth 100000 in
set_option maxHeartbeats 400000 in
theorem imay_any (q t z m : Int) (w : World) : Calls Try.prog 92 #[.agg #[.int .i64 q, .int .i64 t, .int .i64 z, .int .i64 m]] w fun e w' => e = .returned (.bool (recMay q t z m)) ∧ Below w.heap.size w w' := by
  have hB := (Below.refl w.heap.size w).alloc (Nat.le_refl _) (.cells #[.int .i64 q, .int .i64 t, .int .i64 z, .int .i64 m] 66)
  have hX := boxM w (.int .i64 q) (.int .i64 t) (.int .i64 z) (.int .i64 m) 66
  have e0 : errE true = 0 := rfl
  have e1 : errE false = 400 := rfl
  have CP := hide (fun w => put_any q t z m w)
  generalize putS q t z m = S at *
  cases h : recMay q t z m with
  | false =>
    rw [h] at CP
    clear h
    go_enter Try.func92, Try.ntmps92
    go_wp2_with (go_at_call 85; refine (CP.out _).mono ?_; rintro e w' ⟨rfl, hb⟩; replace hB := hB.trans (hb.mono hB.size); replace hX := boxB hX hb; clear hb)
    go_ret
    exact ⟨rfl, hB⟩
  | true =>
    rw [h] at CP
    clear h
    go_enter Try.func92, Try.ntmps92
    go_wp2_with (go_at_call 85; refine (CP.out _).mono ?_; rintro e w' ⟨rfl, hb⟩; replace hB := hB.trans (hb.mono hB.size); replace hX := boxB hX hb; clear hb)
    go_ret
    exact ⟨rfl, hB⟩
theorem imgOk_c {f : ByteArray} {q t z m : Int} (h : imgOk f q t z m = false) : baseOk t = false ∨ (baseOk t = true ∧ mayB f = false) ∨ (baseOk t = true ∧ mayB f = true ∧ recMay q t z m = false) := by
  unfold imgOk at h
  cases h0 : baseOk t with
  | false => exact .inl rfl
  | true =>
    cases h1 : mayF f with
    | false => exact .inr (.inl ⟨rfl, h1⟩)
    | true => rw [h1, Bool.true_and] at h; exact .inr (.inr ⟨rfl, h1, h⟩)
set_option maxRecDepth 100000 in
set_option maxHeartbeats 1000000 in
theorem of_no (f : ByteArray) (q t z m : Int) (w : World) (h : imgOk f q t z m = false) : Calls Try.prog 86 #[.string f, .agg #[.int .i64 q, .int .i64 t, .int .i64 z, .int .i64 m]] w fun e w' => e = .returned (.tuple #[.string ⟨#[]⟩, .int .i64 600]) ∧ Below w.heap.size w w' := by
  have hB := (Below.refl w.heap.size w).alloc (Nat.le_refl _) (.cells #[.int .i64 q, .int .i64 t, .int .i64 z, .int .i64 m] 66)
  have hX := boxM w (.int .i64 q) (.int .i64 t) (.int .i64 z) (.int .i64 m) 66
  have e0 : errI true = 0 := rfl
  have e1 : errI false = 600 := rfl
  have C0 := hide (fun w => base_any t w)
  have C1 := hide (fun w => may_any f w)
  have C2 := hide (fun w => imay_any q t z m w)
  generalize baseI t = P at *
  rcases imgOk_c h with h1 | ⟨h1, h2⟩ | ⟨h1, h2, h3⟩
  all_goals
    first | rw [h1] at C0 | skip
    first | rw [h2] at C1 | skip
    first | rw [h3] at C2 | skip
    clear h
    go_enter Try.func86, Try.ntmps86
    go_wp2_with (first | (go_at_call 61; refine (C0.out _).mono ?_; rintro e w' ⟨rfl, rfl⟩) | (go_at_call 20; refine (C1.out _).mono ?_; rintro e w' ⟨rfl, rfl⟩) | (go_at_call 92; refine (C2.out _).mono ?_; rintro e w' ⟨rfl, hb⟩; replace hB := hB.trans (hb.mono hB.size); replace hX := boxB hX hb; clear hb))
    go_ret2
    exact ⟨rfl, hB⟩
set_option maxRecDepth 100000 in
set_option maxHeartbeats 1000000 in
theorem of_yes (f : ByteArray) (q : Int) (t z : Nat) (m : Int) (w : World) (h : imgOk f q t z m = true) : Calls Try.prog 86 #[.string f, .agg #[.int .i64 q, .int .i64 (t : Int), .int .i64 (z : Int), .int .i64 m]] w fun e w' => e = .returned (.tuple #[.string (imgS f q t z m), .int .i64 0]) ∧ Below w.heap.size w w' := by
  have hB := (Below.refl w.heap.size w).alloc (Nat.le_refl _) (.cells #[.int .i64 q, .int .i64 (t : Int), .int .i64 (z : Int), .int .i64 m] 66)
  have hX := boxM w (.int .i64 q) (.int .i64 (t : Int)) (.int .i64 (z : Int)) (.int .i64 m) 66
  obtain ⟨hf, hr⟩ := imgOk_parts.1 h
  obtain ⟨_, _, h1, h2, h3, h4, _⟩ := recMay_parts.1 hr
  have hm : mayB f = true := mayF_t hf
  obtain ⟨p, hp⟩ : ∃ p : Nat, p = 192 + 288 * t := ⟨_, rfl⟩
  have hp1 : p + z ≤ f.size := by omega
  have hp2 : f.size ≤ 768 := by omega
  have HX : Hid (imgS f q t z m = f.extract p (p + z)) := by show _ = _; rw [imgS_ok h, hp]; unfold cutI; rw [Int.toNat_natCast, Int.toNat_natCast]
  have C0 := hide (fun w => base_nat t p w (by omega) hp)
  have C1 := hide (fun w => may_any f w)
  have C2 := hide (fun w => imay_any q t z m w)
  have C3 := hide (fun w => clone_any (f.extract p (p + z)) w (by rw [ByteArray.size_extract]; omega))
  rw [hm] at C1
  rw [hr] at C2
  clear h hf hp h1 h2 h3 h4 hm hr
  go_enter Try.func86, Try.ntmps86
  go_wp2_with (first | (go_at_call 61; refine (C0.out _).mono ?_; rintro e w' ⟨rfl, rfl⟩) | (go_at_call 20; refine (C1.out _).mono ?_; rintro e w' ⟨rfl, rfl⟩) | (go_at_call 92; refine (C2.out _).mono ?_; rintro e w' ⟨rfl, hb⟩; replace hB := hB.trans (hb.mono hB.size); replace hX := boxB hX hb; clear hb) | (go_at_call 82; refine (C3.out _).mono ?_; rintro e w' ⟨rfl, hb⟩; replace hB := hB.trans (hb.mono hB.size); replace hX := boxB hX hb; clear hb))
  go_ret2
  exact ⟨ret_text HX.out.symm rfl, hB⟩
theorem of_any (f : ByteArray) (q t z m : Int) (w : World) : Calls Try.prog 86 #[.string f, .agg #[.int .i64 q, .int .i64 t, .int .i64 z, .int .i64 m]] w fun e w' => e = .returned (.tuple #[.string (imgS f q t z m), .int .i64 (errI (imgOk f q t z m))]) ∧ Below w.heap.size w w' := by
  cases h : imgOk f q t z m with
  | false => rw [imgS_no h]; exact of_no f q t z m w h
  | true =>
    obtain ⟨_, hr⟩ := imgOk_parts.1 h
    obtain ⟨_, _, h1, h2, h3, h4, _⟩ := recMay_parts.1 hr
    obtain ⟨a, rfl⟩ := Int.eq_ofNat_of_zero_le h1
    obtain ⟨b, rfl⟩ := Int.eq_ofNat_of_zero_le (show 0 ≤ z by omega)
    exact of_yes f q a b m w h
set_option maxRecDepth 100000 in
set_option maxHeartbeats 400000 in
theorem good_any (f : ByteArray) (q t z m : Int) (w : World) : Calls Try.prog 81 #[.string f, .agg #[.int .i64 q, .int .i64 t, .int .i64 z, .int .i64 m]] w fun e w' => e = .returned (.tuple #[.bool (goodB f q t z m), .int .i64 (errI (imgOk f q t z m))]) ∧ Below w.heap.size w w' := by
  have hB := (Below.refl w.heap.size w).alloc (Nat.le_refl _) (.cells #[.int .i64 q, .int .i64 t, .int .i64 z, .int .i64 m] 66)
  have hX := boxM w (.int .i64 q) (.int .i64 t) (.int .i64 z) (.int .i64 m) 66
  have HI := hide (fun w => of_any f q t z m w)
  have hsz := size_imgS f q t z m
  have HC := hide (fun w => CrcSum.sum_any (imgS f q t z m) w (by omega))
  cases h : imgOk f q t z m with
  | false =>
    have HG : Hid (goodB f q t z m = false) := by unfold goodB; rw [h]; rfl
    rw [h] at HI
    clear h
    generalize imgS f q t z m = S at *
    have e0 : errI false = 600 := rfl
    go_enter Try.func81, Try.ntmps81
    go_wp2_with (go_at_call 86; refine (HI.out _).mono ?_; rintro e w' ⟨rfl, hb⟩; replace hB := hB.trans (hb.mono hB.size); replace hX := boxB hX hb; clear hb)
    go_ret2
    exact ⟨ret_good HG.out.symm rfl, hB⟩
  | true =>
    have HG : Hid (goodB f q t z m = decide (((Crc.sum (imgS f q t z m).data.toList : Nat) : Int) = m)) := by unfold goodB sumI; rw [h, imgS_ok h]; rfl
    rw [h] at HI
    clear h
    generalize imgS f q t z m = S at *
    generalize Crc.sum S.data.toList = C at *
    have e0 : errI true = 0 := rfl
    go_enter Try.func81, Try.ntmps81
    go_wp2_with (go_at_call 86; refine (HI.out _).mono ?_; rintro e w' ⟨rfl, hb⟩; replace hB := hB.trans (hb.mono hB.size); replace hX := boxB hX hb; clear hb)
    go_quiet ((go_at_call 87; exact Calls.quiet_of_same (HC.out _)))
    go_wp2
    go_ret2
    exact ⟨ret_good HG.out.symm rfl, bel_drewN hB _⟩
end Go.Proofs.Ythpoefaipmcceaa.ImgWalk
