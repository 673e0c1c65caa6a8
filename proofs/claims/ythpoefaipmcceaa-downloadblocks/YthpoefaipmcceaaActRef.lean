/- The contracts of the document's own images, the active one, the next number, where the next record goes, a staged image's record. -/
import Derived.Test.YthpoefaipmcceaaActMath
import Derived.Test.YthpoefaipmcceaaJouRef
import Derived.Test.YthpoefaipmcceaaCrcAwake
import Derived.Test.YthpoefaipmcceaaOpsHelp
import Derived.BigQuiet
namespace Go.Proofs.Ythpoefaipmcceaa.ActRef
open Go.Proofs.Ythpoefaipmcceaa Go.RowKit Go.Proofs.Ythpoefaipmcceaa.Bytes Go.Proofs.Ythpoefaipmcceaa.NorWalk Go.Proofs.Ythpoefaipmcceaa.NorRef Go.Proofs.Ythpoefaipmcceaa.Ent Go.Proofs.Ythpoefaipmcceaa.EntRow Go.Proofs.Ythpoefaipmcceaa.EntWalk Go.Proofs.Ythpoefaipmcceaa.EntRef Go.Proofs.Ythpoefaipmcceaa.Jou Go.Proofs.Ythpoefaipmcceaa.JouRow Go.Proofs.Ythpoefaipmcceaa.JouWalk Go.Proofs.Ythpoefaipmcceaa.JouRef Go.Proofs.Ythpoefaipmcceaa.Ops Go.Proofs.Ythpoefaipmcceaa.Act

theorem ret_ii {a a' b b' : Int} (h1 : a = a') (h2 : b = b') : Ending.returned (.tuple #[.int .i64 a, .int .i64 b]) = .returned (.tuple #[.int .i64 a', .int .i64 b']) := by rw [h1, h2]
theorem ret_bi {a a' : Bool} {b b' : Int} (h1 : a = a') (h2 : b = b') : Ending.returned (.tuple #[.bool a, .int .i64 b]) = .returned (.tuple #[.bool a', .int .i64 b']) := by rw [h1, h2]
theorem base_up (t : Int) : upToB t 0 1 = baseOk t := rfl
set_option maxRecDepth 100000 in
set_option maxHeartbeats 400000 in
theorem refBase_any (t : Int) (w : World) : Calls Try.prog 19 #[.int .i64 t] w fun e w' => e = .returned (.tuple #[.int .i64 (baseI t), .int .i64 (errI (baseOk t))]) ∧ w' = w := by
  cases h : baseOk t with
  | false =>
    have hu : upToB t 0 1 = false := h
    have HB : Hid (baseI t = 0) := by unfold baseI; rw [h]; rfl
    clear h
    go_enter Try.func19, Try.ntmps19
    go_wp2_with (first | (go_at_call 36; refine (upTo_any _ _ _ _).mono ?_; rintro e w' ⟨rfl, rfl⟩))
    go_ret2
    exact ⟨ret_ii HB.out.symm rfl, rfl⟩
  | true =>
    have hu : upToB t 0 1 = true := h
    obtain ⟨h1, h2⟩ := baseOk_parts.1 h
    have HB : Hid (baseI t = 192 + 288 * t) := by show baseI t = _; unfold baseI; rw [if_pos h]
    clear h
    go_enter Try.func19, Try.ntmps19
    go_wp2_with (first | (go_at_call 36; refine (upTo_any _ _ _ _).mono ?_; rintro e w' ⟨rfl, rfl⟩))
    go_ret2
    exact ⟨ret_ii (by rw [HB.out]; omega) rfl, rfl⟩
theorem refBase_nat (t p : Nat) (w : World) (ht : t ≤ 1) (hp : p = 192 + 288 * t) : Calls Try.prog 19 #[.int .i64 (t : Int)] w fun e w' => e = .returned (.tuple #[.int .i64 (p : Int), .int .i64 0]) ∧ w' = w := by
  have h := refBase_any (t : Int) w
  have h1 : baseOk (t : Int) = true := baseOk_parts.2 ⟨by omega, by omega⟩
  have h2 : baseI (t : Int) = (p : Int) := by unfold baseI; rw [if_pos h1]; omega
  rw [h1, h2] at h
  exact h
theorem imgOk_f {f : ByteArray} {q t z m : Int} (h : imgOk f q t z m = false) : mayB f = false ∨ mayB f = true ∧ recMay q t z m = false := by
  unfold imgOk at h
  cases h1 : mayF f with
  | false => exact .inl h1
  | true => rw [h1, Bool.true_and] at h; exact .inr ⟨h1, h⟩
set_option maxRecDepth 100000 in
set_option maxHeartbeats 400000 in
theorem refImage_no (f : ByteArray) (q t z m : Int) (w : World) (h : imgOk f q t z m = false) : Calls Try.prog 68 #[.string f, .agg #[.int .i64 q, .int .i64 t, .int .i64 z, .int .i64 m]] w fun e w' => e = .returned (.tuple #[.string ⟨#[]⟩, .int .i64 600]) ∧ Below w.heap.size w w' := by
  have hB := (Below.refl w.heap.size w).alloc (Nat.le_refl _) (.cells #[.int .i64 q, .int .i64 t, .int .i64 z, .int .i64 m] 66)
  have hX := boxM w (.int .i64 q) (.int .i64 t) (.int .i64 z) (.int .i64 m) 66
  rcases imgOk_f h with h1 | ⟨h1, h2⟩
  all_goals
    go_enter Try.func68, Try.ntmps68
    go_wp2_with (first | (go_at_call 46; refine (flashMay_any _ _).mono ?_; rintro e w' ⟨rfl, rfl⟩) | (go_at_call 78; refine (refRec_any _ _ _ _ _).mono ?_; rintro e w' ⟨rfl, hb⟩; replace hB := hB.trans (hb.mono hB.size); replace hX := boxB hX hb; clear hb))
    go_ret2
    exact ⟨rfl, hB⟩
set_option maxRecDepth 100000 in
set_option maxHeartbeats 400000 in
theorem refImage_yes (f : ByteArray) (q : Int) (t z : Nat) (m : Int) (w : World) (h : imgOk f q t z m = true) : Calls Try.prog 68 #[.string f, .agg #[.int .i64 q, .int .i64 (t : Int), .int .i64 (z : Int), .int .i64 m]] w fun e w' => e = .returned (.tuple #[.string (imgS f q t z m), .int .i64 0]) ∧ Below w.heap.size w w' := by
  have hB := (Below.refl w.heap.size w).alloc (Nat.le_refl _) (.cells #[.int .i64 q, .int .i64 (t : Int), .int .i64 (z : Int), .int .i64 m] 66)
  have hX := boxM w (.int .i64 q) (.int .i64 (t : Int)) (.int .i64 (z : Int)) (.int .i64 m) 66
  obtain ⟨hf, hr⟩ := imgOk_parts.1 h
  obtain ⟨_, _, h1, h2, h3, h4, _⟩ := recMay_parts.1 hr
  have hm : mayB f = true := mayF_t hf
  obtain ⟨p, hp⟩ : ∃ p : Nat, p = 192 + 288 * t := ⟨_, rfl⟩
  have hp1 : p + z ≤ f.size := by omega
  have hp2 : f.size ≤ 768 := by omega
  have HX : Hid (imgS f q t z m = f.extract p (p + z)) := by show _ = _; rw [imgS_ok h, hp]; unfold cutI; rw [Int.toNat_natCast, Int.toNat_natCast]
  have HB := hide (fun w => refBase_nat t p w (by omega) hp)
  clear h hf hp h1 h2 h3 h4
  go_enter Try.func68, Try.ntmps68
  go_wp2_with (first | (first | (go_at_call 46; refine (flashMay_any _ _).mono ?_; rintro e w' ⟨rfl, rfl⟩) | (go_at_call 78; refine (refRec_any _ _ _ _ _).mono ?_; rintro e w' ⟨rfl, hb⟩; replace hB := hB.trans (hb.mono hB.size); replace hX := boxB hX hb; clear hb)) | (go_at_call 19; refine (HB.out _).mono ?_; rintro e w' ⟨rfl, rfl⟩))
  go_ret2
  exact ⟨ret_text HX.out.symm rfl, hB⟩
theorem refImage_any (f : ByteArray) (q t z m : Int) (w : World) : Calls Try.prog 68 #[.string f, .agg #[.int .i64 q, .int .i64 t, .int .i64 z, .int .i64 m]] w fun e w' => e = .returned (.tuple #[.string (imgS f q t z m), .int .i64 (errI (imgOk f q t z m))]) ∧ Below w.heap.size w w' := by
  cases h : imgOk f q t z m with
  | false => rw [imgS_no h]; exact refImage_no f q t z m w h
  | true =>
    obtain ⟨_, hr⟩ := imgOk_parts.1 h
    obtain ⟨_, _, h1, h2, h3, h4, _⟩ := recMay_parts.1 hr
    obtain ⟨a, rfl⟩ := Int.eq_ofNat_of_zero_le h1
    obtain ⟨b, rfl⟩ := Int.eq_ofNat_of_zero_le (show 0 ≤ z by omega)
    exact refImage_yes f q a b m w h
set_option maxRecDepth 100000 in
set_option maxHeartbeats 400000 in
theorem refGood_any (f : ByteArray) (q t z m : Int) (w : World) : Calls Try.prog 52 #[.string f, .agg #[.int .i64 q, .int .i64 t, .int .i64 z, .int .i64 m]] w fun e w' => e = .returned (.tuple #[.bool (goodB f q t z m), .int .i64 (errI (imgOk f q t z m))]) ∧ Below w.heap.size w w' := by
  have hB := (Below.refl w.heap.size w).alloc (Nat.le_refl _) (.cells #[.int .i64 q, .int .i64 t, .int .i64 z, .int .i64 m] 66)
  have hX := boxM w (.int .i64 q) (.int .i64 t) (.int .i64 z) (.int .i64 m) 66
  have HI := hide (fun w => refImage_any f q t z m w)
  have hsz := size_imgS f q t z m
  have HC := hide (fun w => CrcAwake.ref_any (imgS f q t z m) w (by omega))
  cases h : imgOk f q t z m with
  | false =>
    have HG : Hid (goodB f q t z m = false) := by unfold goodB; rw [h]; rfl
    rw [h] at HI
    clear h
    generalize imgS f q t z m = S at *
    have e0 : errI false = 600 := rfl
    go_enter Try.func52, Try.ntmps52
    go_wp2_with (go_at_call 68; refine (HI.out _).mono ?_; rintro e w' ⟨rfl, hb⟩; replace hB := hB.trans (hb.mono hB.size); replace hX := boxB hX hb; clear hb)
    go_quiet ((go_at_call 69; exact Calls.quiet_of_same (HC.out _)))
    go_wp2
    go_ret2
    exact ⟨ret_bi HG.out.symm rfl, bel_drewN hB _⟩
  | true =>
    have HG : Hid (goodB f q t z m = decide (((Crc.sum (imgS f q t z m).data.toList : Nat) : Int) = m)) := by unfold goodB sumI; rw [h, imgS_ok h]; rfl
    rw [h] at HI
    clear h
    generalize imgS f q t z m = S at *
    generalize Crc.sum S.data.toList = C at *
    have e0 : errI true = 0 := rfl
    go_enter Try.func52, Try.ntmps52
    go_wp2_with (go_at_call 68; refine (HI.out _).mono ?_; rintro e w' ⟨rfl, hb⟩; replace hB := hB.trans (hb.mono hB.size); replace hX := boxB hX hb; clear hb)
    go_quiet ((go_at_call 69; exact Calls.quiet_of_same (HC.out _)))
    go_wp2
    go_ret2
    exact ⟨ret_bi HG.out.symm rfl, bel_drewN hB _⟩
end Go.Proofs.Ythpoefaipmcceaa.ActRef
