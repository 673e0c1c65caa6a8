/- The contracts of an error's number and of 'awake' of the laws over package entry, which asks what is known of one record: it answers true. -/
import Derived.Test.YtadbfaamkohghaaEntWalk
import Derived.Laws.StructEq
namespace Go.Proofs.Ytadbfaamkohghaa.EntAwake
open Go.Proofs.Ytadbfaamkohghaa Go.RowKit Go.Proofs.Ytadbfaamkohghaa.Bytes Go.Proofs.Ytadbfaamkohghaa.NorWalk Go.Proofs.Ytadbfaamkohghaa.Ent Go.Proofs.Ytadbfaamkohghaa.EntRow Go.Proofs.Ytadbfaamkohghaa.EntLow Go.Proofs.Ytadbfaamkohghaa.EntWalk

theorem num_any (n : Int) (w : World) : Calls Try.prog 13 #[.int .i64 n] w fun e w' => e = .returned (.int .i64 n) ∧ w' = w := by
  go_enter Try.func13, Try.ntmps13
  go_wp2
  go_ret
  exact ⟨rfl, rfl⟩
def told : ByteArray := ⟨#[2, 1, 0, 0, 1, 0, 32, 1, 4, 3, 2, 1, 253, 254, 255, 255, 254, 255, 223, 254, 251, 252, 253, 254]⟩
theorem okR : recMay 258 1 288 16909060 = true := by decide
theorem noR : recMay 0 0 0 0 = false := by decide
theorem isR : putS 258 1 288 16909060 = told := by
  rw [putS_ok okR]
  decide +kernel
theorem put_known (w : World) : Calls Try.prog 9 #[.agg #[.int .i64 258, .int .i64 1, .int .i64 288, .int .i64 16909060]] w fun r w' => r = .returned (.tuple #[.string told, .int .i64 0]) ∧ Below w.heap.size w w' := by
  have h := put_any 258 1 288 16909060 w
  rw [isR, okR] at h
  exact h
theorem get_known (w : World) : Calls Try.prog 11 #[.string told] w fun r w' => r = .returned (.tuple #[.agg #[.int .i64 258, .int .i64 1, .int .i64 288, .int .i64 16909060], .int .i64 0]) ∧ Below w.heap.size w w' := by
  obtain ⟨g0, g1, g2, g3, g4⟩ := get_put okR
  rw [isR] at g0 g1 g2 g3 g4
  have h := get_any told w
  rw [g0, g1, g2, g3, g4] at h
  exact h
theorem put_zero (w : World) : Calls Try.prog 9 #[.agg #[.int .i64 0, .int .i64 0, .int .i64 0, .int .i64 0]] w fun r w' => r = .returned (.tuple #[.string ⟨#[]⟩, .int .i64 400]) ∧ Below w.heap.size w w' := put_no 0 0 0 0 w noR
theorem get_empty (w : World) : Calls Try.prog 11 #[.string ⟨#[]⟩] w fun r w' => r = .returned (.tuple #[.agg #[.int .i64 0, .int .i64 0, .int .i64 0, .int .i64 0], .int .i64 400]) ∧ Below w.heap.size w w' := EntWalk.get_none ⟨#[]⟩ w (by decide)

set_option maxHeartbeats 1000000 in
theorem awake_any (w : World) : Calls Try.prog 14 #[] w fun e w' => e = .returned (.bool true) ∧ Below w.heap.size w w' := by
  have b1 := build_rec
  have b2 := build_none
  have hB := (Below.refl w.heap.size w).alloc (Nat.le_refl _) (.cells #[.int .i64 258, .int .i64 1, .int .i64 288, .int .i64 16909060] 23)
  have hX := boxM w (.int .i64 258) (.int .i64 1) (.int .i64 288) (.int .i64 16909060) 23
  go_enter Try.func14, Try.ntmps14
  go_wp2_with fail
  refine (put_known _).mono ?_; rintro e w' ⟨rfl, hb⟩; replace hB := hB.trans (hb.mono hB.size); replace hX := boxB hX hb; clear hb
  go_wp2_with fail
  refine (get_known _).mono ?_; rintro e w' ⟨rfl, hb⟩; replace hB := hB.trans (hb.mono hB.size); replace hX := boxB hX hb; clear hb
  have hY := boxM w' (.int .i64 258) (.int .i64 1) (.int .i64 288) (.int .i64 16909060) 23
  replace hX := boxB hX ((Below.refl _ _).alloc (Nat.le_refl _) (.cells #[.int .i64 258, .int .i64 1, .int .i64 288, .int .i64 16909060] 23))
  replace hB := hB.alloc hB.size (.cells #[.int .i64 258, .int .i64 1, .int .i64 288, .int .i64 16909060] 23)
  go_wp2_with fail
  generalize w'.alloc (.cells #[.int .i64 258, .int .i64 1, .int .i64 288, .int .i64 16909060] 23) = W at *
  generalize w'.heap.size = G at *
  refine (put_zero _).mono ?_; rintro e w3 ⟨rfl, hb⟩; replace hB := thenB hB hb; replace hX := boxB hX hb; replace hY := boxB hY hb; clear hb
  go_wp2_with fail
  refine (get_empty _).mono ?_; rintro e w4 ⟨rfl, hb⟩; replace hB := thenB hB hb; replace hX := boxB hX hb; replace hY := boxB hY hb; clear hb
  replace hX := boxB hX ((Below.refl _ _).alloc (Nat.le_refl _) (.cells #[.int .i64 0, .int .i64 0, .int .i64 0, .int .i64 0] 23))
  replace hY := boxB hY ((Below.refl _ _).alloc (Nat.le_refl _) (.cells #[.int .i64 0, .int .i64 0, .int .i64 0, .int .i64 0] 23))
  replace hB := hB.alloc hB.size (.cells #[.int .i64 0, .int .i64 0, .int .i64 0, .int .i64 0] 23)
  have ht : told = ⟨#[2, 1, 0, 0, 1, 0, 32, 1, 4, 3, 2, 1, 253, 254, 255, 255, 254, 255, 223, 254, 251, 252, 253, 254]⟩ := rfl
  go_wp2_with (go_at_call 13; refine (num_any _ _).mono ?_; rintro e w' ⟨rfl, rfl⟩)
  go_ret
  exact ⟨rfl, hB⟩
end Go.Proofs.Ytadbfaamkohghaa.EntAwake
