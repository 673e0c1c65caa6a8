/- The contracts of an error's number and of 'awake' of the laws over package suffix, which asks what is known of one file: it answers true. -/
import Derived.Test.YtkjlmkhanicenaaSufWalk
import Derived.Laws.StructEq
namespace Go.Proofs.Ytkjlmkhanicenaa.SufAwake
open Go.Proofs.Ytkjlmkhanicenaa Go.RowKit Go.Proofs.Ytkjlmkhanicenaa.Bytes Go.Proofs.Ytkjlmkhanicenaa.NorWalk Go.Proofs.Ytkjlmkhanicenaa.Ent Go.Proofs.Ytkjlmkhanicenaa.Suf Go.Proofs.Ytkjlmkhanicenaa.SufWalk
open Go.Proofs.Ytkjlmkhanicenaa.OpsRow (boxM boxB boxD thenD)

theorem num_any (n : Int) (w : World) : Calls Try.prog 12 #[.int .i64 n] w fun e w' => e = .returned (.int .i64 n) ∧ w' = w := by
  go_enter Try.func12, Try.ntmps12
  go_wp2
  go_ret
  exact ⟨rfl, rfl⟩
def imageS : ByteArray := ⟨#[105, 109, 97, 103, 101]⟩
theorem ok1 : bldOk imageS 1155 57105 512 = true := by decide
theorem no1 : bldOk ⟨#[]⟩ 1155 57105 512 = false := by decide
def known : ByteArray := fileS imageS 1155 57105 512
theorem known_is : known = ⟨#[105, 109, 97, 103, 101, 0, 2, 17, 223, 131, 4, 0, 1, 85, 70, 68, 16, 253, 249, 253, 164]⟩ := by
  unfold known
  rw [fileS_ok ok1]
  decide +kernel
theorem known_ids : known.extract 5 17 = ⟨#[0, 2, 17, 223, 131, 4, 0, 1, 85, 70, 68, 16]⟩ := by
  rw [known_is]
  decide +kernel
theorem known_size : known.size = 21 := size_fileS ok1
theorem known_turned : errQ (⟨#[106]⟩ ++ known.extract 1 known.size) = 1101 := by
  refine turned_sum (s := known) (k := 0) (b := 106) (parse_build ok1).1 ⟨?_, ?_, ?_⟩ (.inl (by rw [known_size]; decide))
  · rw [known_is]
    decide +kernel
  · rw [Nor.size_list, known_size]
    decide
  · have e : known.data.toList[0]? = some 105 := by rw [known_is]; rfl
    rw [List.getElem?_eq_getElem (by rw [Nor.size_list, known_size]; decide)] at e
    rw [Option.some.inj e]
    decide
theorem c1 (w : World) : Calls Try.prog 8 #[.string ⟨#[105, 109, 97, 103, 101]⟩, .agg #[.int .i64 1155, .int .i64 57105, .int .i64 512]] w fun e w' => e = .returned (.tuple #[.string known, .int .i64 0]) ∧ Below w.heap.size w w' := build_yes imageS 1155 57105 512 w ok1
theorem c2 (w : World) : Calls Try.prog 10 #[.string known] w fun e w' => e = .returned (.tuple #[.string ⟨#[105, 109, 97, 103, 101]⟩, .agg #[.int .i64 1155, .int .i64 57105, .int .i64 512], .int .i64 0]) ∧ Below w.heap.size w w' := by
  obtain ⟨g0, g1, g2, g3, g4⟩ := parse_build ok1
  have h := parse_any known w (by rw [known_size]; decide)
  have g5 := errQ_ok g0
  unfold known at h
  rw [g1, g2, g3, g4, g5] at h
  exact h
theorem c3 (w : World) : Calls Try.prog 8 #[.string ⟨#[]⟩, .agg #[.int .i64 1155, .int .i64 57105, .int .i64 512]] w fun e w' => e = .returned (.tuple #[.string ⟨#[]⟩, .int .i64 1100]) ∧ Below w.heap.size w w' := build_no ⟨#[]⟩ 1155 57105 512 w no1
/-- Parse where it tells an error. -/
theorem parse_err {s : ByteArray} {x : Int} (h : errQ s = x) (hx : ¬ x = 0) (hs : s.size < 9223372036854775808) (w : World) : Calls Try.prog 10 #[.string s] w fun e w' => e = .returned (.tuple #[.string ⟨#[]⟩, .agg #[.int .i64 0, .int .i64 0, .int .i64 0], .int .i64 x]) ∧ Below w.heap.size w w' := by
  have hp : parB s = false := by
    cases hc : parB s with
    | false => rfl
    | true => exact absurd ((errQ_ok hc).symm.trans h) (fun e => hx e.symm)
  obtain ⟨e1, e2, e3, e4⟩ := par_no hp
  have g := parse_any s w hs
  rw [e1, e2, e3, e4, h] at g
  exact g
theorem c4 (w : World) : Calls Try.prog 10 #[.string ⟨#[120]⟩] w fun e w' => e = .returned (.tuple #[.string ⟨#[]⟩, .agg #[.int .i64 0, .int .i64 0, .int .i64 0], .int .i64 1100]) ∧ Below w.heap.size w w' := parse_err (errQ_far (.inl (by decide))) (by decide) (by decide) w
theorem c5 (w : World) : Calls Try.prog 10 #[.string (⟨#[106]⟩ ++ known.extract 1 known.size)] w fun e w' => e = .returned (.tuple #[.string ⟨#[]⟩, .agg #[.int .i64 0, .int .i64 0, .int .i64 0], .int .i64 1101]) ∧ Below w.heap.size w w' := parse_err known_turned (by decide) (by rw [ByteArray.size_append, ByteArray.size_extract, known_size]; decide) w
theorem build_known (w : World) : (Instr.build 23 #[(0, .int .i64 1155), (1, .int .i64 57105), (2, .int .i64 512)]).run Try.prog w = .ok (.agg #[.int .i64 1155, .int .i64 57105, .int .i64 512]) w := run_build w 23 _ _ (by kernel_rfl)

set_option maxRecDepth 100000 in
set_option maxHeartbeats 1000000 in
theorem awake_any (w : World) : Calls Try.prog 13 #[] w fun e w' => e = .returned (.bool true) ∧ Below w.heap.size w w' := by
  have b1 := build_known
  have hB := (Below.refl w.heap.size w).alloc (Nat.le_refl _) (.cells #[.int .i64 1155, .int .i64 57105, .int .i64 512] 23)
  have hX := boxM w (.int .i64 1155) (.int .i64 57105) (.int .i64 512) 23
  have C1 := hide c1
  have C2 := hide c2
  have C5 := hide c5
  have z := known_size
  have z1 : known.size ≤ 21 := by omega
  have z2 : 21 ≤ known.size := by omega
  have n1 : ¬ 9223372036854775807 < 1 + (known.size - 1) := by omega
  have t1 : (known.extract 5 17).toList = [0, 2, 17, 223, 131, 4, 0, 1, 85, 70, 68, 16] := by rw [known_ids, ByteArray.toList_eq]
  have z3 : ((known.size : Int) != 21) = false := by rw [z]; rfl
  clear z
  generalize known = S at *
  go_enter Try.func13, Try.ntmps13
  go_wp2_with fail
  refine (C1.out _).mono ?_; rintro e w' ⟨rfl, hb⟩; replace hB := hB.trans (hb.mono hB.size); replace hX := boxB hX hb; clear hb
  go_wp2_with fail
  refine (C2.out _).mono ?_; rintro e w' ⟨rfl, hb⟩; replace hB := hB.trans (hb.mono hB.size); replace hX := boxB hX hb; clear hb
  have hY := boxM w' (.int .i64 1155) (.int .i64 57105) (.int .i64 512) 23
  replace hX := boxB hX ((Below.refl _ _).alloc (Nat.le_refl _) (.cells #[.int .i64 1155, .int .i64 57105, .int .i64 512] 23))
  replace hB := hB.alloc hB.size (.cells #[.int .i64 1155, .int .i64 57105, .int .i64 512] 23)
  go_wp2_with fail
  generalize w'.alloc (.cells #[.int .i64 1155, .int .i64 57105, .int .i64 512] 23) = W at *
  generalize w'.heap.size = G at *
  refine (c3 _).mono ?_; rintro e w3 ⟨rfl, hb⟩; replace hB := thenB hB hb; replace hX := boxB hX hb; replace hY := boxB hY hb; clear hb
  go_wp2_with fail
  refine (c4 _).mono ?_; rintro e w4 ⟨rfl, hb⟩; replace hB := thenB hB hb; replace hX := boxB hX hb; replace hY := boxB hY hb; clear hb
  replace hX := boxB hX ((Below.refl _ _).alloc (Nat.le_refl _) (.cells #[.int .i64 0, .int .i64 0, .int .i64 0] 23))
  replace hY := boxB hY ((Below.refl _ _).alloc (Nat.le_refl _) (.cells #[.int .i64 0, .int .i64 0, .int .i64 0] 23))
  replace hB := hB.alloc hB.size (.cells #[.int .i64 0, .int .i64 0, .int .i64 0] 23)
  go_wp2_with fail
  generalize w4.alloc (.cells #[.int .i64 0, .int .i64 0, .int .i64 0] 23) = W4 at *
  generalize w4.heap.size = G4 at *
  refine (C5.out _).mono ?_; rintro e w5 ⟨rfl, hb⟩; replace hB := thenB hB hb; replace hX := boxB hX hb; replace hY := boxB hY hb; clear hb
  replace hX := boxB hX ((Below.refl _ _).alloc (Nat.le_refl _) (.cells #[.int .i64 0, .int .i64 0, .int .i64 0] 23))
  replace hY := boxB hY ((Below.refl _ _).alloc (Nat.le_refl _) (.cells #[.int .i64 0, .int .i64 0, .int .i64 0] 23))
  replace hB := hB.alloc hB.size (.cells #[.int .i64 0, .int .i64 0, .int .i64 0] 23)
  go_wp2_with (go_at_call 12; refine (num_any _ _).mono ?_; rintro e w' ⟨rfl, rfl⟩)
  go_ret
  exact ⟨rfl, hB⟩
end Go.Proofs.Ytkjlmkhanicenaa.SufAwake
