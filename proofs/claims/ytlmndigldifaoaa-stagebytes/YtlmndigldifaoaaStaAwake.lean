/- The contract of 'awake' of the laws over package stage, which asks for the steps of slot 1 and for the record of the flash of one record: it answers true. -/
import Derived.Test.YtlmndigldifaoaaHeldCalls
import Derived.Test.YtlmndigldifaoaaStaWalk
import Derived.Deep.RegionHeld3
namespace Go.Proofs.Ytlmndigldifaoaa.StaAwake
open Go.Proofs.Ytlmndigldifaoaa Go.RowKit Go.Proofs.Ytlmndigldifaoaa.Bytes Go.Proofs.Ytlmndigldifaoaa.NorWalk Go.Proofs.Ytlmndigldifaoaa.NorRef Go.Proofs.Ytlmndigldifaoaa.Ent Go.Proofs.Ytlmndigldifaoaa.EntRow Go.Proofs.Ytlmndigldifaoaa.EntWalk Go.Proofs.Ytlmndigldifaoaa.Jou Go.Proofs.Ytlmndigldifaoaa.JouRef Go.Proofs.Ytlmndigldifaoaa.Ops Go.Proofs.Ytlmndigldifaoaa.Act Go.Proofs.Ytlmndigldifaoaa.ActApp Go.Proofs.Ytlmndigldifaoaa.Held Go.Proofs.Ytlmndigldifaoaa.HeldCalls Go.Proofs.Ytlmndigldifaoaa.Sta Go.Proofs.Ytlmndigldifaoaa.StaWalk
attribute [local go_sem ↓] Go.wp_at_zero Go.wp_at_succ

theorem erases_one (w : World) : Calls Try.prog 8 #[.int .i64 1] w fun e w' => ∃ v, e = .returned (.tuple #[v, .int .i64 0]) ∧ w'.ownsRow w.heap.size 53 3 v 3 (OpsRow.flat (erTo 480 3)) ∧ Below w.heap.size w w' := erases_yes 1 480 w (by omega) rfl
theorem erases_two (w : World) : Calls Try.prog 8 #[.int .i64 2] w fun e w' => e = .returned (.tuple #[.slice none 0 0, .int .i64 900]) ∧ w' = w := erases_no 2 w rfl
theorem record_held (w : World) : Calls Try.prog 10 #[.string heldS, .int .i64 0, .int .i64 12] w fun e w' => e = .returned (.tuple #[.agg #[.int .i64 2, .int .i64 0, .int .i64 12, .int .i64 sumAb], .int .i64 0]) ∧ Below w.heap.size w w' := by
  have h := record_any heldS 0 12 w
  obtain ⟨v1, v2, v3, v4, v5⟩ := held_rof
  rw [v1, v2, v3, v4, v5] at h
  exact h
theorem record_zero (f : ByteArray) (t : Int) (w : World) : Calls Try.prog 10 #[.string f, .int .i64 t, .int .i64 0] w fun e w' => e = .returned (.tuple #[.agg #[.int .i64 0, .int .i64 0, .int .i64 0, .int .i64 0], .int .i64 900]) ∧ Below w.heap.size w w' := record_no f t 0 w (by unfold rofOk; exact decide_eq_false (by omega))
theorem crc_ab (w : World) : Calls Try.prog 22 #[.string ⟨#[97, 98, 97, 98, 97, 98, 97, 98, 97, 98, 97, 98]⟩] w fun e w' => e = .returned (.int .i64 sumAb) ∧ w' = w := CrcAwake.ref_any ab w (by decide)
theorem size_alloc1 (w : World) (o : Obj) : w.heap.size < (w.alloc o).heap.size := by simp
theorem three_made (w : World) : OpsRow.IsOps (w.alloc (.cells #[.bool true, .int .i64 480, .string ⟨#[]⟩, .bool true, .int .i64 576, .string ⟨#[]⟩, .bool true, .int .i64 672, .string ⟨#[]⟩] 53)) (.slice (some ⟨w.heap.size, 0, none⟩) 3 3) (erTo 480 3) := by
  refine ⟨_, 3, rfl, .inr ⟨_, rfl, size_alloc1 _ _, ?_, ?_, ?_⟩⟩
  all_goals
    intro i hi
    obtain rfl | rfl | rfl : i = 0 ∨ i = 1 ∨ i = 2 := by rw [length_erTo] at hi; omega
    all_goals
      rw [World.cell?_alloc_at _ _ _ _ rfl]
      rfl
theorem is_drew {w : World} {v : Value} {l : List FOp} (h : OpsRow.IsOps w v l) : OpsRow.IsOps w.drew v l := h.below (Below.refl _ _).drew
theorem resD {w w' : World} {B : Nat} {x y z u : Value} (hb : Below w.heap.size w w') (h : B < w.heap.size ∧ w.cell? ⟨B, 0, none⟩ = some x ∧ w.cell? ⟨B, 1, none⟩ = some y ∧ w.cell? ⟨B, 2, none⟩ = some z ∧ w.cell? ⟨B, 3, none⟩ = some u ∧ ∀ i, w.frozen? ⟨B, i, none⟩ = false) :
    B < w'.heap.size ∧ w'.cell? ⟨B, 0, none⟩ = some x ∧ w'.cell? ⟨B, 1, none⟩ = some y ∧ w'.cell? ⟨B, 2, none⟩ = some z ∧ w'.cell? ⟨B, 3, none⟩ = some u ∧ ∀ i, w'.frozen? ⟨B, i, none⟩ = false := resB h hb
set_option maxRecDepth 100000 in
set_option maxHeartbeats 4000000 in
theorem awake_any (w : World) : Calls Try.prog 15 #[] w fun e w' => e = .returned (.bool true) ∧ Below w.heap.size w w' := by
  have hB : Below w.heap.size w w := Below.refl _ _
  have C1 := hide (fun w => held9_any w)
  have C2 := hide (fun w => erases_one w)
  have C3 := hide (fun w => record_held w)
  have C4 := hide (fun w => erases_two w)
  have C5 := hide (fun w => record_zero heldS 0 w)
  have C6 := hide (fun w => crc_ab w)
  have C7 := hide (fun w => three_made w)
  have HL : Hid ((erTo 480 3).length ≤ 65536) := by show _ ≤ _; rw [length_erTo]; omega
  have b1 := OpsWalk.build_er_at
  generalize sumAb = M at *
  generalize heldS = F at *
  generalize erTo 480 3 = L at *
  go_enter Try.func15, Try.ntmps15
  go_wp2_with fail
  refine (C2.out _).mono ?_; rintro e w1 ⟨v, rfl, ho, hb⟩; replace hB := thenB hB hb; clear hb
  go_wp2_with fail
  refine (C1.out _).mono ?_; rintro e w2 ⟨rfl, hb⟩; replace hB := thenB hB hb; replace ho := OpsRow.owns_below ho hb; clear hb
  go_wp2_with fail
  refine (C3.out _).mono ?_; rintro e w3 ⟨rfl, hb⟩; replace hB := thenB hB hb; replace ho := OpsRow.owns_below ho hb; clear hb
  have hX := resM w3 (.int .i64 2) (.int .i64 0) (.int .i64 12) (.int .i64 M) 29
  replace hB := hB.alloc hB.size (.cells #[.int .i64 2, .int .i64 0, .int .i64 12, .int .i64 M] 29)
  replace ho := ho.alloc (.cells #[.int .i64 2, .int .i64 0, .int .i64 12, .int .i64 M] 29)
  go_wp2_with fail
  generalize w3.alloc (.cells #[.int .i64 2, .int .i64 0, .int .i64 12, .int .i64 M] 29) = W3 at *
  generalize w3.heap.size = B at *
  refine (C4.out _).mono ?_; rintro e w4 ⟨rfl, rfl⟩
  go_wp2_with fail
  refine (C1.out _).mono ?_; rintro e w5 ⟨rfl, hb⟩; replace hB := thenB hB hb; replace ho := OpsRow.owns_below ho hb; replace hX := resD hb hX; clear hb
  go_wp2_with fail
  refine (C5.out _).mono ?_; rintro e w6 ⟨rfl, hb⟩; replace hB := thenB hB hb; replace ho := OpsRow.owns_below ho hb; replace hX := resD hb hX; clear hb
  go_wp2_with fail
  have hal := (Below.refl w6.heap.size w6).alloc (Nat.le_refl _) (.cells #[.int .i64 0, .int .i64 0, .int .i64 0, .int .i64 0] 29)
  replace hB := thenB hB hal
  replace hX := resD hal hX
  replace ho := OpsRow.owns_below ho hal
  clear hal
  generalize w6.alloc (.cells #[.int .i64 0, .int .i64 0, .int .i64 0, .int .i64 0] 29) = W6 at *
  have hal := (Below.refl W6.heap.size W6).alloc (Nat.le_refl _) (.cells #[.bool true, .int .i64 480, .string ⟨#[]⟩, .bool true, .int .i64 576, .string ⟨#[]⟩, .bool true, .int .i64 672, .string ⟨#[]⟩] 53)
  have HO := hide (is_drew ((OpsRow.owns_is ho).below hal))
  have HY := hide (resD hal hX)
  have HB := hide (thenB hB hal)
  have HI := hide (is_drew (C7.out W6))
  clear hal ho C7
  go_region_held3 (fun W => W.cell? ⟨B, 0, none⟩ = some (.int .i64 2) ∧ W.cell? ⟨B, 1, none⟩ = some (.int .i64 0) ∧ W.cell? ⟨B, 2, none⟩ = some (.int .i64 12) ∧ W.cell? ⟨B, 3, none⟩ = some (.int .i64 M)) (go_keep) (first | (go_at_call 13; refine (numJ_any _ _).mono ?_; rintro e w' ⟨rfl, rfl⟩) | (go_at_call 22; refine (C6.out _).mono ?_; rintro e w' ⟨rfl, rfl⟩) | (go_at_call 12; refine (OpsHelp.same_yes _ _ L _ HL.out (by exact HO.out) (by exact HI.out)).mono ?_; rintro e w' ⟨rfl, hb⟩; replace hB := thenD hb HB.out rfl rfl rfl rfl; replace hX := resD hb HY.out; clear hb))
  go_wp2_with fail
  go_ret
  exact ⟨rfl, hB⟩
end Go.Proofs.Ytlmndigldifaoaa.StaAwake
