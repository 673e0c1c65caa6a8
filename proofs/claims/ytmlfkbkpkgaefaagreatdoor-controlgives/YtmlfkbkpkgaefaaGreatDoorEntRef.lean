/- The contracts of the document's own answers to package entry: they return what the same plain functions give. -/
import Derived.Test.YtmlfkbkpkgaefaaGreatDoorBagEnt
import Derived.Test.YtmlfkbkpkgaefaaGreatDoorBagNor
namespace Go.Proofs.YtmlfkbkpkgaefaaGreatDoor.EntRef
open Go.Proofs.YtmlfkbkpkgaefaaGreatDoor Go.RowKit Go.Proofs.YtmlfkbkpkgaefaaGreatDoor.Bytes Go.Proofs.YtmlfkbkpkgaefaaGreatDoor.NorWalk Go.Proofs.YtmlfkbkpkgaefaaGreatDoor.NorRef Go.Proofs.YtmlfkbkpkgaefaaGreatDoor.Ent Go.Proofs.YtmlfkbkpkgaefaaGreatDoor.EntRow Go.Proofs.YtmlfkbkpkgaefaaGreatDoor.EntLow Go.Proofs.YtmlfkbkpkgaefaaGreatDoor.EntWalk
attribute [local go_sem ↓] Go.wp_at_zero Go.wp_at_succ

theorem recMay_up (q t z m : Int) : recMay q t z m = (upToB q 1 1048576 && (upToB t 0 1 && (upToB z 1 288 && upToB m 0 4294967295))) := by
  unfold recMay upToB
  rw [Bool.eq_iff_iff]
  simp
  omega
set_option maxRecDepth 100000 in
set_option maxHeartbeats 1000000 in
theorem refRec_any (q t z m : Int) (w : World) : Calls Tryz.prog 75 #[.agg #[.int .i64 q, .int .i64 t, .int .i64 z, .int .i64 m]] w fun r w' => r = .returned (.bool (recMay q t z m)) ∧ Below w.heap.size w w' := by
  rw [recMay_up]
  have hX := boxM w (.int .i64 q) (.int .i64 t) (.int .i64 z) (.int .i64 m) 88
  cases h1 : upToB q 1 1048576 <;> cases h2 : upToB t 0 1 <;> cases h3 : upToB z 1 288 <;> cases h4 : upToB m 0 4294967295
  all_goals
    go_enter Tryz.func75, Tryz.ntmps75
    go_wp2_with (go_at_call 39; refine (upTo_any _ _ _ _).mono ?_; rintro e w' ⟨rfl, rfl⟩)
    go_ret
    exact ⟨rfl, (Below.refl _ _).alloc (Nat.le_refl _) _⟩
set_option maxRecDepth 100000 in
set_option maxHeartbeats 1000000 in
theorem refPut_no (q t z m : Int) (w : World) (h : recMay q t z m = false) : Calls Tryz.prog 71 #[.agg #[.int .i64 q, .int .i64 t, .int .i64 z, .int .i64 m]] w fun r w' => r = .returned (.tuple #[.string ⟨#[]⟩, .int .i64 400]) ∧ Below w.heap.size w w' := by
  have hB := (Below.refl w.heap.size w).alloc (Nat.le_refl _) (.cells #[.int .i64 q, .int .i64 t, .int .i64 z, .int .i64 m] 88)
  have hX := boxM w (.int .i64 q) (.int .i64 t) (.int .i64 z) (.int .i64 m) 88
  go_enter Tryz.func71, Tryz.ntmps71
  go_wp2_with (first | (go_at_call 75; refine (refRec_any _ _ _ _ _).mono ?_; rintro e w' ⟨rfl, hb⟩; replace hB := hB.trans (hb.mono hB.size); replace hX := boxB hX hb; clear hb))
  go_ret2
  exact ⟨rfl, hB⟩
theorem refLowT_any (X K : Int) (w : World) (h0 : 0 ≤ X) (h1 : 1 ≤ K) (h7 : K ≤ 7) : Calls Tryz.prog 34 #[.int .i64 X, .int .i64 K] w fun e w' => e = .returned (.string (lowT X K)) ∧ Below w.heap.size w w' := by
  obtain ⟨x, rfl⟩ := Int.eq_ofNat_of_zero_le h0
  obtain ⟨k, rfl⟩ := Int.eq_ofNat_of_zero_le (show 0 ≤ K by omega)
  exact refLow_any x k w (by omega)
theorem sub_cell (b : UInt8) : (#[Value.int .u8 ((255 - (b.toNat : Int)) % 256)] : Array Value)[0]? = some (.int .u8 ((~~~b).toNat : Int)) := by
  have h0 : ∀ n : Fin 256, 255 - n.val = (~~~(UInt8.ofNat n.val)).toNat := by decide +kernel
  have := h0 ⟨b.toNat, b.toNat_lt⟩
  simp only [UInt8.ofNat_toNat] at this
  have hb := b.toNat_lt
  have e : (255 - (b.toNat : Int)) % 256 = ((~~~b).toNat : Int) := by omega
  rw [e]
  rfl
/-- The first half, and so much of the second. -/
theorem half_get (H : List UInt8) (j : Nat) (h : j < H.length) (h' : j < (H ++ (compL H).take j).length) : (H ++ (compL H).take j)[j] = H[j] := by rw [List.getElem_append_left h]
theorem half_succ (H : List UInt8) (j : Nat) (h : j < H.length) : H ++ (compL H).take (j + 1) = H ++ (compL H).take j ++ [~~~H[j]] := by
  rw [List.take_succ_eq_append_getElem (by rw [length_compL]; exact h), List.append_assoc]
  congr 2
  simp [compL]
set_option maxRecDepth 100000 in
set_option maxHeartbeats 4000000 in
theorem refPut_yes (q t z m : Int) (w : World) (h : recMay q t z m = true) : Calls Tryz.prog 71 #[.agg #[.int .i64 q, .int .i64 t, .int .i64 z, .int .i64 m]] w fun r w' => r = .returned (.tuple #[.string (putS q t z m), .int .i64 0]) ∧ Below w.heap.size w w' := by
  have hB := (Below.refl w.heap.size w).alloc (Nat.le_refl _) (.cells #[.int .i64 q, .int .i64 t, .int .i64 z, .int .i64 m] 88)
  have hX := boxM w (.int .i64 q) (.int .i64 t) (.int .i64 z) (.int .i64 m) 88
  obtain ⟨p1, _, p3, _, p5, _, p7, _⟩ := recMay_parts.1 h
  have p1 : 0 ≤ q := by omega
  have p5 : 0 ≤ z := by omega
  have p0 : (0 : Int) ≤ 0 := by omega
  have a1 : (lowT q 4).size ≤ 4 := size_lowT q 4
  have b1 : (lowT t 1).size ≤ 1 := size_lowT t 1
  have o1 : (lowT 0 1).size ≤ 1 := size_lowT 0 1
  have c1 : (lowT z 2).size ≤ 2 := size_lowT z 2
  have d1 : (lowT m 4).size ≤ 4 := size_lowT m 4
  have e : (lowT q 4 ++ lowT t 1 ++ lowT 0 1 ++ lowT z 2 ++ lowT m 4).data.toList = headL q.toNat t.toNat z.toNat m.toNat := by
    rw [list_append, list_append, list_append, list_append, list_lowT, list_lowT, list_lowT, list_lowT, list_lowT]
    rfl
  have HP : Hid ((lowT q 4 ++ lowT t 1 ++ lowT 0 1 ++ lowT z 2 ++ lowT m 4).data.toList.length = 12 ∧ ByteArray.mk ((lowT q 4 ++ lowT t 1 ++ lowT 0 1 ++ lowT z 2 ++ lowT m 4).data.toList ++ compL (lowT q 4 ++ lowT t 1 ++ lowT 0 1 ++ lowT z 2 ++ lowT m 4).data.toList).toArray = putS q t z m) := by
    rw [e, putS_ok h]
    exact ⟨length_headL _ _ _ _, rfl⟩
  clear e
  have n1 : ¬ 9223372036854775807 < (lowT q 4).size + (lowT t 1).size := by omega
  have n2 : ¬ 9223372036854775807 < (lowT q 4).size + (lowT t 1).size + (lowT 0 1).size := by omega
  have n3 : ¬ 9223372036854775807 < (lowT q 4).size + (lowT t 1).size + (lowT 0 1).size + (lowT z 2).size := by omega
  have n4 : ¬ 9223372036854775807 < (lowT q 4).size + (lowT t 1).size + (lowT 0 1).size + (lowT z 2).size + (lowT m 4).size := by omega
  have hcv := fun w s => run_bytes_of_string (P := Tryz.prog) w 9 49 5 s Tryz.underlying9 Tryz.underlying49 Tryz.underlying5
  go_enter Tryz.func71, Tryz.ntmps71
  go_wp2_with (first | (go_at_call 75; refine (refRec_any _ _ _ _ _).mono ?_; rintro e w' ⟨rfl, hb⟩; replace hB := hB.trans (hb.mono hB.size); replace hX := boxB hX hb; clear hb))
  refine wp_region_held_drew (S := fun W => W.cell? ⟨w.heap.size, 0, none⟩ = some (.int .i64 q) ∧ W.cell? ⟨w.heap.size, 1, none⟩ = some (.int .i64 t) ∧ W.cell? ⟨w.heap.size, 2, none⟩ = some (.int .i64 z) ∧ W.cell? ⟨w.heap.size, 3, none⟩ = some (.int .i64 m)) (by kernel_rfl) (by go_keep) (fun hHeld => ?_)
  refine wpAnyH_take (i := 0) (oi := { dst := some 9, op := Op.fieldAddr 88 (Operand.tmp 1) 0, type := 0, pos := "ref.go:138", after := #[], guard := none }) (v := ?_) rfl (by kernel_rfl) (by kernel_rfl) (by kernel_rfl) (fun _ _ _ h => h) (Or.inl ⟨by rfl, ?_⟩) (by assumption) ?_
  rotate_left
  · (intro w hSw; (try dsimp only at hSw); go_simp; all_goals with_reducible rfl)
  simp only [Act.put, List.setIfInBounds_toArray, List.set_cons_zero, List.set_cons_succ]
  refine wpAnyH_take (i := 3) (oi := { dst := some 12, op := Op.fieldAddr 88 (Operand.tmp 1) 1, type := 0, pos := "ref.go:138", after := #[], guard := none }) (v := ?_) rfl (by kernel_rfl) (by kernel_rfl) (by kernel_rfl) (fun _ _ _ h => h) (Or.inl ⟨by rfl, ?_⟩) (by assumption) ?_
  rotate_left
  · (intro w hSw; (try dsimp only at hSw); go_simp; all_goals with_reducible rfl)
  simp only [Act.put, List.setIfInBounds_toArray, List.set_cons_zero, List.set_cons_succ]
  refine wpAnyH_take (i := 9) (oi := { dst := some 18, op := Op.fieldAddr 88 (Operand.tmp 1) 2, type := 0, pos := "ref.go:138", after := #[], guard := none }) (v := ?_) rfl (by kernel_rfl) (by kernel_rfl) (by kernel_rfl) (fun _ _ _ h => h) (Or.inl ⟨by rfl, ?_⟩) (by assumption) ?_
  rotate_left
  · (intro w hSw; (try dsimp only at hSw); go_simp; all_goals with_reducible rfl)
  simp only [Act.put, List.setIfInBounds_toArray, List.set_cons_zero, List.set_cons_succ]
  refine wpAnyH_take (i := 13) (oi := { dst := some 22, op := Op.fieldAddr 88 (Operand.tmp 1) 3, type := 0, pos := "ref.go:138", after := #[], guard := none }) (v := ?_) rfl (by kernel_rfl) (by kernel_rfl) (by kernel_rfl) (fun _ _ _ h => h) (Or.inl ⟨by rfl, ?_⟩) (by assumption) ?_
  rotate_left
  · (intro w hSw; (try dsimp only at hSw); go_simp; all_goals with_reducible rfl)
  simp only [Act.put, List.setIfInBounds_toArray, List.set_cons_zero, List.set_cons_succ]
  refine wpAnyH_take (i := 1) (oi := { dst := some 10, op := Op.load 3 (Operand.tmp 9), type := 3, pos := "ref.go:138", after := #[{ on := 0, ground := Ground.data }], guard := none }) (v := ?_) rfl (by kernel_rfl) (by kernel_rfl) (by kernel_rfl) (fun _ _ _ h => h) (Or.inl ⟨by rfl, ?_⟩) (by assumption) ?_
  rotate_left
  · (intro w hSw; (try dsimp only at hSw); go_simp; all_goals with_reducible rfl)
  simp only [Act.put, List.setIfInBounds_toArray, List.set_cons_zero, List.set_cons_succ]
  refine wpAnyH_take (i := 4) (oi := { dst := some 13, op := Op.load 3 (Operand.tmp 12), type := 3, pos := "ref.go:138", after := #[{ on := 3, ground := Ground.data }], guard := none }) (v := ?_) rfl (by kernel_rfl) (by kernel_rfl) (by kernel_rfl) (fun _ _ _ h => h) (Or.inl ⟨by rfl, ?_⟩) (by assumption) ?_
  rotate_left
  · (intro w hSw; (try dsimp only at hSw); go_simp; all_goals with_reducible rfl)
  simp only [Act.put, List.setIfInBounds_toArray, List.set_cons_zero, List.set_cons_succ]
  refine wpAnyH_take (i := 10) (oi := { dst := some 19, op := Op.load 3 (Operand.tmp 18), type := 3, pos := "ref.go:138", after := #[{ on := 9, ground := Ground.data }], guard := none }) (v := ?_) rfl (by kernel_rfl) (by kernel_rfl) (by kernel_rfl) (fun _ _ _ h => h) (Or.inl ⟨by rfl, ?_⟩) (by assumption) ?_
  rotate_left
  · (intro w hSw; (try dsimp only at hSw); go_simp; all_goals with_reducible rfl)
  simp only [Act.put, List.setIfInBounds_toArray, List.set_cons_zero, List.set_cons_succ]
  refine wpAnyH_take (i := 14) (oi := { dst := some 23, op := Op.load 3 (Operand.tmp 22), type := 3, pos := "ref.go:138", after := #[{ on := 13, ground := Ground.data }], guard := none }) (v := ?_) rfl (by kernel_rfl) (by kernel_rfl) (by kernel_rfl) (fun _ _ _ h => h) (Or.inl ⟨by rfl, ?_⟩) (by assumption) ?_
  rotate_left
  · (intro w hSw; (try dsimp only at hSw); go_simp; all_goals with_reducible rfl)
  simp only [Act.put, List.setIfInBounds_toArray, List.set_cons_zero, List.set_cons_succ]
  refine wpAnyH_ready (rs := [2]) (by kernel_rfl) (by simp) ?_
  refine AllReadyH.cons (o := { dst := some 11, op := Op.call { callee := Callee.value (Operand.func 34), args := #[Operand.tmp 10, Operand.const (Value.int IntKind.i64 4)], argTypes := #[3, 3] }, type := 9, pos := "ref.go:138", after := #[{ on := 1, ground := Ground.data }], guard := none }) rfl (fun K hK => ?_) AllReadyH.nil
  go_simp
  (go_at_call 34; refine (refLowT_any _ _ _ (by assumption) (by decide) (by decide)).mono ?_; rintro e w' ⟨rfl, hb⟩; replace hB := thenD hb hB rfl rfl rfl rfl; replace hX := boxD hb hX; clear hb)
  refine hK.out _ _ (by go_keep) (fun hHeld => ?_)
  clear hK K
  refine wpAnyH_ready (rs := [5]) (by kernel_rfl) (by simp) ?_
  refine AllReadyH.cons (o := { dst := some 14, op := Op.call { callee := Callee.value (Operand.func 34), args := #[Operand.tmp 13, Operand.const (Value.int IntKind.i64 1)], argTypes := #[3, 3] }, type := 9, pos := "ref.go:138", after := #[{ on := 4, ground := Ground.data }, { on := 2, ground := Ground.chain }], guard := none }) rfl (fun K hK => ?_) AllReadyH.nil
  go_simp
  (go_at_call 34; refine (refLowT_any _ _ _ (by assumption) (by decide) (by decide)).mono ?_; rintro e w' ⟨rfl, hb⟩; replace hB := thenD hb hB rfl rfl rfl rfl; replace hX := boxD hb hX; clear hb)
  refine hK.out _ _ (by go_keep) (fun hHeld => ?_)
  clear hK K
  refine wpAnyH_take (i := 6) (oi := { dst := some 15, op := Op.binOp BinOp.add 9 (Operand.tmp 11) (Operand.tmp 14) 9, type := 9, pos := "ref.go:138", after := #[{ on := 2, ground := Ground.data }, { on := 5, ground := Ground.data }], guard := none }) (v := ?_) rfl (by kernel_rfl) (by kernel_rfl) (by kernel_rfl) (fun _ _ _ h => h) (Or.inl ⟨by rfl, ?_⟩) (by assumption) ?_
  rotate_left
  · (intro w hSw; (try dsimp only at hSw); go_simp; all_goals with_reducible rfl)
  simp only [Act.put, List.setIfInBounds_toArray, List.set_cons_zero, List.set_cons_succ]
  refine wpAnyH_ready (rs := [7]) (by kernel_rfl) (by simp) ?_
  refine AllReadyH.cons (o := { dst := some 16, op := Op.call { callee := Callee.value (Operand.func 34), args := #[Operand.const (Value.int IntKind.i64 0), Operand.const (Value.int IntKind.i64 1)], argTypes := #[3, 3] }, type := 9, pos := "ref.go:138", after := #[{ on := 5, ground := Ground.chain }], guard := none }) rfl (fun K hK => ?_) AllReadyH.nil
  go_simp
  (go_at_call 34; refine (refLowT_any _ _ _ (by assumption) (by decide) (by decide)).mono ?_; rintro e w' ⟨rfl, hb⟩; replace hB := thenD hb hB rfl rfl rfl rfl; replace hX := boxD hb hX; clear hb)
  refine hK.out _ _ (by go_keep) (fun hHeld => ?_)
  clear hK K
  refine wpAnyH_take (i := 8) (oi := { dst := some 17, op := Op.binOp BinOp.add 9 (Operand.tmp 15) (Operand.tmp 16) 9, type := 9, pos := "ref.go:138", after := #[{ on := 6, ground := Ground.data }, { on := 7, ground := Ground.data }], guard := none }) (v := ?_) rfl (by kernel_rfl) (by kernel_rfl) (by kernel_rfl) (fun _ _ _ h => h) (Or.inl ⟨by rfl, ?_⟩) (by assumption) ?_
  rotate_left
  · (intro w hSw; (try dsimp only at hSw); go_simp; all_goals with_reducible rfl)
  simp only [Act.put, List.setIfInBounds_toArray, List.set_cons_zero, List.set_cons_succ]
  refine wpAnyH_ready (rs := [11]) (by kernel_rfl) (by simp) ?_
  refine AllReadyH.cons (o := { dst := some 20, op := Op.call { callee := Callee.value (Operand.func 34), args := #[Operand.tmp 19, Operand.const (Value.int IntKind.i64 2)], argTypes := #[3, 3] }, type := 9, pos := "ref.go:138", after := #[{ on := 10, ground := Ground.data }, { on := 7, ground := Ground.chain }], guard := none }) rfl (fun K hK => ?_) AllReadyH.nil
  go_simp
  (go_at_call 34; refine (refLowT_any _ _ _ (by assumption) (by decide) (by decide)).mono ?_; rintro e w' ⟨rfl, hb⟩; replace hB := thenD hb hB rfl rfl rfl rfl; replace hX := boxD hb hX; clear hb)
  refine hK.out _ _ (by go_keep) (fun hHeld => ?_)
  clear hK K
  refine wpAnyH_take (i := 12) (oi := { dst := some 21, op := Op.binOp BinOp.add 9 (Operand.tmp 17) (Operand.tmp 20) 9, type := 9, pos := "ref.go:138", after := #[{ on := 8, ground := Ground.data }, { on := 11, ground := Ground.data }], guard := none }) (v := ?_) rfl (by kernel_rfl) (by kernel_rfl) (by kernel_rfl) (fun _ _ _ h => h) (Or.inl ⟨by rfl, ?_⟩) (by assumption) ?_
  rotate_left
  · (intro w hSw; (try dsimp only at hSw); go_simp; all_goals with_reducible rfl)
  simp only [Act.put, List.setIfInBounds_toArray, List.set_cons_zero, List.set_cons_succ]
  refine wpAnyH_ready (rs := [15]) (by kernel_rfl) (by simp) ?_
  refine AllReadyH.cons (o := { dst := some 24, op := Op.call { callee := Callee.value (Operand.func 34), args := #[Operand.tmp 23, Operand.const (Value.int IntKind.i64 4)], argTypes := #[3, 3] }, type := 9, pos := "ref.go:138", after := #[{ on := 14, ground := Ground.data }, { on := 11, ground := Ground.chain }], guard := none }) rfl (fun K hK => ?_) AllReadyH.nil
  go_simp
  (go_at_call 34; refine (refLowT_any _ _ _ (by assumption) (by decide) (by decide)).mono ?_; rintro e w' ⟨rfl, hb⟩; replace hB := thenD hb hB rfl rfl rfl rfl; replace hX := boxD hb hX; clear hb)
  refine hK.out _ _ (by go_keep) (fun hHeld => ?_)
  clear hK K
  refine wpAnyH_take (i := 16) (oi := { dst := some 25, op := Op.binOp BinOp.add 9 (Operand.tmp 21) (Operand.tmp 24) 9, type := 9, pos := "ref.go:138", after := #[{ on := 12, ground := Ground.data }, { on := 15, ground := Ground.data }], guard := none }) (v := ?_) rfl (by kernel_rfl) (by kernel_rfl) (by kernel_rfl) (fun _ _ _ h => h) (Or.inl ⟨by rfl, ?_⟩) (by assumption) ?_
  rotate_left
  · (intro w hSw; (try dsimp only at hSw); go_simp; all_goals with_reducible rfl)
  simp only [Act.put, List.setIfInBounds_toArray, List.set_cons_zero, List.set_cons_succ]
  refine wpAnyH_ready (rs := [17]) (by kernel_rfl) (by simp) ?_
  refine AllReadyH.cons (o := { dst := some 26, op := Op.convert 9 49 (Operand.tmp 25), type := 49, pos := "ref.go:138", after := #[{ on := 16, ground := Ground.data }], guard := none }) rfl (fun K hK => ?_) AllReadyH.nil
  go_simp
  refine hK.out _ _ (by go_keep) (fun hHeld => ?_)
  clear hK K
  refine wpAnyH_take (i := 18) (oi := { dst := some 4, op := Op.assign (Operand.tmp 26), type := 49, pos := "ref.go:138", after := #[{ on := 17, ground := Ground.data }, { on := 15, ground := Ground.chain }, { on := 0, ground := Ground.phase }, { on := 1, ground := Ground.phase }, { on := 2, ground := Ground.phase }, { on := 3, ground := Ground.phase }, { on := 4, ground := Ground.phase }, { on := 5, ground := Ground.phase }, { on := 6, ground := Ground.phase }, { on := 7, ground := Ground.phase }, { on := 8, ground := Ground.phase }, { on := 9, ground := Ground.phase }, { on := 10, ground := Ground.phase }, { on := 11, ground := Ground.phase }, { on := 12, ground := Ground.phase }, { on := 13, ground := Ground.phase }, { on := 14, ground := Ground.phase }, { on := 15, ground := Ground.phase }, { on := 16, ground := Ground.phase }, { on := 17, ground := Ground.phase }], guard := none }) (v := ?_) rfl (by kernel_rfl) (by kernel_rfl) (by kernel_rfl) (fun _ _ _ h => h) (Or.inl ⟨by rfl, ?_⟩) (by assumption) ?_
  rotate_left
  · (intro w hSw; (try dsimp only at hSw); go_simp; all_goals with_reducible rfl)
  simp only [Act.put, List.setIfInBounds_toArray, List.set_cons_zero, List.set_cons_succ]
  refine wpAnyH_done (by kernel_rfl) ?_ _
  have hsz : (lowT q 4).size + (lowT t 1).size + (lowT 0 1).size + (lowT z 2).size + (lowT m 4).size = (lowT q 4 ++ lowT t 1 ++ lowT 0 1 ++ lowT z 2 ++ lowT m 4).size := by rw [ByteArray.size_append, ByteArray.size_append, ByteArray.size_append, ByteArray.size_append]
  rw [hsz]
  clear hsz hHeld n1 n2 n3 n4 a1 b1 o1 c1 d1 hcv hX
  generalize lowT q 4 ++ lowT t 1 ++ lowT 0 1 ++ lowT z 2 ++ lowT m 4 = T at *
  obtain ⟨h12, hput⟩ := HP.out
  have HT : Hid (T.data.toList.length = 12 ∧ ByteArray.mk (T.data.toList ++ compL T.data.toList).toArray = putS q t z m) := ⟨h12, hput⟩
  have hT : T.size = 12 := by rw [← Nor.size_list]; exact h12
  have hge := grownCap_ge w' T.size 0 5
  have hle : grownCap w' T.size 0 5 ≤ maxLen := grownCap_le_maxLen w' T.size 0 5 (by rw [hT]; simp only [maxLen]; omega)
  have hstart := (buf_of_string w' w.heap.size 5 T (grownCap w' T.size 0 5) hB.size hge hle).below (Below.refl _ _).drew
  have hB2 : Below w.heap.size w (w'.alloc (.cells (bytesRow T (grownCap w' T.size 0 5)) 5 ((bytesRow T (grownCap w' T.size 0 5)).size, (bytesRow T (grownCap w' T.size 0 5)).size + 1))).drew := (hB.alloc hB.size _).drew
  clear hge hle h12 hput HP hB
  generalize (w'.alloc (.cells (bytesRow T (grownCap w' T.size 0 5)) 5 ((bytesRow T (grownCap w' T.size 0 5)).size, (bytesRow T (grownCap w' T.size 0 5)).size + 1))).drew = W at *
  generalize grownCap w' T.size 0 5 = cap0 at *
  generalize w'.heap.size = g0 at *
  have hs0 : T.size = T.data.toList.length := (Nor.size_list T).symm
  rw [hs0]
  clear hs0 hT
  obtain ⟨i, hi, hz0, hz1, hz2⟩ := info_parts EntLow.info_u8
  generalize T.data.toList = H at *
  go_wp2
  go_loopw [4, 5] (fun v y wr => ∃ j : Nat, j ≤ 12 ∧ y = .int .i64 j ∧ Below w.heap.size w wr ∧ Buf wr w.heap.size v (H ++ (compL H).take j)) (fun _ y _ => 12 - (intOf y).toNat)
  case atStart => exact ⟨0, by omega, rfl, hB2, by rw [List.take_zero, List.append_nil]; exact .inr ⟨_, _, rfl, hstart⟩⟩
  case round =>
    clear hstart hB2
    obtain ⟨j, hj, rfl, hbel, hbuf⟩ := hrel
    obtain ⟨hH, hput⟩ := HT.out
    rcases hbuf with ⟨_, h0⟩ | ⟨g, cap, rfl, hb1⟩
    · have := congrArg List.length h0
      rw [List.length_append, List.length_nil] at this
      omega
    by_cases hlt : j < 12
    · have hl : (H ++ (compL H).take j).length = 12 + j := by rw [List.length_append, List.length_take, length_compL]; omega
      have hl1 : j < (H ++ (compL H).take j).length := by omega
      have hl2 : (H ++ (compL H).take j).length ≤ 24 := by omega
      have hc := hb1.row.cell j hl1
      rw [half_get H j (by omega)] at hc
      have HS := hide (half_succ H j (by omega))
      generalize H[j] = c at *
      have s1 := hbel.size
      clear hl hput hH
      generalize hL : H ++ (compL H).take j = L at *
      clear hL
      go_wp2_with (at_builtin; go_loud (refine wpList_append_buf rfl _ _ _ rfl w.heap.size 5 i Tryz.underlying49 hi hz0 hz1 hz2 _ L rfl (Buf.alloc (.inr ⟨g, cap, rfl, hb1⟩) _) (by simp; omega) wr.heap.size 1 (~~~c) rfl (by rw [World.cell?_alloc_at _ _ _ 0 rfl]; exact sub_cell c) (by omega) ?_; intro g1 cap1 w1 hb2 hg1))
      refine ⟨⟨j + 1, by omega, by go_num, (hbel.alloc s1 _).trans hg1, ?_⟩, by simp [intOf]; omega⟩
      rw [HS.out]
      exact .inr ⟨g1, cap1, by simp, hb2⟩
    · obtain rfl : j = 12 := by omega
      have hl : (compL H).take 12 = compL H := List.take_of_length_le (by rw [length_compL]; omega)
      rw [hl] at hb1
      have hcv := hb1.row.text (P := Tryz.prog) 49 9 5 cap (H ++ compL H).length rfl Tryz.underlying49 Tryz.underlying5 Tryz.underlying9
      rw [hput] at hcv
      rw [hl]
      clear hl hb1 hH
      generalize (H ++ compL H).length = n at *
      go_wp2
      go_ret2
      exact ⟨rfl, hbel⟩
theorem refPut_any (q t z m : Int) (w : World) : Calls Tryz.prog 71 #[.agg #[.int .i64 q, .int .i64 t, .int .i64 z, .int .i64 m]] w fun r w' => r = .returned (.tuple #[.string (putS q t z m), .int .i64 (errE (recMay q t z m))]) ∧ Below w.heap.size w w' := by
  cases h : recMay q t z m with
  | false => rw [putS_no h]; exact refPut_no q t z m w h
  | true => exact refPut_yes q t z m w h
theorem num_of (s : ByteArray) (w : World) (h : s.size ≤ 7) : Calls Tryz.prog 63 #[.string s] w fun e w' => e = .returned (.int .i64 (numS s)) ∧ w' = w := refOf_any s w h
theorem num_one (s : ByteArray) (h : 4 < s.size) : IntKind.i64.wrap (s[4].toNat : Int) = numS (s.extract 4 5) := by
  have hl : 4 < s.data.toList.length := by rw [Nor.size_list]; exact h
  have e1 : s.data.toList[4] = s[4] := by rw [Array.getElem_toList]; rfl
  unfold numS
  rw [list_extract, List.drop_eq_getElem_cons hl, e1]
  have := s[4].toNat_lt
  show _ = ((s[4].toNat + 256 * 0 : Nat) : Int)
  rw [IntKind.wrap_i64]
  omega
set_option maxRecDepth 100000 in
set_option maxHeartbeats 4000000 in
theorem refGet_none (s : ByteArray) (w : World) (h1 : ¬ s.size = 24) : Calls Tryz.prog 93 #[.string s] w fun r w' => r = .returned (.tuple #[.agg #[.int .i64 0, .int .i64 0, .int .i64 0, .int .i64 0], .int .i64 400]) ∧ Below w.heap.size w w' := by
  have b1 := build_rec
  have b2 := build_none
  go_enter Tryz.func93, Tryz.ntmps93
  go_wp2
  exact bodyPost_ret (v := .tuple #[.agg #[.int .i64 0, .int .i64 0, .int .i64 0, .int .i64 0], .int .i64 400]) (by simp [results, Tryz.results93, go_sem]) rfl ⟨rfl, (Below.refl _ _).alloc (Nat.le_refl _) _⟩
set_option maxRecDepth 100000 in
set_option maxHeartbeats 4000000 in
theorem refGet_24 (s : ByteArray) (w : World) (h1 : s.size = 24) : Calls Tryz.prog 93 #[.string s] w fun r w' => r = .returned (.tuple #[.agg #[.int .i64 (gq s), .int .i64 (gt s), .int .i64 (gz s), .int .i64 (gm s)], .int .i64 (errE (getOk s))]) ∧ Below w.heap.size w w' := by
  have b1 := build_rec
  have b2 := build_none
  have hc := getOk_c h1
  have HC := hide hc
  clear hc
  have z1 : s.size ≤ 24 := by omega
  have z2 : 24 ≤ s.size := by omega
  have y1 : (4 : Int) ≤ (s.size : Int) := by omega
  have y2 : (4 : Int) < (s.size : Int) := by omega
  have y5 : 4 < s.size := by omega
  have y6 := num_one s y5
  have y3 : (8 : Int) ≤ (s.size : Int) := by omega
  have y4 : (12 : Int) ≤ (s.size : Int) := by omega
  clear h1
  have hR := resB (resM w (.int .i64 0) (.int .i64 0) (.int .i64 0) (.int .i64 0) 88) ((Below.refl _ _).alloc (Nat.le_refl _) (.cells #[.int .i64 (numS (s.extract 0 4)), .int .i64 (numS (s.extract 4 5)), .int .i64 (numS (s.extract 6 8)), .int .i64 (numS (s.extract 8 12))] 88))
  have hX := boxM (w.alloc (.cells #[.int .i64 0, .int .i64 0, .int .i64 0, .int .i64 0] 88)) (.int .i64 (numS (s.extract 0 4))) (.int .i64 (numS (s.extract 4 5))) (.int .i64 (numS (s.extract 6 8))) (.int .i64 (numS (s.extract 8 12))) 88
  have hB := ((Below.refl w.heap.size w).alloc (Nat.le_refl _) (.cells #[.int .i64 0, .int .i64 0, .int .i64 0, .int .i64 0] 88)).alloc (Nat.le_of_lt (size_alloc1 _ _)) (.cells #[.int .i64 (numS (s.extract 0 4)), .int .i64 (numS (s.extract 4 5)), .int .i64 (numS (s.extract 6 8)), .int .i64 (numS (s.extract 8 12))] 88)
  rw [show (w.alloc (.cells #[.int .i64 0, .int .i64 0, .int .i64 0, .int .i64 0] 88)).heap.size = w.heap.size + 1 from by simp] at hX
  have HB := hide hB
  have HX := hide hX
  have HR := hide hR
  clear hB hX hR
  go_enter Tryz.func93, Tryz.ntmps93
  go_wp2
  go_region_held3 (fun _ => True) (trivial) ((go_at_call 63; refine (num_of _ _ (by exact ext_le _ _ _ (by omega))).mono ?_; rintro e w' ⟨rfl, rfl⟩))
  all_goals
    have hB := HB.out.drew
    have hX := boxB HX.out (Below.refl _ _).drew
    have hR := resB HR.out (Below.refl _ _).drew
    clear HB HX HR
    generalize (World.alloc _ (.cells #[.int .i64 (numS (s.extract 0 4)), .int .i64 (numS (s.extract 4 5)), .int .i64 (numS (s.extract 6 8)), .int .i64 (numS (s.extract 8 12))] 88)).drew = W at *
    rcases HC.out with ⟨h2, h3⟩ | ⟨h2, h3, h4⟩ | ⟨h2, h3, h4⟩
    · have e0 : errE false = 400 := rfl
      have HZ := hide (zero_rec h3)
      clear h3
      go_wp2_with (go_at_call 71; refine (refPut_any _ _ _ _ _).mono ?_; rintro e w' ⟨rfl, hb⟩; replace hB := thenB hB hb; replace hX := boxB hX hb; replace hR := resB hR hb; clear hb)
      exact bodyPost_ret (v := .tuple #[.agg #[.int .i64 0, .int .i64 0, .int .i64 0, .int .i64 0], .int .i64 400]) (by simp [results, Tryz.results93, go_sem, hR]) rfl ⟨ret_rec HZ.out, (((hB.setCell (p := ⟨w.heap.size, 0, none⟩) (Nat.le_refl _) _).setCell (p := ⟨w.heap.size, 1, none⟩) (Nat.le_refl _) _).setCell (p := ⟨w.heap.size, 2, none⟩) (Nat.le_refl _) _).setCell (p := ⟨w.heap.size, 3, none⟩) (Nat.le_refl _) _⟩
    · have e0 : errE true = 0 := rfl
      have HZ := hide (zero_rec h4)
      have h5 := text_ne h3
      clear h4 h3
      go_wp2_with (go_at_call 71; refine (refPut_any _ _ _ _ _).mono ?_; rintro e w' ⟨rfl, hb⟩; replace hB := thenB hB hb; replace hX := boxB hX hb; replace hR := resB hR hb; clear hb)
      exact bodyPost_ret (v := .tuple #[.agg #[.int .i64 0, .int .i64 0, .int .i64 0, .int .i64 0], .int .i64 400]) (by simp [results, Tryz.results93, go_sem, hR]) rfl ⟨ret_rec HZ.out, (((hB.setCell (p := ⟨w.heap.size, 0, none⟩) (Nat.le_refl _) _).setCell (p := ⟨w.heap.size, 1, none⟩) (Nat.le_refl _) _).setCell (p := ⟨w.heap.size, 2, none⟩) (Nat.le_refl _) _).setCell (p := ⟨w.heap.size, 3, none⟩) (Nat.le_refl _) _⟩
    · have e0 : errE true = 0 := rfl
      have HZ := hide (some_rec h4)
      clear h4
      go_wp2_with (go_at_call 71; refine (refPut_any _ _ _ _ _).mono ?_; rintro e w' ⟨rfl, hb⟩; replace hB := thenB hB hb; replace hX := boxB hX hb; replace hR := resB hR hb; clear hb)
      exact bodyPost_ret (v := .tuple #[.agg #[.int .i64 (numS (s.extract 0 4)), .int .i64 (numS (s.extract 4 5)), .int .i64 (numS (s.extract 6 8)), .int .i64 (numS (s.extract 8 12))], .int .i64 0]) (by simp [results, Tryz.results93, go_sem, hR]) rfl ⟨ret_rec HZ.out, (((hB.setCell (p := ⟨w.heap.size, 0, none⟩) (Nat.le_refl _) _).setCell (p := ⟨w.heap.size, 1, none⟩) (Nat.le_refl _) _).setCell (p := ⟨w.heap.size, 2, none⟩) (Nat.le_refl _) _).setCell (p := ⟨w.heap.size, 3, none⟩) (Nat.le_refl _) _⟩
theorem refGet_any (s : ByteArray) (w : World) : Calls Tryz.prog 93 #[.string s] w fun r w' => r = .returned (.tuple #[.agg #[.int .i64 (gq s), .int .i64 (gt s), .int .i64 (gz s), .int .i64 (gm s)], .int .i64 (errE (getOk s))]) ∧ Below w.heap.size w w' := by
  by_cases h : s.size = 24
  · exact refGet_24 s w h
  · have h2 : getOk s = false := by unfold getOk; exact decide_eq_false (fun g => h g.1)
    obtain ⟨g1, g2, g3, g4⟩ := Ent.get_no h2
    rw [g1, g2, g3, g4, h2]
    exact refGet_none s w h
end Go.Proofs.YtmlfkbkpkgaefaaGreatDoor.EntRef
