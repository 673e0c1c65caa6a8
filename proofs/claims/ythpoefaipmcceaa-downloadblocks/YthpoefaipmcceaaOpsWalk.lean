/- The contracts of package ops: each call returns what the plain functions give, whatever its arguments; of what was there nothing has turned. -/
import Derived.Test.YthpoefaipmcceaaNorWalk
import Derived.Test.YthpoefaipmcceaaOpsRow
import Derived.Deep.RegionWith
import Derived.Laws.Closers25
import Derived.Laws.Tables
namespace Go.Proofs.Ythpoefaipmcceaa.OpsWalk
open Go.Proofs.Ythpoefaipmcceaa Go.RowKit Go.Proofs.Ythpoefaipmcceaa.Bytes Go.Proofs.Ythpoefaipmcceaa.NorWalk Go.Proofs.Ythpoefaipmcceaa.Ops Go.Proofs.Ythpoefaipmcceaa.OpsRow

def begB (a n : Int) : Bool := decide (0 ≤ a ∧ a < 768 ∧ a % n = 0)
theorem begins_any (a n : Int) (w : World) (hn : n = 4 ∨ n = 96) : Calls Try.prog 71 #[.int .i64 a, .int .i64 n] w fun e w' => e = .returned (.bool (begB a n)) ∧ w' = w := by
  rcases hn with rfl | rfl
  all_goals
    by_cases h0 : 0 ≤ a
    · by_cases h1 : a < 768
      · go_enter Try.func71, Try.ntmps71
        go_wp2
        go_ret
        exact ⟨ret_bool (by unfold begB; rw [Bool.eq_iff_iff]; simp; omega), rfl⟩
      · go_enter Try.func71, Try.ntmps71
        go_wp2
        go_ret
        exact ⟨ret_bool (by unfold begB; rw [Bool.eq_iff_iff]; simp; omega), rfl⟩
    · go_enter Try.func71, Try.ntmps71
      go_wp2
      go_ret
      exact ⟨ret_bool (by unfold begB; rw [Bool.eq_iff_iff]; simp; omega), rfl⟩
theorem may_begins (e : Bool) (a : Int) (t : ByteArray) : opMay e a t = if e then (begB a 96 && decide (t.size = 0)) else (begB a 4 && decide (t.size = 4)) := by
  unfold opMay begB
  cases e
  · rw [if_neg (by simp), if_neg (by simp), Bool.eq_iff_iff, Bool.and_eq_true, decide_eq_true_iff, decide_eq_true_iff, decide_eq_true_iff, and_assoc, and_assoc]
  · rw [if_pos rfl, if_pos rfl, Bool.eq_iff_iff, Bool.and_eq_true, decide_eq_true_iff, decide_eq_true_iff, decide_eq_true_iff, and_assoc, and_assoc]
theorem size_four (t : ByteArray) : (((t.size : Nat) : Int) == 4) = decide (t.size = 4) := by
  rw [Bool.eq_iff_iff, beq_iff_eq, decide_eq_true_iff]
  omega

set_option maxHeartbeats 400000 in
theorem opMay_any (e : Bool) (a : Int) (t : ByteArray) (w : World) : Calls Try.prog 57 #[.agg #[.bool e, .int .i64 a, .string t]] w fun r w' => r = .returned (.bool (opMay e a t)) ∧ Below w.heap.size w w' := by
  rw [may_begins]
  cases e
  · go_enter Try.func57, Try.ntmps57
    go_wp2_with (go_at_call 71; refine (begins_any _ _ _ (by omega)).mono ?_; rintro e w' ⟨rfl, rfl⟩)
    · go_ret
      exact ⟨ret_bool (size_four t), (Below.refl _ _).alloc (Nat.le_refl _) _⟩
    · go_ret
      exact ⟨rfl, (Below.refl _ _).alloc (Nat.le_refl _) _⟩
  · go_enter Try.func57, Try.ntmps57
    go_wp2_with (go_at_call 71; refine (begins_any _ _ _ (by omega)).mono ?_; rintro e w' ⟨rfl, rfl⟩)
    · go_ret
      exact ⟨ret_bool (decide_eq_emptyBytes t).symm, (Below.refl _ _).alloc (Nat.le_refl _) _⟩
    · go_ret
      exact ⟨rfl, (Below.refl _ _).alloc (Nat.le_refl _) _⟩

theorem cutOk_f {f : ByteArray} {e : Bool} {a : Int} {t : ByteArray} {k : Int} (h : cutOk f e a t k = false) : mayB f = false ∨ mayB f = true ∧ opMay e a t = false ∨ mayB f = true ∧ opMay e a t = true ∧ k < 0 ∨ mayB f = true ∧ opMay e a t = true ∧ ¬ k < 0 ∧ 96 < k := by
  unfold cutOk at h
  unfold mayB
  by_cases h1 : f.size = 768 <;> cases h2 : opMay e a t <;> by_cases h3 : k < 0 <;> by_cases h4 : 96 < k
  all_goals simp [h1, h2, h3, h4] at h ⊢
  all_goals omega
theorem size_alloc1 (w : World) (o : Obj) : w.heap.size < (w.alloc o).heap.size := by simp

theorem info_u8 : (Try.prog.info? 5).map (fun i => (i.zero, i.size, i.bytes)) = some (some (.int .u8 0), 1, 1) := by kernel_rfl
theorem size_u8 : (Try.prog.info? 5).map (·.size) = some 1 := by kernel_rfl
theorem fill_ff (k : Nat) : fillTo (fun _ => 255) k k = List.replicate k 255 := by
  rw [fillTo_full]
  apply List.ext_getElem
  · simp
  · intro i h1 h2
    simp
theorem first_list (l : List UInt8) : l.take 4 ++ List.drop (l.take 4).length (List.replicate 4 (255 : UInt8)) = wordL l 0 := by
  match l with
  | [] => rfl
  | [_] => rfl
  | [_, _] => rfl
  | [_, _, _] => rfl
  | _ :: _ :: _ :: _ :: _ => rfl
theorem below_sizes {w wr : World} (h : Below w.heap.size w wr) : w.heap.size ≤ wr.heap.size := h.size

set_option maxHeartbeats 400000 in
theorem first_any (t : ByteArray) (w : World) : Calls Try.prog 74 #[.string t] w fun e w' => e = .returned (.string (wordS t 0)) ∧ Below w.heap.size w w' := by
  have hmk : ∀ w : World, (Instr.makeSlice 39 (.int .i64 4) (.int .i64 4)).run Try.prog w = .ok (.slice (some ⟨w.heap.size, 0, none⟩) 4 4) (w.alloc (.cells (madeBytes 4) 5)) := fun w => run_make_bytes (P := Try.prog) w 39 5 Try.underlying39 info_u8 4 (by omega)
  go_enter Try.func74, Try.ntmps74
  go_wp2
  clear hmk
  go_loopw [8] (fun i wr => ∃ j : Nat, j ≤ 4 ∧ i = .int .i64 j ∧ Below w.heap.size w wr ∧ w.heap.size < wr.heap.size ∧ Row wr w.heap.size (fillTo (fun _ => 255) 4 j)) (fun i _ => 4 - (intOf i).toNat)
  case atStart => exact ⟨0, Nat.zero_le _, rfl, (Below.refl _ _).alloc (Nat.le_refl _) _, by simp, row_made _ _ _⟩
  case round =>
    obtain ⟨j, hj, rfl, hbel, hsz, hrow⟩ := hrel
    have hlen := length_fillTo (fun _ => 255) 4 j
    by_cases hlt : j < 4
    · obtain ⟨x, hc⟩ : ∃ x, wr.cell? ⟨w.heap.size, j, none⟩ = some x := ⟨_, hrow.cell j (by omega)⟩
      have hfr := hrow.free j (by omega)
      have HL : Hid ((fillTo (fun _ => 255) 4 j).length = 4) := hlen
      clear hlen
      go_wp2
      refine ⟨⟨j + 1, by omega, by go_num, hbel.setCell (Nat.le_refl _) _, by simpa using hsz, ?_⟩, by simp [intOf]; omega⟩
      exact hrow.set j 255 (by rw [HL.out]; omega)
    · obtain rfl : j = 4 := by omega
      rw [fill_ff] at hrow
      clear hlen
      have hlen : (List.replicate 4 (255 : UInt8)).length = 4 := by simp
      have hcp := fun ty => run_copy_text (P := Try.prog) hrow 39 9 ty 5 4 4 t hlen.symm Try.underlying39 size_u8
      have hrow2 := Row.setCells hrow (t.data.toList.take 4) (by rw [hlen, List.length_take]; omega)
      rw [first_list] at hrow2
      have hbel2 := below_setCells (Nat.le_refl w.heap.size) (byteCells (t.data.toList.take 4)) 0 wr hbel
      have hcv := hrow2.text (P := Try.prog) 39 9 5 4 4 rfl Try.underlying39 Try.underlying5 Try.underlying9
      generalize wr.setCells w.heap.size 0 (byteCells (t.data.toList.take 4)) = w2 at *
      clear hlen
      go_wp2
      go_ret
      exact ⟨rfl, hbel2⟩
theorem word_tail (t : ByteArray) (j : Nat) : wordS (t.extract (4 * j) t.size) 0 = wordS t j := by
  unfold wordS
  rw [list_tail]
  unfold wordL
  simp [List.getD_eq_getElem?_getD, List.getElem?_drop]
theorem info_op : (Try.prog.info? 44).map (fun i => (i.zero, i.size, i.bytes)) = some (some (.agg #[.bool false, .int .i64 0, .string ⟨#[]⟩]), 3, 32) := by kernel_rfl
/-- 'api.Op{At: a, Text: t}', 'api.Op{Erase: true}', 'api.Op{Erase: true, At: a}'. -/
theorem build_at (a : Int) (t : ByteArray) (w : World) : (Instr.build 44 #[(1, .int .i64 a), (2, .string t)]).run Try.prog w = .ok (.agg #[.bool false, .int .i64 a, .string t]) w := run_build w 44 _ _ (by kernel_rfl)
theorem build_er (w : World) : (Instr.build 44 #[(0, .bool true)]).run Try.prog w = .ok (.agg #[.bool true, .int .i64 0, .string ⟨#[]⟩]) w := run_build w 44 _ _ (by kernel_rfl)
theorem build_er_at (a : Int) (w : World) : (Instr.build 44 #[(0, .bool true), (1, .int .i64 a)]).run Try.prog w = .ok (.agg #[.bool true, .int .i64 a, .string ⟨#[]⟩]) w := run_build w 44 _ _ (by kernel_rfl)
end Go.Proofs.Ythpoefaipmcceaa.OpsWalk
