/- The contracts of package ops: each call returns what the plain functions give, whatever its arguments; of what was there nothing has turned. -/
import Derived.Test.YtebbficaolommaaNorWalk
import Derived.Test.YtebbficaolommaaOpsRow
import Derived.Deep.RegionWith
import Derived.Laws.Closers25
import Derived.Laws.Tables
namespace Go.Proofs.Ytebbficaolommaa.OpsWalk
open Go.Proofs.Ytebbficaolommaa Go.RowKit Go.Proofs.Ytebbficaolommaa.Bytes Go.Proofs.Ytebbficaolommaa.NorWalk Go.Proofs.Ytebbficaolommaa.Ops Go.Proofs.Ytebbficaolommaa.OpsRow

def begB (a n : Int) : Bool := decide (0 ≤ a ∧ a < 768 ∧ a % n = 0)
theorem begins_any (a n : Int) (w : World) (hn : n = 4 ∨ n = 96) : Calls Try.prog 35 #[.int .i64 a, .int .i64 n] w fun e w' => e = .returned (.bool (begB a n)) ∧ w' = w := by
  rcases hn with rfl | rfl
  all_goals
    by_cases h0 : 0 ≤ a
    · by_cases h1 : a < 768
      · go_enter Try.func35, Try.ntmps35
        go_wp2
        go_ret
        exact ⟨ret_bool (by unfold begB; rw [Bool.eq_iff_iff]; simp; omega), rfl⟩
      · go_enter Try.func35, Try.ntmps35
        go_wp2
        go_ret
        exact ⟨ret_bool (by unfold begB; rw [Bool.eq_iff_iff]; simp; omega), rfl⟩
    · go_enter Try.func35, Try.ntmps35
      go_wp2
      go_ret
      exact ⟨ret_bool (by unfold begB; rw [Bool.eq_iff_iff]; simp; omega), rfl⟩
theorem may_begins (e : Bool) (a : Int) (t : ByteArray) : opMay e a t = if e then (begB a 96 && decide (t.size = 0)) else (begB a 4 && decide (t.size = 4)) := by
  unfold opMay begB
  cases e
  · rw [if_neg (by simp), if_neg (by simp), Bool.eq_iff_iff, Bool.and_eq_true, decide_eq_true_iff, decide_eq_true_iff, decide_eq_true_iff, and_assoc, and_assoc]
  · rw [if_pos rfl, if_pos rfl, Bool.eq_iff_iff, Bool.and_eq_true, decide_eq_true_iff, decide_eq_true_iff, decide_eq_true_iff, and_assoc, and_assoc]
theorem size_four (t : ByteArray) : (((t.size : Nat) : Int) == 4) = decide (t.size = 4) := by
  rw [Bool.eq_iff_iff, beq_iff_eq, decide_eq_true_iff]
  omega

set_option maxHeartbeats 400000 in
theorem opMay_any (e : Bool) (a : Int) (t : ByteArray) (w : World) : Calls Try.prog 32 #[.agg #[.bool e, .int .i64 a, .string t]] w fun r w' => r = .returned (.bool (opMay e a t)) ∧ Below w.heap.size w w' := by
  rw [may_begins]
  cases e
  · go_enter Try.func32, Try.ntmps32
    go_wp2_with (go_at_call 35; refine (begins_any _ _ _ (by omega)).mono ?_; rintro e w' ⟨rfl, rfl⟩)
    · go_ret
      exact ⟨ret_bool (size_four t), (Below.refl _ _).alloc (Nat.le_refl _) _⟩
    · go_ret
      exact ⟨rfl, (Below.refl _ _).alloc (Nat.le_refl _) _⟩
  · go_enter Try.func32, Try.ntmps32
    go_wp2_with (go_at_call 35; refine (begins_any _ _ _ (by omega)).mono ?_; rintro e w' ⟨rfl, rfl⟩)
    · go_ret
      exact ⟨ret_bool (decide_eq_emptyBytes t).symm, (Below.refl _ _).alloc (Nat.le_refl _) _⟩
    · go_ret
      exact ⟨rfl, (Below.refl _ _).alloc (Nat.le_refl _) _⟩

theorem cutOk_f {f : ByteArray} {e : Bool} {a : Int} {t : ByteArray} {k : Int} (h : cutOk f e a t k = false) : mayB f = false ∨ mayB f = true ∧ opMay e a t = false ∨ mayB f = true ∧ opMay e a t = true ∧ k < 0 ∨ mayB f = true ∧ opMay e a t = true ∧ ¬ k < 0 ∧ 96 < k := by
  unfold cutOk at h
  unfold mayB
  by_cases h1 : f.size = 768 <;> cases h2 : opMay e a t <;> by_cases h3 : k < 0 <;> by_cases h4 : 96 < k
  all_goals simp [h1, h2, h3, h4] at h ⊢
  all_goals omega
theorem size_alloc1 (w : World) (o : Obj) : w.heap.size < (w.alloc o).heap.size := by simp

theorem info_u8 : (Try.prog.info? 5).map (fun i => (i.zero, i.size, i.bytes)) = some (some (.int .u8 0), 1, 1) := by kernel_rfl
theorem size_u8 : (Try.prog.info? 5).map (·.size) = some 1 := by kernel_rfl
theorem fill_ff (k : Nat) : fillTo (fun _ => 255) k k = List.replicate k 255 := by
  rw [fillTo_full]
  apply List.ext_getElem
  · simp
  · intro i h1 h2
    simp
theorem first_list (l : List UInt8) : l.take 4 ++ List.drop (l.take 4).length (List.replicate 4 (255 : UInt8)) = wordL l 0 := by
  match l with
  | [] => rfl
  | [_] => rfl
  | [_, _] => rfl
  | [_, _, _] => rfl
  | _ :: _ :: _ :: _ :: _ => rfl
theorem below_sizes {w wr : World} (h : Below w.heap.size w wr) : w.heap.size ≤ wr.heap.size := h.size

theorem word_tail (t : ByteArray) (j : Nat) : wordS (t.extract (4 * j) t.size) 0 = wordS t j := by
  unfold wordS
  rw [list_tail]
  unfold wordL
  simp [List.getD_eq_getElem?_getD, List.getElem?_drop]
theorem info_op : (Try.prog.info? 38).map (fun i => (i.zero, i.size, i.bytes)) = some (some (.agg #[.bool false, .int .i64 0, .string ⟨#[]⟩]), 3, 32) := by kernel_rfl
/-- 'api.Op{At: a, Text: t}', 'api.Op{Erase: true}', 'api.Op{Erase: true, At: a}'. -/
theorem build_at (a : Int) (t : ByteArray) (w : World) : (Instr.build 38 #[(1, .int .i64 a), (2, .string t)]).run Try.prog w = .ok (.agg #[.bool false, .int .i64 a, .string t]) w := run_build w 38 _ _ (by kernel_rfl)
theorem build_er (w : World) : (Instr.build 38 #[(0, .bool true)]).run Try.prog w = .ok (.agg #[.bool true, .int .i64 0, .string ⟨#[]⟩]) w := run_build w 38 _ _ (by kernel_rfl)
theorem build_er_at (a : Int) (w : World) : (Instr.build 38 #[(0, .bool true), (1, .int .i64 a)]).run Try.prog w = .ok (.agg #[.bool true, .int .i64 a, .string ⟨#[]⟩]) w := run_build w 38 _ _ (by kernel_rfl)
end Go.Proofs.Ytebbficaolommaa.OpsWalk
