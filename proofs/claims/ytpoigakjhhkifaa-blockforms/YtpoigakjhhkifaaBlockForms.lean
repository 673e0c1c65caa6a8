/- Whatever the two numbers: the law BlockForms returns true (texts and pieces that are none are refused), and the arguments read as they did; no condition. -/
import Derived.Test.YtpoigakjhhkifaaRows
import Derived.Test.YtpoigakjhhkifaaBloAwake
import Derived.BigQuiet
import Derived.Deep.Cut
import Derived.ChangeOld
import Derived.Below
import Derived.WalkKit
import Derived.ProofKit
import Derived.OpenShut
import Derived.ShutString
namespace Go.Proofs.Ytpoigakjhhkifaa.blockForms
open Go.ChangeShapes Go.WideShapes Go.ChangeAt Go.RowKit
open Go.ChangeMaps (open_string shut_string)
set_option linter.unusedVariables false

open Go.Proofs.Ytpoigakjhhkifaa.Bytes
open Go.Proofs.Ytpoigakjhhkifaa.NorWalk
open Go.Proofs.Ytpoigakjhhkifaa.EntLow
open Go.Proofs.Ytpoigakjhhkifaa.TxtRow
open Go.Proofs.Ytpoigakjhhkifaa.TxtHelp
open Go.Proofs.Ytpoigakjhhkifaa.Blo
open Go.Proofs.Ytpoigakjhhkifaa.BloWalk
open Go.Proofs.Ytpoigakjhhkifaa.BloAwake
theorem own : ownKnob Try.prog.godebug = none := by kernel_rfl

def zeros (n : Nat) : ByteArray := ⟨(List.replicate n 0).toArray⟩
theorem size_zeros (n : Nat) : (zeros n).size = n := by unfold zeros; rw [size_mk, List.length_replicate]
theorem text_zeros (w : World) (n : Nat) : (convert 38 9 (.slice (some ⟨w.heap.size, 0, none⟩) n n)).run Try.prog (w.alloc (.cells (madeBytes n) 5)) = .ok (.string (zeros n)) (w.alloc (.cells (madeBytes n) 5)) :=
  (row_made w 5 n).text (P := Try.prog) _ _ 5 n n (by rw [List.length_replicate]) Try.underlying38 Try.underlying5 Try.underlying9
theorem made_at (w : World) (l : List ByteArray) (e : TypeId) (n B : Nat) (hB : w.heap.size = B) (hn : n = l.length) (hl : l.length ≤ maxLen) : IsTx (w.alloc (.cells (txC l).toArray e)) (.slice (some ⟨B, 0, none⟩) n n) l := by
  subst hB
  exact made_is w l e n hn hl
def Bad (W : World) (v : Value) : Prop := ∃ l : List ByteArray, IsTx W v l ∧ joinB l = false ∧ l.length ≤ maxLen ∧ ∀ t ∈ l, t.size ≤ maxLen
theorem bads (w : World) (F X Y : ByteArray) (hF : F.size = 32) (hX : X.size = 33) (hY : Y.size = 31) (n : Nat) (hn : n < 7) : Below w.heap.size w (((((((w.alloc (.cells #[.string ⟨#[]⟩] 9)).alloc (.cells #[.string F, .string ⟨#[]⟩] 9)).alloc (.cells #[.string ⟨#[97]⟩, .string F] 9)).alloc (.cells #[.string X] 9)).alloc (.cells #[.string Y, .string ⟨#[97]⟩] 9)).alloc (.cells #[.string F, .string F, .string F, .string F, .string F, .string F, .string F, .string F, .string F, .string ⟨#[97]⟩] 9)).alloc (.cells #[.slice none 0 0, .slice (some ⟨w.heap.size, 0, none⟩) 1 1, .slice (some ⟨w.heap.size + 1, 0, none⟩) 2 2, .slice (some ⟨w.heap.size + 1 + 1, 0, none⟩) 2 2, .slice (some ⟨w.heap.size + 1 + 1 + 1, 0, none⟩) 1 1, .slice (some ⟨w.heap.size + 1 + 1 + 1 + 1, 0, none⟩) 2 2, .slice (some ⟨w.heap.size + 1 + 1 + 1 + 1 + 1, 0, none⟩) 10 10] 22)) ∧ ∃ v, World.cell? (((((((w.alloc (.cells #[.string ⟨#[]⟩] 9)).alloc (.cells #[.string F, .string ⟨#[]⟩] 9)).alloc (.cells #[.string ⟨#[97]⟩, .string F] 9)).alloc (.cells #[.string X] 9)).alloc (.cells #[.string Y, .string ⟨#[97]⟩] 9)).alloc (.cells #[.string F, .string F, .string F, .string F, .string F, .string F, .string F, .string F, .string F, .string ⟨#[97]⟩] 9)).alloc (.cells #[.slice none 0 0, .slice (some ⟨w.heap.size, 0, none⟩) 1 1, .slice (some ⟨w.heap.size + 1, 0, none⟩) 2 2, .slice (some ⟨w.heap.size + 1 + 1, 0, none⟩) 2 2, .slice (some ⟨w.heap.size + 1 + 1 + 1, 0, none⟩) 1 1, .slice (some ⟨w.heap.size + 1 + 1 + 1 + 1, 0, none⟩) 2 2, .slice (some ⟨w.heap.size + 1 + 1 + 1 + 1 + 1, 0, none⟩) 10 10] 22)) ⟨w.heap.size + 1 + 1 + 1 + 1 + 1 + 1, n, none⟩ = some v ∧ Bad (((((((w.alloc (.cells #[.string ⟨#[]⟩] 9)).alloc (.cells #[.string F, .string ⟨#[]⟩] 9)).alloc (.cells #[.string ⟨#[97]⟩, .string F] 9)).alloc (.cells #[.string X] 9)).alloc (.cells #[.string Y, .string ⟨#[97]⟩] 9)).alloc (.cells #[.string F, .string F, .string F, .string F, .string F, .string F, .string F, .string F, .string F, .string ⟨#[97]⟩] 9)).alloc (.cells #[.slice none 0 0, .slice (some ⟨w.heap.size, 0, none⟩) 1 1, .slice (some ⟨w.heap.size + 1, 0, none⟩) 2 2, .slice (some ⟨w.heap.size + 1 + 1, 0, none⟩) 2 2, .slice (some ⟨w.heap.size + 1 + 1 + 1, 0, none⟩) 1 1, .slice (some ⟨w.heap.size + 1 + 1 + 1 + 1, 0, none⟩) 2 2, .slice (some ⟨w.heap.size + 1 + 1 + 1 + 1 + 1, 0, none⟩) 10 10] 22)) v := by
  have z0 : w.heap.size = w.heap.size := rfl
  have hb : Below w.heap.size w w := Below.refl _ _
  have i0 : IsTx (w.alloc (.cells #[.string ⟨#[]⟩] 9)) (.slice (some ⟨w.heap.size, 0, none⟩) 1 1) [⟨#[]⟩] := made_at w [⟨#[]⟩] 9 1 _ z0 rfl (show 1 ≤ maxLen by decide)
  replace hb := thenB hb (hal w (.cells #[.string ⟨#[]⟩] 9))
  have z1 : (w.alloc (.cells #[.string ⟨#[]⟩] 9)).heap.size = w.heap.size + 1 := by simp
  generalize w.alloc (.cells #[.string ⟨#[]⟩] 9) = x0 at *
  have i1 : IsTx (x0.alloc (.cells #[.string F, .string ⟨#[]⟩] 9)) (.slice (some ⟨w.heap.size + 1, 0, none⟩) 2 2) [F, ⟨#[]⟩] := made_at x0 [F, ⟨#[]⟩] 9 2 _ z1 rfl (show 2 ≤ maxLen by decide)
  replace i0 := i0.below (hal x0 (.cells #[.string F, .string ⟨#[]⟩] 9))
  replace hb := thenB hb (hal x0 (.cells #[.string F, .string ⟨#[]⟩] 9))
  have z2 : (x0.alloc (.cells #[.string F, .string ⟨#[]⟩] 9)).heap.size = w.heap.size + 1 + 1 := by simp [z1]
  generalize x0.alloc (.cells #[.string F, .string ⟨#[]⟩] 9) = x1 at *
  have i2 : IsTx (x1.alloc (.cells #[.string ⟨#[97]⟩, .string F] 9)) (.slice (some ⟨w.heap.size + 1 + 1, 0, none⟩) 2 2) [⟨#[97]⟩, F] := made_at x1 [⟨#[97]⟩, F] 9 2 _ z2 rfl (show 2 ≤ maxLen by decide)
  replace i0 := i0.below (hal x1 (.cells #[.string ⟨#[97]⟩, .string F] 9))
  replace i1 := i1.below (hal x1 (.cells #[.string ⟨#[97]⟩, .string F] 9))
  replace hb := thenB hb (hal x1 (.cells #[.string ⟨#[97]⟩, .string F] 9))
  have z3 : (x1.alloc (.cells #[.string ⟨#[97]⟩, .string F] 9)).heap.size = w.heap.size + 1 + 1 + 1 := by simp [z2]
  generalize x1.alloc (.cells #[.string ⟨#[97]⟩, .string F] 9) = x2 at *
  have i3 : IsTx (x2.alloc (.cells #[.string X] 9)) (.slice (some ⟨w.heap.size + 1 + 1 + 1, 0, none⟩) 1 1) [X] := made_at x2 [X] 9 1 _ z3 rfl (show 1 ≤ maxLen by decide)
  replace i0 := i0.below (hal x2 (.cells #[.string X] 9))
  replace i1 := i1.below (hal x2 (.cells #[.string X] 9))
  replace i2 := i2.below (hal x2 (.cells #[.string X] 9))
  replace hb := thenB hb (hal x2 (.cells #[.string X] 9))
  have z4 : (x2.alloc (.cells #[.string X] 9)).heap.size = w.heap.size + 1 + 1 + 1 + 1 := by simp [z3]
  generalize x2.alloc (.cells #[.string X] 9) = x3 at *
  have i4 : IsTx (x3.alloc (.cells #[.string Y, .string ⟨#[97]⟩] 9)) (.slice (some ⟨w.heap.size + 1 + 1 + 1 + 1, 0, none⟩) 2 2) [Y, ⟨#[97]⟩] := made_at x3 [Y, ⟨#[97]⟩] 9 2 _ z4 rfl (show 2 ≤ maxLen by decide)
  replace i0 := i0.below (hal x3 (.cells #[.string Y, .string ⟨#[97]⟩] 9))
  replace i1 := i1.below (hal x3 (.cells #[.string Y, .string ⟨#[97]⟩] 9))
  replace i2 := i2.below (hal x3 (.cells #[.string Y, .string ⟨#[97]⟩] 9))
  replace i3 := i3.below (hal x3 (.cells #[.string Y, .string ⟨#[97]⟩] 9))
  replace hb := thenB hb (hal x3 (.cells #[.string Y, .string ⟨#[97]⟩] 9))
  have z5 : (x3.alloc (.cells #[.string Y, .string ⟨#[97]⟩] 9)).heap.size = w.heap.size + 1 + 1 + 1 + 1 + 1 := by simp [z4]
  generalize x3.alloc (.cells #[.string Y, .string ⟨#[97]⟩] 9) = x4 at *
  have i5 : IsTx (x4.alloc (.cells #[.string F, .string F, .string F, .string F, .string F, .string F, .string F, .string F, .string F, .string ⟨#[97]⟩] 9)) (.slice (some ⟨w.heap.size + 1 + 1 + 1 + 1 + 1, 0, none⟩) 10 10) [F, F, F, F, F, F, F, F, F, ⟨#[97]⟩] := made_at x4 [F, F, F, F, F, F, F, F, F, ⟨#[97]⟩] 9 10 _ z5 rfl (show 10 ≤ maxLen by decide)
  replace i0 := i0.below (hal x4 (.cells #[.string F, .string F, .string F, .string F, .string F, .string F, .string F, .string F, .string F, .string ⟨#[97]⟩] 9))
  replace i1 := i1.below (hal x4 (.cells #[.string F, .string F, .string F, .string F, .string F, .string F, .string F, .string F, .string F, .string ⟨#[97]⟩] 9))
  replace i2 := i2.below (hal x4 (.cells #[.string F, .string F, .string F, .string F, .string F, .string F, .string F, .string F, .string F, .string ⟨#[97]⟩] 9))
  replace i3 := i3.below (hal x4 (.cells #[.string F, .string F, .string F, .string F, .string F, .string F, .string F, .string F, .string F, .string ⟨#[97]⟩] 9))
  replace i4 := i4.below (hal x4 (.cells #[.string F, .string F, .string F, .string F, .string F, .string F, .string F, .string F, .string F, .string ⟨#[97]⟩] 9))
  replace hb := thenB hb (hal x4 (.cells #[.string F, .string F, .string F, .string F, .string F, .string F, .string F, .string F, .string F, .string ⟨#[97]⟩] 9))
  have z6 : (x4.alloc (.cells #[.string F, .string F, .string F, .string F, .string F, .string F, .string F, .string F, .string F, .string ⟨#[97]⟩] 9)).heap.size = w.heap.size + 1 + 1 + 1 + 1 + 1 + 1 := by simp [z5]
  generalize x4.alloc (.cells #[.string F, .string F, .string F, .string F, .string F, .string F, .string F, .string F, .string F, .string ⟨#[97]⟩] 9) = x5 at *
  replace i0 := i0.below (hal x5 (.cells #[.slice none 0 0, .slice (some ⟨w.heap.size, 0, none⟩) 1 1, .slice (some ⟨w.heap.size + 1, 0, none⟩) 2 2, .slice (some ⟨w.heap.size + 1 + 1, 0, none⟩) 2 2, .slice (some ⟨w.heap.size + 1 + 1 + 1, 0, none⟩) 1 1, .slice (some ⟨w.heap.size + 1 + 1 + 1 + 1, 0, none⟩) 2 2, .slice (some ⟨w.heap.size + 1 + 1 + 1 + 1 + 1, 0, none⟩) 10 10] 22))
  replace i1 := i1.below (hal x5 (.cells #[.slice none 0 0, .slice (some ⟨w.heap.size, 0, none⟩) 1 1, .slice (some ⟨w.heap.size + 1, 0, none⟩) 2 2, .slice (some ⟨w.heap.size + 1 + 1, 0, none⟩) 2 2, .slice (some ⟨w.heap.size + 1 + 1 + 1, 0, none⟩) 1 1, .slice (some ⟨w.heap.size + 1 + 1 + 1 + 1, 0, none⟩) 2 2, .slice (some ⟨w.heap.size + 1 + 1 + 1 + 1 + 1, 0, none⟩) 10 10] 22))
  replace i2 := i2.below (hal x5 (.cells #[.slice none 0 0, .slice (some ⟨w.heap.size, 0, none⟩) 1 1, .slice (some ⟨w.heap.size + 1, 0, none⟩) 2 2, .slice (some ⟨w.heap.size + 1 + 1, 0, none⟩) 2 2, .slice (some ⟨w.heap.size + 1 + 1 + 1, 0, none⟩) 1 1, .slice (some ⟨w.heap.size + 1 + 1 + 1 + 1, 0, none⟩) 2 2, .slice (some ⟨w.heap.size + 1 + 1 + 1 + 1 + 1, 0, none⟩) 10 10] 22))
  replace i3 := i3.below (hal x5 (.cells #[.slice none 0 0, .slice (some ⟨w.heap.size, 0, none⟩) 1 1, .slice (some ⟨w.heap.size + 1, 0, none⟩) 2 2, .slice (some ⟨w.heap.size + 1 + 1, 0, none⟩) 2 2, .slice (some ⟨w.heap.size + 1 + 1 + 1, 0, none⟩) 1 1, .slice (some ⟨w.heap.size + 1 + 1 + 1 + 1, 0, none⟩) 2 2, .slice (some ⟨w.heap.size + 1 + 1 + 1 + 1 + 1, 0, none⟩) 10 10] 22))
  replace i4 := i4.below (hal x5 (.cells #[.slice none 0 0, .slice (some ⟨w.heap.size, 0, none⟩) 1 1, .slice (some ⟨w.heap.size + 1, 0, none⟩) 2 2, .slice (some ⟨w.heap.size + 1 + 1, 0, none⟩) 2 2, .slice (some ⟨w.heap.size + 1 + 1 + 1, 0, none⟩) 1 1, .slice (some ⟨w.heap.size + 1 + 1 + 1 + 1, 0, none⟩) 2 2, .slice (some ⟨w.heap.size + 1 + 1 + 1 + 1 + 1, 0, none⟩) 10 10] 22))
  replace i5 := i5.below (hal x5 (.cells #[.slice none 0 0, .slice (some ⟨w.heap.size, 0, none⟩) 1 1, .slice (some ⟨w.heap.size + 1, 0, none⟩) 2 2, .slice (some ⟨w.heap.size + 1 + 1, 0, none⟩) 2 2, .slice (some ⟨w.heap.size + 1 + 1 + 1, 0, none⟩) 1 1, .slice (some ⟨w.heap.size + 1 + 1 + 1 + 1, 0, none⟩) 2 2, .slice (some ⟨w.heap.size + 1 + 1 + 1 + 1 + 1, 0, none⟩) 10 10] 22))
  replace hb := thenB hb (hal x5 (.cells #[.slice none 0 0, .slice (some ⟨w.heap.size, 0, none⟩) 1 1, .slice (some ⟨w.heap.size + 1, 0, none⟩) 2 2, .slice (some ⟨w.heap.size + 1 + 1, 0, none⟩) 2 2, .slice (some ⟨w.heap.size + 1 + 1 + 1, 0, none⟩) 1 1, .slice (some ⟨w.heap.size + 1 + 1 + 1 + 1, 0, none⟩) 2 2, .slice (some ⟨w.heap.size + 1 + 1 + 1 + 1 + 1, 0, none⟩) 10 10] 22))
  refine ⟨hb, ?_⟩
  rw [← z6]
  rcases (by omega : n = 0 ∨ n = 1 ∨ n = 2 ∨ n = 3 ∨ n = 4 ∨ n = 5 ∨ n = 6) with rfl | rfl | rfl | rfl | rfl | rfl | rfl
  all_goals refine ⟨_, (World.cell?_alloc_at _ _ _ _ rfl).trans rfl, ?_⟩
  · exact ⟨[], ⟨none, 0, rfl, fun _ => rfl, .inl rfl⟩, not_many (.inl (by decide)), by decide, fun t ht => nomatch ht⟩
  · refine ⟨_, i0, not_good (j := 0) (show 0 < 1 by omega) (fun g => by have := g.1; cases this), show 1 ≤ maxLen by decide, fun t ht => Nat.le_trans (m := 33) ?_ (by decide)⟩
    simp only [List.mem_cons, List.not_mem_nil, or_false] at ht
    have h := ht
    all_goals
      rw [h]
      first | omega | decide
  · refine ⟨_, i1, not_good (j := 1) (show 1 < 2 by omega) (fun g => by have := g.1; cases this), show 2 ≤ maxLen by decide, fun t ht => Nat.le_trans (m := 33) ?_ (by decide)⟩
    simp only [List.mem_cons, List.not_mem_nil, or_false] at ht
    rcases ht with h | h
    all_goals
      rw [h]
      first | omega | decide
  · refine ⟨_, i2, not_good (j := 0) (show 0 < 2 by omega) (fun g => by have := g.2.2 (show 0 + 1 < 2 by omega); cases this), show 2 ≤ maxLen by decide, fun t ht => Nat.le_trans (m := 33) ?_ (by decide)⟩
    simp only [List.mem_cons, List.not_mem_nil, or_false] at ht
    rcases ht with h | h
    all_goals
      rw [h]
      first | omega | decide
  · refine ⟨_, i3, not_good (j := 0) (show 0 < 1 by omega) (fun g => by have h : X.size ≤ 32 := g.2.1; omega), show 1 ≤ maxLen by decide, fun t ht => Nat.le_trans (m := 33) ?_ (by decide)⟩
    simp only [List.mem_cons, List.not_mem_nil, or_false] at ht
    have h := ht
    all_goals
      rw [h]
      first | omega | decide
  · refine ⟨_, i4, not_good (j := 0) (show 0 < 2 by omega) (fun g => by have h : Y.size = 32 := g.2.2 (show 0 + 1 < 2 by omega); omega), show 2 ≤ maxLen by decide, fun t ht => Nat.le_trans (m := 33) ?_ (by decide)⟩
    simp only [List.mem_cons, List.not_mem_nil, or_false] at ht
    rcases ht with h | h
    all_goals
      rw [h]
      first | omega | decide
  · refine ⟨_, i5, not_many (.inr (show 9 < 10 by omega)), show 10 ≤ maxLen by decide, fun t ht => Nat.le_trans (m := 33) ?_ (by decide)⟩
    simp only [List.mem_cons, List.not_mem_nil, or_false] at ht
    rcases ht with h | h | h | h | h | h | h | h | h | h
    all_goals
      rw [h]
      first | omega | decide
set_option maxRecDepth 100000 in
set_option maxHeartbeats 1000000 in
theorem walk (a0 : Int) (a1 : Int) (w0 : (Lit.int .i64 a0).wf = true) (w1 : (Lit.int .i64 a1).wf = true) (w : World) :
    Calls Try.prog 4 #[.int .i64 a0, .int .i64 a1] w fun e w' => e = .returned (.bool true) ∧ Below w.heap.size w w' := by
  have HA := hide awakeB_any
  obtain ⟨k, hk, mk⟩ : ∃ k : Nat, k ≤ 1023 ∧ bits .and .i64 a1 1023 = (k : Int) := mask_i64 a1 1023 (by omega)
  obtain ⟨n, hn, mn⟩ : ∃ k : Nat, k < 7 ∧ wrap64 ((IntKind.u64.wrap a0).tmod 7) = (k : Int) := mod_u64 a0 7 (by omega) (by omega)
  have hmk : ∀ w : World, (Instr.makeSlice 38 (.int .i64 32) (.int .i64 32)).run Try.prog w = .ok (.slice (some ⟨w.heap.size, 0, none⟩) 32 32) (w.alloc (.cells (madeBytes 32) 5)) := fun w => run_make_bytes (P := Try.prog) w 38 5 Try.underlying38 info_u8 32 (by omega)
  have htx := fun w => text_zeros w 32
  obtain ⟨D, hD⟩ : ∃ D : Nat, D = 288 + (1 + k) := ⟨_, rfl⟩
  have hD1 : (288 : Int) + (1 + (k : Int)) = (D : Int) := by omega
  have hmd : ∀ w : World, (Instr.makeSlice 38 (.int .i64 (288 + (1 + (k : Int)))) (.int .i64 (288 + (1 + (k : Int))))).run Try.prog w = .ok (.slice (some ⟨w.heap.size, 0, none⟩) D D) (w.alloc (.cells (madeBytes D) 5)) := fun w => by
    rw [hD1]
    exact run_make_bytes (P := Try.prog) w 38 5 Try.underlying38 info_u8 D (by omega)
  have htd := fun w => text_zeros w D
  have HS := hide (fun w => split_no (zeros D) w (decide_eq_false (by rw [size_zeros]; omega)))
  have hF := size_zeros 32
  generalize zeros 32 = F at *
  generalize zeros D = G at *
  clear hD1 hD
  go_enter Try.func4, Try.ntmps4
  go_upto_region 5 with (go_at_call 16; refine (HA.out _).mono ?_; rintro e w1 ⟨rfl, hb1⟩)
  have hb2 := thenB hb1 (hal w1 (.cells (madeBytes 32) 5))
  generalize w1.alloc (.cells (madeBytes 32) 5) = wa at *
  clear hb1 hmk htx
  go_upto_region 6 with (go_at_call 8; refine (HS.out _).mono ?_; rintro e w2 ⟨rfl, rfl⟩)
  have hb3 := thenB hb2 (hal wa (.cells (madeBytes D) 5))
  generalize wa.alloc (.cells (madeBytes D) 5) = wb at *
  clear hb2 hmd htd HS HA
  go_upto_region 7 with fail
  obtain ⟨hb4, v, hc, l, hv, hj, hl1, hl2⟩ := bads wb F (F ++ ⟨#[120]⟩) (F.extract 1 32) hF (by rw [ByteArray.size_append, hF]; rfl) (by rw [ByteArray.size_extract, hF]; rfl) n hn
  replace hb4 := thenB hb3 hb4
  generalize (((((((wb.alloc (.cells #[.string ⟨#[]⟩] 9)).alloc (.cells #[.string F, .string ⟨#[]⟩] 9)).alloc (.cells #[.string ⟨#[97]⟩, .string F] 9)).alloc (.cells #[.string (F ++ ⟨#[120]⟩)] 9)).alloc (.cells #[.string (F.extract 1 32), .string ⟨#[97]⟩] 9)).alloc (.cells #[.string F, .string F, .string F, .string F, .string F, .string F, .string F, .string F, .string F, .string ⟨#[97]⟩] 9)).alloc (.cells #[.slice none 0 0, .slice (some ⟨wb.heap.size, 0, none⟩) 1 1, .slice (some ⟨wb.heap.size + 1, 0, none⟩) 2 2, .slice (some ⟨wb.heap.size + 1 + 1, 0, none⟩) 2 2, .slice (some ⟨wb.heap.size + 1 + 1 + 1, 0, none⟩) 1 1, .slice (some ⟨wb.heap.size + 1 + 1 + 1 + 1, 0, none⟩) 2 2, .slice (some ⟨wb.heap.size + 1 + 1 + 1 + 1 + 1, 0, none⟩) 10 10] 22)) = W at *
  generalize wb.heap.size + 1 + 1 + 1 + 1 + 1 + 1 = B at *
  have HJ := hide (join_no v l W hl1 hl2 hv hj)
  clear hv hj hl1 hl2
  go_wp2_with (first | (go_at_call 10; refine HJ.out.mono ?_; rintro e w5 ⟨rfl, rfl⟩) | (go_at_call 13; refine (numB_any _ _).mono ?_; rintro e w6 ⟨rfl, rfl⟩))
  go_ret
  exact ⟨rfl, hb4⟩

set_option maxRecDepth 100000 in
theorem lifted (os : Os) (started : os.Started) (H : Type) (enc : TypeId × Value → H) :
    ReturnsInHanded {} Try.checked os 4 .any (Rows.blockFormsSpec.pre6 enc Try.prog Try.f4 Rows.blockFormsRow.domain false) (Rows.blockFormsSpec.post enc Try.prog Try.f4 false true false false) := by
  refine returnsInHanded_of_change (C := Try.checked) own started (by kernel_rfl) Try.func4
    (ChangeSpec.witness6 (enc := enc) (C := Try.checked) false ⟨#[], #[.int .i64 0, .int .i64 0], []⟩ 8 (by kernel_rfl) (by kernel_rfl) (by kernel_rfl) (by kernel_rfl)) ?_
  intro W base args ds gs before hval0 hW hcnd _
  have hval : ∀ (j : Nat) t v, Try.f4.params[j]? = some t → args[j]? = some v → Value.okWide Try.prog W .any base t v := hval0
  have hW' := hW
  obtain ⟨p, q, hA0, hV, rfl, hfz, hnd⟩ := hW
  have hA : DataW.TrodAll enc Try.prog W 0 (fun _ => true) true Try.f4.params.toList args.toList ds p := hA0
  rw [Try.params4] at hA hval
  obtain ⟨v0, vs0, d0, ds0, p0, q0, hargs, rfl, rfl, h0, r0⟩ := trodAll_cons hA
  obtain ⟨v1, vs1, d1, ds1, p1, q1, rfl, rfl, rfl, h1, r1⟩ := trodAll_cons r0
  obtain ⟨rfl, rfl, rfl⟩ := trodAll_nil r1
  obtain rfl : args = #[v0, v1] := by cases args; simp_all
  obtain ⟨rfl, rfl⟩ := trodVars_none hV
  obtain ⟨a0, rfl, rfl, rfl, w0⟩ := open_int Try.underlying3 (hval 0 3 v0 rfl rfl) h0
  obtain ⟨a1, rfl, rfl, rfl, w1⟩ := open_int Try.underlying3 (hval 1 3 v1 rfl rfl) h1
  clear hA0 hval0
  refine (walk a0 a1 w0 w1 W).mono fun e W' ⟨he, bel⟩ => ?_
  subst he
  exact ⟨_, rfl, _, _, _, [], _, [], hW', (trodAll_cons_mk (shut_bool Try.underlying4 _) trodAll_mk0), (trodAll_cons_mk (shut_int Try.underlying3 w0) (trodAll_cons_mk (shut_int Try.underlying3 w1) trodAll_mk0)), rfl, bel.frame _, fun h => by cases h⟩

theorem over : Rows.blockFormsRow.holds Try.pinned (OpenSpec.ofChange Rows.blockFormsSpec) :=
  OpenClaim.holds_of_wide 4 Try.f4 rfl rfl rfl rfl rfl rfl rfl ⟨rfl, rfl, rfl, rfl, rfl⟩ rfl rfl rfl rfl rfl (by kernel_rfl) Try.func4 (by kernel_rfl)
    (of_decide_eq_true (by kernel_rfl)) (by unfold Func.isWrapper; first | (rw [if_pos (by decide +kernel)]; kernel_rfl) | (rw [if_neg (by decide +kernel)]; exact ⟨rfl, rfl⟩))
    (fun os started H enc _ => lifted os started H enc)

theorem proved : Rows.BlockFormsSaid :=
  over
#print axioms proved
end Go.Proofs.Ytpoigakjhhkifaa.blockForms
