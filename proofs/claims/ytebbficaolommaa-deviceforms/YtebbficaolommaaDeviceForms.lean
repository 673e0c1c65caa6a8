/- Whatever the two numbers: the law DeviceForms returns true (devices that may not be are refused, and statuses that a device may not fail with), and the arguments read as they did; no condition. -/
import Derived.Test.YtebbficaolommaaRows
import Derived.Test.YtebbficaolommaaNorMath
import Derived.Test.YtebbficaolommaaBytes
import Derived.Test.YtebbficaolommaaNorWalk
import Derived.Test.YtebbficaolommaaOpsMath
import Derived.Test.YtebbficaolommaaOpsRow
import Derived.Test.YtebbficaolommaaOpsWalk
import Derived.Test.YtebbficaolommaaCrcMath
import Derived.Test.YtebbficaolommaaEntMath
import Derived.Test.YtebbficaolommaaEntRow
import Derived.Test.YtebbficaolommaaEntLow
import Derived.Test.YtebbficaolommaaEntWalk
import Derived.Test.YtebbficaolommaaSufMath
import Derived.Test.YtebbficaolommaaAnsMath
import Derived.Test.YtebbficaolommaaAnsWalk
import Derived.Test.YtebbficaolommaaDevRow
import Derived.Test.YtebbficaolommaaDevMath
import Derived.Test.YtebbficaolommaaDevWalk
import Derived.Test.YtebbficaolommaaDevFail
import Derived.Test.YtebbficaolommaaDevHelp
import Derived.Test.YtebbficaolommaaDevAwake
import Derived.Deep.Cut
import Derived.ChangeOld
import Derived.Below
import Derived.WalkKit
import Derived.ProofKit
import Derived.OpenShut
import Derived.ShutString
namespace Go.Proofs.Ytebbficaolommaa.deviceForms
open Go.ChangeShapes Go.WideShapes Go.ChangeAt Go.RowKit
open Go.ChangeMaps (open_string shut_string)
set_option linter.unusedVariables false

open Go.Proofs.Ytebbficaolommaa.Bytes
open Go.Proofs.Ytebbficaolommaa.Dev
open Go.Proofs.Ytebbficaolommaa.DevRow
open Go.Proofs.Ytebbficaolommaa.DevWalk
open Go.Proofs.Ytebbficaolommaa.DevFail
open Go.Proofs.Ytebbficaolommaa.DevHelp
open Go.Proofs.Ytebbficaolommaa.DevAwake
theorem own : ownKnob Try.prog.godebug = none := by kernel_rfl

theorem build_a (x : Int) (w : World) : (Instr.build 24 #[(0, .int .i64 x)]).run Try.prog w = .ok (.agg #[.int .i64 x, .int .i64 0, .int .i64 0, .int .i64 0, .int .i64 0, .slice none 0 0]) w := run_build w 24 _ _ (by kernel_rfl)
theorem build_u (x : Int) (w : World) : (Instr.build 24 #[(1, .int .i64 x)]).run Try.prog w = .ok (.agg #[.int .i64 0, .int .i64 x, .int .i64 0, .int .i64 0, .int .i64 0, .slice none 0 0]) w := run_build w 24 _ _ (by kernel_rfl)
theorem build_g (x : Int) (w : World) : (Instr.build 24 #[(3, .int .i64 x)]).run Try.prog w = .ok (.agg #[.int .i64 0, .int .i64 0, .int .i64 0, .int .i64 x, .int .i64 0, .slice none 0 0]) w := run_build w 24 _ _ (by kernel_rfl)
theorem build_o (a : Option Addr) (n c : Nat) (w : World) : (Instr.build 24 #[(5, .slice a n c)]).run Try.prog w = .ok (.agg #[.int .i64 0, .int .i64 0, .int .i64 0, .int .i64 0, .int .i64 0, .slice a n c]) w := run_build w 24 _ _ (by kernel_rfl)
theorem build_m (x y z : Int) (a : Option Addr) (n c : Nat) (w : World) : (Instr.build 24 #[(2, .int .i64 x), (3, .int .i64 y), (4, .int .i64 z), (5, .slice a n c)]).run Try.prog w = .ok (.agg #[.int .i64 0, .int .i64 0, .int .i64 x, .int .i64 y, .int .i64 z, .slice a n c]) w := run_build w 24 _ _ (by kernel_rfl)
theorem d_sa {d : FDev} (h : ¬ (0 ≤ d.sa ∧ d.sa ≤ 7)) : devB d = false := by unfold devB; rw [show Ans.saB d.sa = false from decide_eq_false h]; rfl
theorem d_su {d : FDev} (h : ¬ (0 ≤ d.su ∧ d.su ≤ 6)) : devB d = false := by unfold devB; rw [show Ans.stB d.su = false from decide_eq_false h]; simp
theorem d_nx {d : FDev} (h : ¬ (0 ≤ d.nx ∧ d.nx ≤ 16)) : devB d = false := by unfold devB; rw [show upB d.nx 16 = false from decide_eq_false h]; simp
theorem d_gt {d : FDev} (h : ¬ (0 ≤ d.gt ∧ d.gt ≤ 288)) : devB d = false := by unfold devB; rw [show upB d.gt 288 = false from decide_eq_false h]; simp
theorem d_sl {d : FDev} (h : ¬ (0 ≤ d.sl ∧ d.sl ≤ 1)) : devB d = false := by unfold devB; rw [show upB d.sl 1 = false from decide_eq_false h]; simp
theorem d_st {d : FDev} (h : stepsB d.ops = false) : devB d = false := by unfold devB; rw [h]; simp
theorem bad1 : stepsB [⟨false, 2, ⟨#[97, 98, 99, 100]⟩⟩] = false := by decide
theorem bad2 : stepsB [⟨true, 0, ⟨#[]⟩⟩, ⟨true, 4, ⟨#[]⟩⟩] = false := by decide
theorem good1 : devB ⟨0, 0, 16, 288, 1, [⟨true, 0, ⟨#[]⟩⟩]⟩ = true := by decide
/-- The devices that may not be: whichever is taken. -/
theorem bads (W : World) (e : TypeId) (p : Nat) (M A B C E F : Int) (hM : M < 0) (hA : 7 < A) (hB : 6 < B) (hC : 16 < C) (hE : 288 < E) (hF : 1 < F) (h1 : IsSt W (.slice (some ⟨p, 0, none⟩) 1 1) [⟨false, 2, ⟨#[97, 98, 99, 100]⟩⟩]) (h2 : IsSt W (.slice (some ⟨p + 1, 0, none⟩) 2 2) [⟨true, 0, ⟨#[]⟩⟩, ⟨true, 4, ⟨#[]⟩⟩]) (n : Nat) (hn : n < 12) :
    ∃ sa su nx gt sl a len cap l, (W.alloc (.cells (List.toArray (.int .i64 M :: .int .i64 0 :: .int .i64 0 :: .int .i64 0 :: .int .i64 0 :: .slice none 0 0 :: .int .i64 A :: .int .i64 0 :: .int .i64 0 :: .int .i64 0 :: .int .i64 0 :: .slice none 0 0 :: .int .i64 0 :: .int .i64 M :: .int .i64 0 :: .int .i64 0 :: .int .i64 0 :: .slice none 0 0 :: .int .i64 0 :: .int .i64 B :: .int .i64 0 :: .int .i64 0 :: .int .i64 0 :: .slice none 0 0 :: .int .i64 0 :: .int .i64 0 :: .int .i64 M :: .int .i64 0 :: .int .i64 0 :: .slice none 0 0 :: .int .i64 0 :: .int .i64 0 :: .int .i64 C :: .int .i64 0 :: .int .i64 0 :: .slice none 0 0 :: .int .i64 0 :: .int .i64 0 :: .int .i64 0 :: .int .i64 M :: .int .i64 0 :: .slice none 0 0 :: .int .i64 0 :: .int .i64 0 :: .int .i64 0 :: .int .i64 E :: .int .i64 0 :: .slice none 0 0 :: .int .i64 0 :: .int .i64 0 :: .int .i64 0 :: .int .i64 0 :: .int .i64 M :: .slice none 0 0 :: .int .i64 0 :: .int .i64 0 :: .int .i64 0 :: .int .i64 0 :: .int .i64 F :: .slice none 0 0 :: .int .i64 0 :: .int .i64 0 :: .int .i64 0 :: .int .i64 0 :: .int .i64 0 :: .slice (some ⟨p, 0, none⟩) 1 1 :: .int .i64 0 :: .int .i64 0 :: .int .i64 0 :: .int .i64 0 :: .int .i64 0 :: .slice (some ⟨p + 1, 0, none⟩) 2 2 :: [])) e)).cell? ⟨W.heap.size, n * 6, none⟩ = some (.int .i64 sa) ∧ (W.alloc (.cells (List.toArray (.int .i64 M :: .int .i64 0 :: .int .i64 0 :: .int .i64 0 :: .int .i64 0 :: .slice none 0 0 :: .int .i64 A :: .int .i64 0 :: .int .i64 0 :: .int .i64 0 :: .int .i64 0 :: .slice none 0 0 :: .int .i64 0 :: .int .i64 M :: .int .i64 0 :: .int .i64 0 :: .int .i64 0 :: .slice none 0 0 :: .int .i64 0 :: .int .i64 B :: .int .i64 0 :: .int .i64 0 :: .int .i64 0 :: .slice none 0 0 :: .int .i64 0 :: .int .i64 0 :: .int .i64 M :: .int .i64 0 :: .int .i64 0 :: .slice none 0 0 :: .int .i64 0 :: .int .i64 0 :: .int .i64 C :: .int .i64 0 :: .int .i64 0 :: .slice none 0 0 :: .int .i64 0 :: .int .i64 0 :: .int .i64 0 :: .int .i64 M :: .int .i64 0 :: .slice none 0 0 :: .int .i64 0 :: .int .i64 0 :: .int .i64 0 :: .int .i64 E :: .int .i64 0 :: .slice none 0 0 :: .int .i64 0 :: .int .i64 0 :: .int .i64 0 :: .int .i64 0 :: .int .i64 M :: .slice none 0 0 :: .int .i64 0 :: .int .i64 0 :: .int .i64 0 :: .int .i64 0 :: .int .i64 F :: .slice none 0 0 :: .int .i64 0 :: .int .i64 0 :: .int .i64 0 :: .int .i64 0 :: .int .i64 0 :: .slice (some ⟨p, 0, none⟩) 1 1 :: .int .i64 0 :: .int .i64 0 :: .int .i64 0 :: .int .i64 0 :: .int .i64 0 :: .slice (some ⟨p + 1, 0, none⟩) 2 2 :: [])) e)).cell? ⟨W.heap.size, n * 6 + 1, none⟩ = some (.int .i64 su) ∧ (W.alloc (.cells (List.toArray (.int .i64 M :: .int .i64 0 :: .int .i64 0 :: .int .i64 0 :: .int .i64 0 :: .slice none 0 0 :: .int .i64 A :: .int .i64 0 :: .int .i64 0 :: .int .i64 0 :: .int .i64 0 :: .slice none 0 0 :: .int .i64 0 :: .int .i64 M :: .int .i64 0 :: .int .i64 0 :: .int .i64 0 :: .slice none 0 0 :: .int .i64 0 :: .int .i64 B :: .int .i64 0 :: .int .i64 0 :: .int .i64 0 :: .slice none 0 0 :: .int .i64 0 :: .int .i64 0 :: .int .i64 M :: .int .i64 0 :: .int .i64 0 :: .slice none 0 0 :: .int .i64 0 :: .int .i64 0 :: .int .i64 C :: .int .i64 0 :: .int .i64 0 :: .slice none 0 0 :: .int .i64 0 :: .int .i64 0 :: .int .i64 0 :: .int .i64 M :: .int .i64 0 :: .slice none 0 0 :: .int .i64 0 :: .int .i64 0 :: .int .i64 0 :: .int .i64 E :: .int .i64 0 :: .slice none 0 0 :: .int .i64 0 :: .int .i64 0 :: .int .i64 0 :: .int .i64 0 :: .int .i64 M :: .slice none 0 0 :: .int .i64 0 :: .int .i64 0 :: .int .i64 0 :: .int .i64 0 :: .int .i64 F :: .slice none 0 0 :: .int .i64 0 :: .int .i64 0 :: .int .i64 0 :: .int .i64 0 :: .int .i64 0 :: .slice (some ⟨p, 0, none⟩) 1 1 :: .int .i64 0 :: .int .i64 0 :: .int .i64 0 :: .int .i64 0 :: .int .i64 0 :: .slice (some ⟨p + 1, 0, none⟩) 2 2 :: [])) e)).cell? ⟨W.heap.size, n * 6 + 2, none⟩ = some (.int .i64 nx) ∧ (W.alloc (.cells (List.toArray (.int .i64 M :: .int .i64 0 :: .int .i64 0 :: .int .i64 0 :: .int .i64 0 :: .slice none 0 0 :: .int .i64 A :: .int .i64 0 :: .int .i64 0 :: .int .i64 0 :: .int .i64 0 :: .slice none 0 0 :: .int .i64 0 :: .int .i64 M :: .int .i64 0 :: .int .i64 0 :: .int .i64 0 :: .slice none 0 0 :: .int .i64 0 :: .int .i64 B :: .int .i64 0 :: .int .i64 0 :: .int .i64 0 :: .slice none 0 0 :: .int .i64 0 :: .int .i64 0 :: .int .i64 M :: .int .i64 0 :: .int .i64 0 :: .slice none 0 0 :: .int .i64 0 :: .int .i64 0 :: .int .i64 C :: .int .i64 0 :: .int .i64 0 :: .slice none 0 0 :: .int .i64 0 :: .int .i64 0 :: .int .i64 0 :: .int .i64 M :: .int .i64 0 :: .slice none 0 0 :: .int .i64 0 :: .int .i64 0 :: .int .i64 0 :: .int .i64 E :: .int .i64 0 :: .slice none 0 0 :: .int .i64 0 :: .int .i64 0 :: .int .i64 0 :: .int .i64 0 :: .int .i64 M :: .slice none 0 0 :: .int .i64 0 :: .int .i64 0 :: .int .i64 0 :: .int .i64 0 :: .int .i64 F :: .slice none 0 0 :: .int .i64 0 :: .int .i64 0 :: .int .i64 0 :: .int .i64 0 :: .int .i64 0 :: .slice (some ⟨p, 0, none⟩) 1 1 :: .int .i64 0 :: .int .i64 0 :: .int .i64 0 :: .int .i64 0 :: .int .i64 0 :: .slice (some ⟨p + 1, 0, none⟩) 2 2 :: [])) e)).cell? ⟨W.heap.size, n * 6 + 3, none⟩ = some (.int .i64 gt) ∧ (W.alloc (.cells (List.toArray (.int .i64 M :: .int .i64 0 :: .int .i64 0 :: .int .i64 0 :: .int .i64 0 :: .slice none 0 0 :: .int .i64 A :: .int .i64 0 :: .int .i64 0 :: .int .i64 0 :: .int .i64 0 :: .slice none 0 0 :: .int .i64 0 :: .int .i64 M :: .int .i64 0 :: .int .i64 0 :: .int .i64 0 :: .slice none 0 0 :: .int .i64 0 :: .int .i64 B :: .int .i64 0 :: .int .i64 0 :: .int .i64 0 :: .slice none 0 0 :: .int .i64 0 :: .int .i64 0 :: .int .i64 M :: .int .i64 0 :: .int .i64 0 :: .slice none 0 0 :: .int .i64 0 :: .int .i64 0 :: .int .i64 C :: .int .i64 0 :: .int .i64 0 :: .slice none 0 0 :: .int .i64 0 :: .int .i64 0 :: .int .i64 0 :: .int .i64 M :: .int .i64 0 :: .slice none 0 0 :: .int .i64 0 :: .int .i64 0 :: .int .i64 0 :: .int .i64 E :: .int .i64 0 :: .slice none 0 0 :: .int .i64 0 :: .int .i64 0 :: .int .i64 0 :: .int .i64 0 :: .int .i64 M :: .slice none 0 0 :: .int .i64 0 :: .int .i64 0 :: .int .i64 0 :: .int .i64 0 :: .int .i64 F :: .slice none 0 0 :: .int .i64 0 :: .int .i64 0 :: .int .i64 0 :: .int .i64 0 :: .int .i64 0 :: .slice (some ⟨p, 0, none⟩) 1 1 :: .int .i64 0 :: .int .i64 0 :: .int .i64 0 :: .int .i64 0 :: .int .i64 0 :: .slice (some ⟨p + 1, 0, none⟩) 2 2 :: [])) e)).cell? ⟨W.heap.size, n * 6 + 4, none⟩ = some (.int .i64 sl) ∧ (W.alloc (.cells (List.toArray (.int .i64 M :: .int .i64 0 :: .int .i64 0 :: .int .i64 0 :: .int .i64 0 :: .slice none 0 0 :: .int .i64 A :: .int .i64 0 :: .int .i64 0 :: .int .i64 0 :: .int .i64 0 :: .slice none 0 0 :: .int .i64 0 :: .int .i64 M :: .int .i64 0 :: .int .i64 0 :: .int .i64 0 :: .slice none 0 0 :: .int .i64 0 :: .int .i64 B :: .int .i64 0 :: .int .i64 0 :: .int .i64 0 :: .slice none 0 0 :: .int .i64 0 :: .int .i64 0 :: .int .i64 M :: .int .i64 0 :: .int .i64 0 :: .slice none 0 0 :: .int .i64 0 :: .int .i64 0 :: .int .i64 C :: .int .i64 0 :: .int .i64 0 :: .slice none 0 0 :: .int .i64 0 :: .int .i64 0 :: .int .i64 0 :: .int .i64 M :: .int .i64 0 :: .slice none 0 0 :: .int .i64 0 :: .int .i64 0 :: .int .i64 0 :: .int .i64 E :: .int .i64 0 :: .slice none 0 0 :: .int .i64 0 :: .int .i64 0 :: .int .i64 0 :: .int .i64 0 :: .int .i64 M :: .slice none 0 0 :: .int .i64 0 :: .int .i64 0 :: .int .i64 0 :: .int .i64 0 :: .int .i64 F :: .slice none 0 0 :: .int .i64 0 :: .int .i64 0 :: .int .i64 0 :: .int .i64 0 :: .int .i64 0 :: .slice (some ⟨p, 0, none⟩) 1 1 :: .int .i64 0 :: .int .i64 0 :: .int .i64 0 :: .int .i64 0 :: .int .i64 0 :: .slice (some ⟨p + 1, 0, none⟩) 2 2 :: [])) e)).cell? ⟨W.heap.size, n * 6 + 5, none⟩ = some (.slice a len cap) ∧ IsSt (W.alloc (.cells (List.toArray (.int .i64 M :: .int .i64 0 :: .int .i64 0 :: .int .i64 0 :: .int .i64 0 :: .slice none 0 0 :: .int .i64 A :: .int .i64 0 :: .int .i64 0 :: .int .i64 0 :: .int .i64 0 :: .slice none 0 0 :: .int .i64 0 :: .int .i64 M :: .int .i64 0 :: .int .i64 0 :: .int .i64 0 :: .slice none 0 0 :: .int .i64 0 :: .int .i64 B :: .int .i64 0 :: .int .i64 0 :: .int .i64 0 :: .slice none 0 0 :: .int .i64 0 :: .int .i64 0 :: .int .i64 M :: .int .i64 0 :: .int .i64 0 :: .slice none 0 0 :: .int .i64 0 :: .int .i64 0 :: .int .i64 C :: .int .i64 0 :: .int .i64 0 :: .slice none 0 0 :: .int .i64 0 :: .int .i64 0 :: .int .i64 0 :: .int .i64 M :: .int .i64 0 :: .slice none 0 0 :: .int .i64 0 :: .int .i64 0 :: .int .i64 0 :: .int .i64 E :: .int .i64 0 :: .slice none 0 0 :: .int .i64 0 :: .int .i64 0 :: .int .i64 0 :: .int .i64 0 :: .int .i64 M :: .slice none 0 0 :: .int .i64 0 :: .int .i64 0 :: .int .i64 0 :: .int .i64 0 :: .int .i64 F :: .slice none 0 0 :: .int .i64 0 :: .int .i64 0 :: .int .i64 0 :: .int .i64 0 :: .int .i64 0 :: .slice (some ⟨p, 0, none⟩) 1 1 :: .int .i64 0 :: .int .i64 0 :: .int .i64 0 :: .int .i64 0 :: .int .i64 0 :: .slice (some ⟨p + 1, 0, none⟩) 2 2 :: [])) e)) (.slice a len cap) l ∧ devB ⟨sa, su, nx, gt, sl, l⟩ = false := by
  rcases (by omega : n = 0 ∨ n = 1 ∨ n = 2 ∨ n = 3 ∨ n = 4 ∨ n = 5 ∨ n = 6 ∨ n = 7 ∨ n = 8 ∨ n = 9 ∨ n = 10 ∨ n = 11) with rfl | rfl | rfl | rfl | rfl | rfl | rfl | rfl | rfl | rfl | rfl | rfl
  · exact ⟨M, 0, 0, 0, 0, none, 0, 0, [], by rw [World.cell?_alloc_at _ e _ _ rfl]; rfl, by rw [World.cell?_alloc_at _ e _ _ rfl]; rfl, by rw [World.cell?_alloc_at _ e _ _ rfl]; rfl, by rw [World.cell?_alloc_at _ e _ _ rfl]; rfl, by rw [World.cell?_alloc_at _ e _ _ rfl]; rfl, by rw [World.cell?_alloc_at _ e _ _ rfl]; rfl, isSt_nil _, d_sa (by dsimp only; omega)⟩
  · exact ⟨A, 0, 0, 0, 0, none, 0, 0, [], by rw [World.cell?_alloc_at _ e _ _ rfl]; rfl, by rw [World.cell?_alloc_at _ e _ _ rfl]; rfl, by rw [World.cell?_alloc_at _ e _ _ rfl]; rfl, by rw [World.cell?_alloc_at _ e _ _ rfl]; rfl, by rw [World.cell?_alloc_at _ e _ _ rfl]; rfl, by rw [World.cell?_alloc_at _ e _ _ rfl]; rfl, isSt_nil _, d_sa (by dsimp only; omega)⟩
  · exact ⟨0, M, 0, 0, 0, none, 0, 0, [], by rw [World.cell?_alloc_at _ e _ _ rfl]; rfl, by rw [World.cell?_alloc_at _ e _ _ rfl]; rfl, by rw [World.cell?_alloc_at _ e _ _ rfl]; rfl, by rw [World.cell?_alloc_at _ e _ _ rfl]; rfl, by rw [World.cell?_alloc_at _ e _ _ rfl]; rfl, by rw [World.cell?_alloc_at _ e _ _ rfl]; rfl, isSt_nil _, d_su (by dsimp only; omega)⟩
  · exact ⟨0, B, 0, 0, 0, none, 0, 0, [], by rw [World.cell?_alloc_at _ e _ _ rfl]; rfl, by rw [World.cell?_alloc_at _ e _ _ rfl]; rfl, by rw [World.cell?_alloc_at _ e _ _ rfl]; rfl, by rw [World.cell?_alloc_at _ e _ _ rfl]; rfl, by rw [World.cell?_alloc_at _ e _ _ rfl]; rfl, by rw [World.cell?_alloc_at _ e _ _ rfl]; rfl, isSt_nil _, d_su (by dsimp only; omega)⟩
  · exact ⟨0, 0, M, 0, 0, none, 0, 0, [], by rw [World.cell?_alloc_at _ e _ _ rfl]; rfl, by rw [World.cell?_alloc_at _ e _ _ rfl]; rfl, by rw [World.cell?_alloc_at _ e _ _ rfl]; rfl, by rw [World.cell?_alloc_at _ e _ _ rfl]; rfl, by rw [World.cell?_alloc_at _ e _ _ rfl]; rfl, by rw [World.cell?_alloc_at _ e _ _ rfl]; rfl, isSt_nil _, d_nx (by dsimp only; omega)⟩
  · exact ⟨0, 0, C, 0, 0, none, 0, 0, [], by rw [World.cell?_alloc_at _ e _ _ rfl]; rfl, by rw [World.cell?_alloc_at _ e _ _ rfl]; rfl, by rw [World.cell?_alloc_at _ e _ _ rfl]; rfl, by rw [World.cell?_alloc_at _ e _ _ rfl]; rfl, by rw [World.cell?_alloc_at _ e _ _ rfl]; rfl, by rw [World.cell?_alloc_at _ e _ _ rfl]; rfl, isSt_nil _, d_nx (by dsimp only; omega)⟩
  · exact ⟨0, 0, 0, M, 0, none, 0, 0, [], by rw [World.cell?_alloc_at _ e _ _ rfl]; rfl, by rw [World.cell?_alloc_at _ e _ _ rfl]; rfl, by rw [World.cell?_alloc_at _ e _ _ rfl]; rfl, by rw [World.cell?_alloc_at _ e _ _ rfl]; rfl, by rw [World.cell?_alloc_at _ e _ _ rfl]; rfl, by rw [World.cell?_alloc_at _ e _ _ rfl]; rfl, isSt_nil _, d_gt (by dsimp only; omega)⟩
  · exact ⟨0, 0, 0, E, 0, none, 0, 0, [], by rw [World.cell?_alloc_at _ e _ _ rfl]; rfl, by rw [World.cell?_alloc_at _ e _ _ rfl]; rfl, by rw [World.cell?_alloc_at _ e _ _ rfl]; rfl, by rw [World.cell?_alloc_at _ e _ _ rfl]; rfl, by rw [World.cell?_alloc_at _ e _ _ rfl]; rfl, by rw [World.cell?_alloc_at _ e _ _ rfl]; rfl, isSt_nil _, d_gt (by dsimp only; omega)⟩
  · exact ⟨0, 0, 0, 0, M, none, 0, 0, [], by rw [World.cell?_alloc_at _ e _ _ rfl]; rfl, by rw [World.cell?_alloc_at _ e _ _ rfl]; rfl, by rw [World.cell?_alloc_at _ e _ _ rfl]; rfl, by rw [World.cell?_alloc_at _ e _ _ rfl]; rfl, by rw [World.cell?_alloc_at _ e _ _ rfl]; rfl, by rw [World.cell?_alloc_at _ e _ _ rfl]; rfl, isSt_nil _, d_sl (by dsimp only; omega)⟩
  · exact ⟨0, 0, 0, 0, F, none, 0, 0, [], by rw [World.cell?_alloc_at _ e _ _ rfl]; rfl, by rw [World.cell?_alloc_at _ e _ _ rfl]; rfl, by rw [World.cell?_alloc_at _ e _ _ rfl]; rfl, by rw [World.cell?_alloc_at _ e _ _ rfl]; rfl, by rw [World.cell?_alloc_at _ e _ _ rfl]; rfl, by rw [World.cell?_alloc_at _ e _ _ rfl]; rfl, isSt_nil _, d_sl (by dsimp only; omega)⟩
  · exact ⟨0, 0, 0, 0, 0, some ⟨p, 0, none⟩, 1, 1, [⟨false, 2, ⟨#[97, 98, 99, 100]⟩⟩], by rw [World.cell?_alloc_at _ e _ _ rfl]; rfl, by rw [World.cell?_alloc_at _ e _ _ rfl]; rfl, by rw [World.cell?_alloc_at _ e _ _ rfl]; rfl, by rw [World.cell?_alloc_at _ e _ _ rfl]; rfl, by rw [World.cell?_alloc_at _ e _ _ rfl]; rfl, by rw [World.cell?_alloc_at _ e _ _ rfl]; rfl, h1.below (hal _ _), d_st bad1⟩
  · exact ⟨0, 0, 0, 0, 0, some ⟨p + 1, 0, none⟩, 2, 2, [⟨true, 0, ⟨#[]⟩⟩, ⟨true, 4, ⟨#[]⟩⟩], by rw [World.cell?_alloc_at _ e _ _ rfl]; rfl, by rw [World.cell?_alloc_at _ e _ _ rfl]; rfl, by rw [World.cell?_alloc_at _ e _ _ rfl]; rfl, by rw [World.cell?_alloc_at _ e _ _ rfl]; rfl, by rw [World.cell?_alloc_at _ e _ _ rfl]; rfl, by rw [World.cell?_alloc_at _ e _ _ rfl]; rfl, h2.below (hal _ _), d_st bad2⟩
/-- The statuses that no device fails with: whichever is taken. -/
theorem sts (W : World) (e : TypeId) (M B : Int) (hM : M < 0) (hB : 6 < B) (m : Nat) (hm : m < 3) : ∃ t, (W.alloc (.cells #[.int .i64 M, .int .i64 B, .int .i64 0] e)).cell? ⟨W.heap.size, m, none⟩ = some (.int .i64 t) ∧ failB ⟨0, 0, 0, 0, 0, []⟩ t = false := by
  have no : ∀ t : Int, ¬ (1 ≤ t ∧ t ≤ 6) → failB ⟨0, 0, 0, 0, 0, []⟩ t = false := fun t h => by
    unfold failB
    rw [show flB t = false from decide_eq_false h]
    simp
  rcases (by omega : m = 0 ∨ m = 1 ∨ m = 2) with rfl | rfl | rfl
  · exact ⟨M, by rw [World.cell?_alloc_at _ e _ _ rfl]; rfl, no _ (by omega)⟩
  · exact ⟨B, by rw [World.cell?_alloc_at _ e _ _ rfl]; rfl, no _ (by omega)⟩
  · exact ⟨0, by rw [World.cell?_alloc_at _ e _ _ rfl]; rfl, no _ (by omega)⟩
theorem fail_no {d : FDev} (h : devB d = false) (s : Int) : failB d s = false := by unfold failB; rw [h]; rfl
set_option maxRecDepth 100000 in
set_option maxHeartbeats 8000000 in
theorem walk (a0 : Int) (a1 : Int) (w0 : (Lit.int .i64 a0).wf = true) (w1 : (Lit.int .i64 a1).wf = true) (w : World) :
    Calls Try.prog 4 #[.int .i64 a0, .int .i64 a1] w fun e w' => e = .returned (.bool true) ∧ Below w.heap.size w w' := by
  have HA := hide awake_any
  obtain ⟨k, hk, mk⟩ : ∃ k : Nat, k ≤ 1023 ∧ bits .and .i64 a1 1023 = (k : Int) := mask_i64 a1 1023 (by omega)
  obtain ⟨n, hn, mn⟩ : ∃ k : Nat, k < 12 ∧ wrap64 ((IntKind.u64.wrap a0).tmod 12) = (k : Int) := mod_u64 a0 12 (by omega) (by omega)
  obtain ⟨m, hm, mm⟩ : ∃ k : Nat, k < 3 ∧ wrap64 ((IntKind.u64.wrap a0).tmod 3) = (k : Int) := mod_u64 a0 3 (by omega) (by omega)
  obtain ⟨D, hD⟩ : ∃ D : Nat, D = 1 + k := ⟨_, rfl⟩
  have hD1 : (1 : Int) + (k : Int) = (D : Int) := by omega
  obtain ⟨A, hA⟩ : ∃ A : Nat, A = 7 + D := ⟨_, rfl⟩
  have hA1 : (7 : Int) + (D : Int) = (A : Int) := by omega
  obtain ⟨B, hB⟩ : ∃ B : Nat, B = 6 + D := ⟨_, rfl⟩
  have hB1 : (6 : Int) + (D : Int) = (B : Int) := by omega
  obtain ⟨C, hC⟩ : ∃ C : Nat, C = 16 + D := ⟨_, rfl⟩
  have hC1 : (16 : Int) + (D : Int) = (C : Int) := by omega
  obtain ⟨E, hE⟩ : ∃ E : Nat, E = 288 + D := ⟨_, rfl⟩
  have hE1 : (288 : Int) + (D : Int) = (E : Int) := by omega
  obtain ⟨F, hF⟩ : ∃ F : Nat, F = 1 + D := ⟨_, rfl⟩
  have hF1 : (1 : Int) + (D : Int) = (F : Int) := by omega
  have hD2 : 1 ≤ D := by omega
  have hD3 : D ≤ 1024 := by omega
  have HBD : Hid (-(D : Int) < 0 ∧ 7 < (A : Int) ∧ 6 < (B : Int) ∧ 16 < (C : Int) ∧ 288 < (E : Int) ∧ 1 < (F : Int)) := by show _ ∧ _; omega
  have hM1 : wrap64 (-(D : Int)) = -(D : Int) := by unfold wrap64; omega
  have g1 := build_a
  have g2 := build_u
  have g3 := build_x
  have g4 := build_g
  have g5 := build_l
  have g6 := build_o
  have g7 := OpsWalk.build_at
  have g8 := OpsWalk.build_er
  have g9 := OpsWalk.build_er_at
  clear hD hk hA hB hC hE hF
  go_enter Try.func4, Try.ntmps4
  go_upto_region 4 with (go_at_call 16; refine (HA.out _).mono ?_; rintro e w1 ⟨rfl, hb1⟩)
  obtain ⟨sa, su, nx, gt, sl, a, len, cap, l, hc0, hc1, hc2, hc3, hc4, hc5, hst, hno⟩ := bads ((w1.alloc (.cells #[.bool false, .int .i64 2, .string ⟨#[97, 98, 99, 100]⟩] 38)).alloc (.cells #[.bool true, .int .i64 0, .string ⟨#[]⟩, .bool true, .int .i64 4, .string ⟨#[]⟩] 38)) 24 w1.heap.size (-(D : Int)) (A : Int) (B : Int) (C : Int) (E : Int) (F : Int) HBD.out.1 HBD.out.2.1 HBD.out.2.2.1 HBD.out.2.2.2.1 HBD.out.2.2.2.2.1 HBD.out.2.2.2.2.2 ((madeS_is w1 [⟨false, 2, ⟨#[97, 98, 99, 100]⟩⟩] 38 1 rfl (by decide)).below (hal _ _)) (by have h := madeS_is (w1.alloc (.cells #[.bool false, .int .i64 2, .string ⟨#[97, 98, 99, 100]⟩] 38)) [⟨true, 0, ⟨#[]⟩⟩, ⟨true, 4, ⟨#[]⟩⟩] 38 2 rfl (by decide); rwa [show (w1.alloc (.cells #[.bool false, .int .i64 2, .string ⟨#[97, 98, 99, 100]⟩] 38)).heap.size = w1.heap.size + 1 from by simp] at h) n hn
  rw [show ((w1.alloc (.cells #[.bool false, .int .i64 2, .string ⟨#[97, 98, 99, 100]⟩] 38)).alloc (.cells #[.bool true, .int .i64 0, .string ⟨#[]⟩, .bool true, .int .i64 4, .string ⟨#[]⟩] 38)).heap.size = w1.heap.size + 1 + 1 from by simp] at hc0 hc1 hc2 hc3 hc4 hc5
  clear HA
  have HN := hide hno
  have HS := hide hst
  clear hno hst
  go_upto_region 5 with fail
  have hX := sixM (((w1.alloc (.cells #[.bool false, .int .i64 2, .string ⟨#[97, 98, 99, 100]⟩] 38)).alloc (.cells #[.bool true, .int .i64 0, .string ⟨#[]⟩, .bool true, .int .i64 4, .string ⟨#[]⟩] 38)).alloc (.cells (List.toArray (.int .i64 (-(D : Int)) :: .int .i64 0 :: .int .i64 0 :: .int .i64 0 :: .int .i64 0 :: .slice none 0 0 :: .int .i64 (A : Int) :: .int .i64 0 :: .int .i64 0 :: .int .i64 0 :: .int .i64 0 :: .slice none 0 0 :: .int .i64 0 :: .int .i64 (-(D : Int)) :: .int .i64 0 :: .int .i64 0 :: .int .i64 0 :: .slice none 0 0 :: .int .i64 0 :: .int .i64 (B : Int) :: .int .i64 0 :: .int .i64 0 :: .int .i64 0 :: .slice none 0 0 :: .int .i64 0 :: .int .i64 0 :: .int .i64 (-(D : Int)) :: .int .i64 0 :: .int .i64 0 :: .slice none 0 0 :: .int .i64 0 :: .int .i64 0 :: .int .i64 (C : Int) :: .int .i64 0 :: .int .i64 0 :: .slice none 0 0 :: .int .i64 0 :: .int .i64 0 :: .int .i64 0 :: .int .i64 (-(D : Int)) :: .int .i64 0 :: .slice none 0 0 :: .int .i64 0 :: .int .i64 0 :: .int .i64 0 :: .int .i64 (E : Int) :: .int .i64 0 :: .slice none 0 0 :: .int .i64 0 :: .int .i64 0 :: .int .i64 0 :: .int .i64 0 :: .int .i64 (-(D : Int)) :: .slice none 0 0 :: .int .i64 0 :: .int .i64 0 :: .int .i64 0 :: .int .i64 0 :: .int .i64 (F : Int) :: .slice none 0 0 :: .int .i64 0 :: .int .i64 0 :: .int .i64 0 :: .int .i64 0 :: .int .i64 0 :: .slice (some ⟨w1.heap.size, 0, none⟩) 1 1 :: .int .i64 0 :: .int .i64 0 :: .int .i64 0 :: .int .i64 0 :: .int .i64 0 :: .slice (some ⟨w1.heap.size + 1, 0, none⟩) 2 2 :: [])) 24)) (.int .i64 sa) (.int .i64 su) (.int .i64 nx) (.int .i64 gt) (.int .i64 sl) (.slice a len cap) 24
  rw [show (((w1.alloc (.cells #[.bool false, .int .i64 2, .string ⟨#[97, 98, 99, 100]⟩] 38)).alloc (.cells #[.bool true, .int .i64 0, .string ⟨#[]⟩, .bool true, .int .i64 4, .string ⟨#[]⟩] 38)).alloc (.cells (List.toArray (.int .i64 (-(D : Int)) :: .int .i64 0 :: .int .i64 0 :: .int .i64 0 :: .int .i64 0 :: .slice none 0 0 :: .int .i64 (A : Int) :: .int .i64 0 :: .int .i64 0 :: .int .i64 0 :: .int .i64 0 :: .slice none 0 0 :: .int .i64 0 :: .int .i64 (-(D : Int)) :: .int .i64 0 :: .int .i64 0 :: .int .i64 0 :: .slice none 0 0 :: .int .i64 0 :: .int .i64 (B : Int) :: .int .i64 0 :: .int .i64 0 :: .int .i64 0 :: .slice none 0 0 :: .int .i64 0 :: .int .i64 0 :: .int .i64 (-(D : Int)) :: .int .i64 0 :: .int .i64 0 :: .slice none 0 0 :: .int .i64 0 :: .int .i64 0 :: .int .i64 (C : Int) :: .int .i64 0 :: .int .i64 0 :: .slice none 0 0 :: .int .i64 0 :: .int .i64 0 :: .int .i64 0 :: .int .i64 (-(D : Int)) :: .int .i64 0 :: .slice none 0 0 :: .int .i64 0 :: .int .i64 0 :: .int .i64 0 :: .int .i64 (E : Int) :: .int .i64 0 :: .slice none 0 0 :: .int .i64 0 :: .int .i64 0 :: .int .i64 0 :: .int .i64 0 :: .int .i64 (-(D : Int)) :: .slice none 0 0 :: .int .i64 0 :: .int .i64 0 :: .int .i64 0 :: .int .i64 0 :: .int .i64 (F : Int) :: .slice none 0 0 :: .int .i64 0 :: .int .i64 0 :: .int .i64 0 :: .int .i64 0 :: .int .i64 0 :: .slice (some ⟨w1.heap.size, 0, none⟩) 1 1 :: .int .i64 0 :: .int .i64 0 :: .int .i64 0 :: .int .i64 0 :: .int .i64 0 :: .slice (some ⟨w1.heap.size + 1, 0, none⟩) 2 2 :: [])) 24)).heap.size = w1.heap.size + 1 + 1 + 1 from by simp] at hX
  have hB := thenB (thenB (thenB (thenB hb1 (hal w1 (.cells #[.bool false, .int .i64 2, .string ⟨#[97, 98, 99, 100]⟩] 38))) (hal _ (.cells #[.bool true, .int .i64 0, .string ⟨#[]⟩, .bool true, .int .i64 4, .string ⟨#[]⟩] 38))) (hal _ (.cells (List.toArray (.int .i64 (-(D : Int)) :: .int .i64 0 :: .int .i64 0 :: .int .i64 0 :: .int .i64 0 :: .slice none 0 0 :: .int .i64 (A : Int) :: .int .i64 0 :: .int .i64 0 :: .int .i64 0 :: .int .i64 0 :: .slice none 0 0 :: .int .i64 0 :: .int .i64 (-(D : Int)) :: .int .i64 0 :: .int .i64 0 :: .int .i64 0 :: .slice none 0 0 :: .int .i64 0 :: .int .i64 (B : Int) :: .int .i64 0 :: .int .i64 0 :: .int .i64 0 :: .slice none 0 0 :: .int .i64 0 :: .int .i64 0 :: .int .i64 (-(D : Int)) :: .int .i64 0 :: .int .i64 0 :: .slice none 0 0 :: .int .i64 0 :: .int .i64 0 :: .int .i64 (C : Int) :: .int .i64 0 :: .int .i64 0 :: .slice none 0 0 :: .int .i64 0 :: .int .i64 0 :: .int .i64 0 :: .int .i64 (-(D : Int)) :: .int .i64 0 :: .slice none 0 0 :: .int .i64 0 :: .int .i64 0 :: .int .i64 0 :: .int .i64 (E : Int) :: .int .i64 0 :: .slice none 0 0 :: .int .i64 0 :: .int .i64 0 :: .int .i64 0 :: .int .i64 0 :: .int .i64 (-(D : Int)) :: .slice none 0 0 :: .int .i64 0 :: .int .i64 0 :: .int .i64 0 :: .int .i64 0 :: .int .i64 (F : Int) :: .slice none 0 0 :: .int .i64 0 :: .int .i64 0 :: .int .i64 0 :: .int .i64 0 :: .int .i64 0 :: .slice (some ⟨w1.heap.size, 0, none⟩) 1 1 :: .int .i64 0 :: .int .i64 0 :: .int .i64 0 :: .int .i64 0 :: .int .i64 0 :: .slice (some ⟨w1.heap.size + 1, 0, none⟩) 2 2 :: [])) 24))) (hal _ (.cells #[.int .i64 sa, .int .i64 su, .int .i64 nx, .int .i64 gt, .int .i64 sl, .slice a len cap] 24))
  have hst := HS.out.below (hal _ (.cells #[.int .i64 sa, .int .i64 su, .int .i64 nx, .int .i64 gt, .int .i64 sl, .slice a len cap] 24))
  generalize (((w1.alloc (.cells #[.bool false, .int .i64 2, .string ⟨#[97, 98, 99, 100]⟩] 38)).alloc (.cells #[.bool true, .int .i64 0, .string ⟨#[]⟩, .bool true, .int .i64 4, .string ⟨#[]⟩] 38)).alloc (.cells (List.toArray (.int .i64 (-(D : Int)) :: .int .i64 0 :: .int .i64 0 :: .int .i64 0 :: .int .i64 0 :: .slice none 0 0 :: .int .i64 (A : Int) :: .int .i64 0 :: .int .i64 0 :: .int .i64 0 :: .int .i64 0 :: .slice none 0 0 :: .int .i64 0 :: .int .i64 (-(D : Int)) :: .int .i64 0 :: .int .i64 0 :: .int .i64 0 :: .slice none 0 0 :: .int .i64 0 :: .int .i64 (B : Int) :: .int .i64 0 :: .int .i64 0 :: .int .i64 0 :: .slice none 0 0 :: .int .i64 0 :: .int .i64 0 :: .int .i64 (-(D : Int)) :: .int .i64 0 :: .int .i64 0 :: .slice none 0 0 :: .int .i64 0 :: .int .i64 0 :: .int .i64 (C : Int) :: .int .i64 0 :: .int .i64 0 :: .slice none 0 0 :: .int .i64 0 :: .int .i64 0 :: .int .i64 0 :: .int .i64 (-(D : Int)) :: .int .i64 0 :: .slice none 0 0 :: .int .i64 0 :: .int .i64 0 :: .int .i64 0 :: .int .i64 (E : Int) :: .int .i64 0 :: .slice none 0 0 :: .int .i64 0 :: .int .i64 0 :: .int .i64 0 :: .int .i64 0 :: .int .i64 (-(D : Int)) :: .slice none 0 0 :: .int .i64 0 :: .int .i64 0 :: .int .i64 0 :: .int .i64 0 :: .int .i64 (F : Int) :: .slice none 0 0 :: .int .i64 0 :: .int .i64 0 :: .int .i64 0 :: .int .i64 0 :: .int .i64 0 :: .slice (some ⟨w1.heap.size, 0, none⟩) 1 1 :: .int .i64 0 :: .int .i64 0 :: .int .i64 0 :: .int .i64 0 :: .int .i64 0 :: .slice (some ⟨w1.heap.size + 1, 0, none⟩) 2 2 :: [])) 24)).alloc (.cells #[.int .i64 sa, .int .i64 su, .int .i64 nx, .int .i64 gt, .int .i64 sl, .slice a len cap] 24) = W4 at *
  generalize w1.heap.size + 1 + 1 + 1 = X at *
  clear hc0 hc1 hc2 hc3 hc4 hc5 g1 g2 g3 g4 g5 g6 g7 g9 mn mk hE1 hA1 hC1 hF1 hD1 hn hb1 HS
  have CF := hide fun w' h => fail_any ⟨sa, su, nx, gt, sl, l⟩ (.slice a len cap) 3 w' h
  have CM := hide fun w' h => dmay_any ⟨sa, su, nx, gt, sl, l⟩ (.slice a len cap) w' h
  rw [fail_no HN.out 3] at CF
  rw [HN.out] at CM
  dsimp only [faSa, faSu, errD] at CF CM
  simp only [Bool.false_eq_true, if_false] at CF
  clear HN
  go_upto_region 6 with (go_at_call 8; refine (CF.out _ hst).mono ?_; rintro e w2 ⟨rfl, hb⟩; replace hB := thenB hB hb; replace hX := sixB hX hb; replace hst := hst.below hb; clear hb)
  have hY := sixM w2 (.int .i64 0) (.int .i64 0) (.int .i64 0) (.int .i64 0) (.int .i64 0) (.slice none 0 0) 24
  have hn := hal w2 (.cells #[.int .i64 0, .int .i64 0, .int .i64 0, .int .i64 0, .int .i64 0, .slice none 0 0] 24)
  replace hX := sixB hX hn
  replace hst := hst.below hn
  replace hB := thenB hB hn
  clear hn
  generalize w2.alloc (.cells #[.int .i64 0, .int .i64 0, .int .i64 0, .int .i64 0, .int .i64 0, .slice none 0 0] 24) = W5 at *
  generalize w2.heap.size = Y at *
  obtain ⟨t, ht, hno⟩ := sts W5 3 (-(D : Int)) (B : Int) HBD.out.1 HBD.out.2.2.1 m hm
  have CG := hide fun w => fail_bare hno w
  simp only [faSa, faSu, errD, Bool.false_eq_true, if_false] at CG
  have hn := hal W5 (.cells #[.int .i64 (-(D : Int)), .int .i64 (B : Int), .int .i64 0] 3)
  replace hX := sixB hX hn
  replace hY := sixB hY hn
  replace hst := hst.below hn
  replace hB := thenB hB hn
  clear hn hno HBD CF
  have g0 := build_d0
  go_upto_region 7 with (go_at_call 8; refine (CG.out _).mono ?_; rintro e w3 ⟨rfl, hb⟩; replace hB := thenB hB hb; replace hX := sixB hX hb; replace hY := sixB hY hb; replace hst := hst.below hb; clear hb)
  have hZ := sixM w3 (.int .i64 0) (.int .i64 0) (.int .i64 0) (.int .i64 0) (.int .i64 0) (.slice none 0 0) 24
  have hn := hal w3 (.cells #[.int .i64 0, .int .i64 0, .int .i64 0, .int .i64 0, .int .i64 0, .slice none 0 0] 24)
  replace hX := sixB hX hn
  replace hY := sixB hY hn
  replace hst := hst.below hn
  replace hB := thenB hB hn
  clear hn ht hM1 hB1 mm hm hD2 hD3 CG
  generalize w3.alloc (.cells #[.int .i64 0, .int .i64 0, .int .i64 0, .int .i64 0, .int .i64 0, .slice none 0 0] 24) = W7 at *
  generalize w3.heap.size = V at *
  have g10 := build_m
  go_wp2_with fail
  refine (CM.out _ hst).mono ?_; rintro e w4 ⟨rfl, hb⟩; replace hB := thenB hB hb; replace hY := sixB hY hb; replace hZ := sixB hZ hb; clear hb hst hX CM
  have hm := madeS_is w4 [⟨true, 0, ⟨#[]⟩⟩] 38 1 rfl (by decide)
  have hn := hal w4 (.cells #[.bool true, .int .i64 0, .string ⟨#[]⟩] 38)
  replace hY := sixB hY hn
  replace hZ := sixB hZ hn
  replace hB := thenB hB hn
  clear hn
  have CK : Hid (Calls Try.prog 12 #[.agg #[.int .i64 0, .int .i64 0, .int .i64 16, .int .i64 288, .int .i64 1, .slice (some ⟨w4.heap.size, 0, none⟩) 1 1]] (w4.alloc (.cells #[.bool true, .int .i64 0, .string ⟨#[]⟩] 38)) fun r w' => r = .returned (.bool true) ∧ Below (w4.alloc (.cells #[.bool true, .int .i64 0, .string ⟨#[]⟩] 38)).heap.size (w4.alloc (.cells #[.bool true, .int .i64 0, .string ⟨#[]⟩] 38)) w') := by
    have g := dmay_any ⟨0, 0, 16, 288, 1, [⟨true, 0, ⟨#[]⟩⟩]⟩ _ _ hm
    rw [good1] at g
    exact g
  clear hm
  go_wp2_with fail
  refine CK.out.mono ?_; rintro e w5 ⟨rfl, hb⟩; replace hB := thenB hB hb; replace hY := sixB hY hb; replace hZ := sixB hZ hb; clear hb CK
  go_wp2_with (first | (go_at_call 11; refine (num_any _ _).mono ?_; rintro e w' ⟨rfl, rfl⟩) | (go_at_call 10; refine (same_bare _ _ _ _ _ _).mono ?_; rintro e w' ⟨rfl, hb⟩; replace hB := thenB hB hb; replace hY := sixB hY hb; replace hZ := sixB hZ hb; clear hb))
  go_ret
  exact ⟨rfl, hB⟩

set_option maxRecDepth 100000 in
theorem lifted (os : Os) (started : os.Started) (H : Type) (enc : TypeId × Value → H) :
    ReturnsInHanded {} Try.checked os 4 .any (Rows.deviceFormsSpec.pre6 enc Try.prog Try.f4 Rows.deviceFormsRow.domain false) (Rows.deviceFormsSpec.post enc Try.prog Try.f4 false true false false) := by
  refine returnsInHanded_of_change (C := Try.checked) own started (by kernel_rfl) Try.func4
    (ChangeSpec.witness6 (enc := enc) (C := Try.checked) false ⟨#[], #[.int .i64 0, .int .i64 0], []⟩ 8 (by kernel_rfl) (by kernel_rfl) (by kernel_rfl) (by kernel_rfl)) ?_
  intro W base args ds gs before hval0 hW hcnd _
  have hval : ∀ (j : Nat) t v, Try.f4.params[j]? = some t → args[j]? = some v → Value.okWide Try.prog W .any base t v := hval0
  have hW' := hW
  obtain ⟨p, q, hA0, hV, rfl, hfz, hnd⟩ := hW
  have hA : DataW.TrodAll enc Try.prog W 0 (fun _ => true) true Try.f4.params.toList args.toList ds p := hA0
  rw [Try.params4] at hA hval
  obtain ⟨v0, vs0, d0, ds0, p0, q0, hargs, rfl, rfl, h0, r0⟩ := trodAll_cons hA
  obtain ⟨v1, vs1, d1, ds1, p1, q1, rfl, rfl, rfl, h1, r1⟩ := trodAll_cons r0
  obtain ⟨rfl, rfl, rfl⟩ := trodAll_nil r1
  obtain rfl : args = #[v0, v1] := by cases args; simp_all
  obtain ⟨rfl, rfl⟩ := trodVars_none hV
  obtain ⟨a0, rfl, rfl, rfl, w0⟩ := open_int Try.underlying3 (hval 0 3 v0 rfl rfl) h0
  obtain ⟨a1, rfl, rfl, rfl, w1⟩ := open_int Try.underlying3 (hval 1 3 v1 rfl rfl) h1
  clear hA0 hval0
  refine (walk a0 a1 w0 w1 W).mono fun e W' ⟨he, bel⟩ => ?_
  subst he
  exact ⟨_, rfl, _, _, _, [], _, [], hW', (trodAll_cons_mk (shut_bool Try.underlying4 _) trodAll_mk0), (trodAll_cons_mk (shut_int Try.underlying3 w0) (trodAll_cons_mk (shut_int Try.underlying3 w1) trodAll_mk0)), rfl, bel.frame _, fun h => by cases h⟩

theorem over : Rows.deviceFormsRow.holds Try.pinned (OpenSpec.ofChange Rows.deviceFormsSpec) :=
  OpenClaim.holds_of_wide 4 Try.f4 rfl rfl rfl rfl rfl rfl rfl ⟨rfl, rfl, rfl, rfl, rfl⟩ rfl rfl rfl rfl rfl (by kernel_rfl) Try.func4 (by kernel_rfl)
    (of_decide_eq_true (by kernel_rfl)) (by unfold Func.isWrapper; first | (rw [if_pos (by decide +kernel)]; kernel_rfl) | (rw [if_neg (by decide +kernel)]; exact ⟨rfl, rfl⟩))
    (fun os started H enc _ => lifted os started H enc)

theorem proved : Rows.DeviceFormsSaid :=
  over
#print axioms proved
end Go.Proofs.Ytebbficaolommaa.deviceForms
