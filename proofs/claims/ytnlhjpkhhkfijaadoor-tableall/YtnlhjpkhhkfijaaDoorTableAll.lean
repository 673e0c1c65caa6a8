/- Whatever the three numbers: the law TableAll returns true (what may be asked when, all of it), and the arguments read as they did; the variable 'skiff/table.allowed' reads as the program's text lays it (a tied card). -/
import Derived.Test.YtnlhjpkhhkfijaaDoorRows
import Derived.Test.YtnlhjpkhhkfijaaDoorNorMath
import Derived.Test.YtnlhjpkhhkfijaaDoorBytes
import Derived.Test.YtnlhjpkhhkfijaaDoorNorWalk
import Derived.Test.YtnlhjpkhhkfijaaDoorOpsMath
import Derived.Test.YtnlhjpkhhkfijaaDoorOpsRow
import Derived.Test.YtnlhjpkhhkfijaaDoorCrcMath
import Derived.Test.YtnlhjpkhhkfijaaDoorEntMath
import Derived.Test.YtnlhjpkhhkfijaaDoorEntRow
import Derived.Test.YtnlhjpkhhkfijaaDoorEntLow
import Derived.Test.YtnlhjpkhhkfijaaDoorEntWalk
import Derived.Test.YtnlhjpkhhkfijaaDoorSufMath
import Derived.Test.YtnlhjpkhhkfijaaDoorSetMath
import Derived.Test.YtnlhjpkhhkfijaaDoorSetWalk
import Derived.Test.YtnlhjpkhhkfijaaDoorAnsMath
import Derived.Test.YtnlhjpkhhkfijaaDoorAnsWalk
import Derived.Test.YtnlhjpkhhkfijaaDoorTabMath
import Derived.Test.YtnlhjpkhhkfijaaDoorTabLaid
import Derived.Test.YtnlhjpkhhkfijaaDoorTabWalk
import Derived.Test.YtnlhjpkhhkfijaaDoorTabAwake
import Derived.WalkKit
import Derived.ProofKit
import Derived.OpenShut
import Derived.ShutString
import Derived.ChangeOld
import Derived.Below
import Derived.Test.YtnlhjpkhhkfijaaDoorCards
import Derived.Test.YtnlhjpkhhkfijaaDoorTie
import Derived.LaidMore
import Derived.Handed
import Derived.LaidLaws
namespace Go.Proofs.YtnlhjpkhhkfijaaDoor.tableAll
open Go.ChangeShapes Go.WideShapes Go.ChangeAt Go.RowKit
open Go.ChangeMaps (open_string shut_string)
set_option linter.unusedVariables false

open Go.Proofs.YtnlhjpkhhkfijaaDoor.Bytes
open Go.Proofs.YtnlhjpkhhkfijaaDoor.Tab
open Go.Proofs.YtnlhjpkhhkfijaaDoor.TabLaid
open Go.Proofs.YtnlhjpkhhkfijaaDoor.TabWalk
open Go.Proofs.YtnlhjpkhhkfijaaDoor.TabAwake
theorem own : ownKnob Tryd.prog.godebug = none := by kernel_rfl
theorem laidOut : laidOutB Tryd.prog = true := by kernel_rfl
theorem door_met (os : Os) (args : Array Value) : laidMetH Tryd.prog Rows.tableAllRow.laid ((World.doorLaid Tryd.prog 22 os).forCall (fun _ _ => 0) ⟨#[], args, []⟩).memory :=
  laidMetH_of_parts3 (fuel := 8) (laidMet_of_run' 8 (by kernel_rfl) (by kernel_rfl)) (by kernel_rfl) (by kernel_rfl)

theorem hal (w : World) (o : Obj) : Below w.heap.size w (w.alloc o) := (Below.refl _ w).alloc (Nat.le_refl _) o
/-- What the state's text tells of a request's letter is what the table tells. -/
theorem told (m : Nat) (t : ByteArray) (h0 : ∀ h, tabB (m : Int) ((0 : Nat) : Int) = t.data.toList.any (· == (⟨#[45, 100, 117, 103, 99, 115, 97]⟩ : ByteArray)[0]'h)) (h1 : ∀ h, tabB (m : Int) ((1 : Nat) : Int) = t.data.toList.any (· == (⟨#[45, 100, 117, 103, 99, 115, 97]⟩ : ByteArray)[1]'h)) (h2 : ∀ h, tabB (m : Int) ((2 : Nat) : Int) = t.data.toList.any (· == (⟨#[45, 100, 117, 103, 99, 115, 97]⟩ : ByteArray)[2]'h)) (h3 : ∀ h, tabB (m : Int) ((3 : Nat) : Int) = t.data.toList.any (· == (⟨#[45, 100, 117, 103, 99, 115, 97]⟩ : ByteArray)[3]'h)) (h4 : ∀ h, tabB (m : Int) ((4 : Nat) : Int) = t.data.toList.any (· == (⟨#[45, 100, 117, 103, 99, 115, 97]⟩ : ByteArray)[4]'h)) (h5 : ∀ h, tabB (m : Int) ((5 : Nat) : Int) = t.data.toList.any (· == (⟨#[45, 100, 117, 103, 99, 115, 97]⟩ : ByteArray)[5]'h)) (h6 : ∀ h, tabB (m : Int) ((6 : Nat) : Int) = t.data.toList.any (· == (⟨#[45, 100, 117, 103, 99, 115, 97]⟩ : ByteArray)[6]'h))
    (n : Nat) (hn : n < 7) (h : n < (⟨#[45, 100, 117, 103, 99, 115, 97]⟩ : ByteArray).size) : tabB (m : Int) (n : Int) = t.data.toList.any (· == (⟨#[45, 100, 117, 103, 99, 115, 97]⟩ : ByteArray)[n]'h) := by
  rcases (by omega : n = 0 ∨ n = 1 ∨ n = 2 ∨ n = 3 ∨ n = 4 ∨ n = 5 ∨ n = 6) with rfl | rfl | rfl | rfl | rfl | rfl | rfl
  · exact h0 h
  · exact h1 h
  · exact h2 h
  · exact h3 h
  · exact h4 h
  · exact h5 h
  · exact h6 h
/-- The state's text, whichever it is. -/
theorem texts (w : World) (e : TypeId) (m : Nat) (hm : m ≤ 7) : ∃ t, (w.alloc (.cells #[.string ⟨#[100, 117, 103, 115, 97]⟩, .string ⟨#[103, 115]⟩, .string ⟨#[103, 115]⟩, .string ⟨#[100, 103, 115, 97]⟩, .string ⟨#[103, 115]⟩, .string ⟨#[103, 115]⟩, .string ⟨#[117, 103, 115, 97]⟩, .string ⟨#[103, 99, 115]⟩] e)).cell? ⟨w.heap.size, m, none⟩ = some (.string t) ∧ t.size ≤ 5 ∧ ∀ n : Nat, n < 7 → ∀ h, tabB (m : Int) (n : Int) = t.data.toList.any (· == (⟨#[45, 100, 117, 103, 99, 115, 97]⟩ : ByteArray)[n]'h) := by
  rcases (by omega : m = 0 ∨ m = 1 ∨ m = 2 ∨ m = 3 ∨ m = 4 ∨ m = 5 ∨ m = 6 ∨ m = 7) with rfl | rfl | rfl | rfl | rfl | rfl | rfl | rfl
  · exact ⟨⟨#[100, 117, 103, 115, 97]⟩, by rw [World.cell?_alloc_at _ e _ _ rfl]; rfl, by decide, told 0 ⟨#[100, 117, 103, 115, 97]⟩ (fun _ => by kernel_rfl) (fun _ => by kernel_rfl) (fun _ => by kernel_rfl) (fun _ => by kernel_rfl) (fun _ => by kernel_rfl) (fun _ => by kernel_rfl) (fun _ => by kernel_rfl)⟩
  · exact ⟨⟨#[103, 115]⟩, by rw [World.cell?_alloc_at _ e _ _ rfl]; rfl, by decide, told 1 ⟨#[103, 115]⟩ (fun _ => by kernel_rfl) (fun _ => by kernel_rfl) (fun _ => by kernel_rfl) (fun _ => by kernel_rfl) (fun _ => by kernel_rfl) (fun _ => by kernel_rfl) (fun _ => by kernel_rfl)⟩
  · exact ⟨⟨#[103, 115]⟩, by rw [World.cell?_alloc_at _ e _ _ rfl]; rfl, by decide, told 2 ⟨#[103, 115]⟩ (fun _ => by kernel_rfl) (fun _ => by kernel_rfl) (fun _ => by kernel_rfl) (fun _ => by kernel_rfl) (fun _ => by kernel_rfl) (fun _ => by kernel_rfl) (fun _ => by kernel_rfl)⟩
  · exact ⟨⟨#[100, 103, 115, 97]⟩, by rw [World.cell?_alloc_at _ e _ _ rfl]; rfl, by decide, told 3 ⟨#[100, 103, 115, 97]⟩ (fun _ => by kernel_rfl) (fun _ => by kernel_rfl) (fun _ => by kernel_rfl) (fun _ => by kernel_rfl) (fun _ => by kernel_rfl) (fun _ => by kernel_rfl) (fun _ => by kernel_rfl)⟩
  · exact ⟨⟨#[103, 115]⟩, by rw [World.cell?_alloc_at _ e _ _ rfl]; rfl, by decide, told 4 ⟨#[103, 115]⟩ (fun _ => by kernel_rfl) (fun _ => by kernel_rfl) (fun _ => by kernel_rfl) (fun _ => by kernel_rfl) (fun _ => by kernel_rfl) (fun _ => by kernel_rfl) (fun _ => by kernel_rfl)⟩
  · exact ⟨⟨#[103, 115]⟩, by rw [World.cell?_alloc_at _ e _ _ rfl]; rfl, by decide, told 5 ⟨#[103, 115]⟩ (fun _ => by kernel_rfl) (fun _ => by kernel_rfl) (fun _ => by kernel_rfl) (fun _ => by kernel_rfl) (fun _ => by kernel_rfl) (fun _ => by kernel_rfl) (fun _ => by kernel_rfl)⟩
  · exact ⟨⟨#[117, 103, 115, 97]⟩, by rw [World.cell?_alloc_at _ e _ _ rfl]; rfl, by decide, told 6 ⟨#[117, 103, 115, 97]⟩ (fun _ => by kernel_rfl) (fun _ => by kernel_rfl) (fun _ => by kernel_rfl) (fun _ => by kernel_rfl) (fun _ => by kernel_rfl) (fun _ => by kernel_rfl) (fun _ => by kernel_rfl)⟩
  · exact ⟨⟨#[103, 99, 115]⟩, by rw [World.cell?_alloc_at _ e _ _ rfl]; rfl, by decide, told 7 ⟨#[103, 99, 115]⟩ (fun _ => by kernel_rfl) (fun _ => by kernel_rfl) (fun _ => by kernel_rfl) (fun _ => by kernel_rfl) (fun _ => by kernel_rfl) (fun _ => by kernel_rfl) (fun _ => by kernel_rfl)⟩
/-- Is the letter among the text's first ones? -/
def seenTo (t : ByteArray) (q : UInt8) (j : Nat) : Bool := (t.data.toList.take j).any (· == q)
theorem seen_succ {t : ByteArray} {q : UInt8} {j : Nat} (h : j < t.size) : seenTo t q (j + 1) = (seenTo t q j || (t[j]'h == q)) := by
  have h' : j < t.data.toList.length := by rw [Nor.size_list]; exact h
  unfold seenTo
  rw [List.take_add_one, List.getElem?_eq_getElem h', List.any_append]
  simp
  rfl
theorem seen_all (t : ByteArray) (q : UInt8) : seenTo t q t.size = t.data.toList.any (· == q) := by
  unfold seenTo
  rw [List.take_of_length_le (by rw [Nor.size_list]; exact Nat.le_refl _)]
/-- One of two numbers, whichever is taken. -/
theorem pick2 (w : World) (e : TypeId) (M A : Int) (x : Nat) (hx : x ≤ 1) : ∃ v, (w.alloc (.cells #[.int .i64 M, .int .i64 A] e)).cell? ⟨w.heap.size, x, none⟩ = some (.int .i64 v) ∧ (v = M ∨ v = A) := by
  rcases (by omega : x = 0 ∨ x = 1) with rfl | rfl
  · exact ⟨M, by rw [World.cell?_alloc_at _ e _ _ rfl]; rfl, .inl rfl⟩
  · exact ⟨A, by rw [World.cell?_alloc_at _ e _ _ rfl]; rfl, .inr rfl⟩
theorem allowed_no (s c : Int) (w : World) (hT : TabAt w) (h : tokB s c = false) : Calls Tryd.prog 6 #[.int .i64 s, .int .i64 c] w fun e w' => e = .returned (.tuple #[.bool false, .int .i64 1500]) ∧ Below w.heap.size w w' := by
  have h1 := allowed_any s c w hT
  rw [tab_no h, h, errT_f] at h1
  exact h1
theorem allowed_ok (s c : Int) (w : World) (hT : TabAt w) (h : tokB s c = true) : Calls Tryd.prog 6 #[.int .i64 s, .int .i64 c] w fun e w' => e = .returned (.tuple #[.bool (tabB s c), .int .i64 0]) ∧ Below w.heap.size w w' := by
  have h1 := allowed_any s c w hT
  rw [h, errT_t] at h1
  exact h1
set_option maxRecDepth 100000 in
set_option maxHeartbeats 4000000 in
theorem walk (a0 : Int) (a1 : Int) (a2 : Int) (w0 : (Lit.int .i64 a0).wf = true) (w1 : (Lit.int .i64 a1).wf = true) (w2 : (Lit.int .i64 a2).wf = true) (w : World) (hL : laidMetH Tryd.prog Rows.tableAllRow.laid w) :
    Calls Tryd.prog 4 #[.int .i64 a0, .int .i64 a1, .int .i64 a2] w fun e w' => e = .returned (.bool true) ∧ Below w.heap.size w w' := by
  have HT := hide (tab_of_laid hL (by kernel_rfl) (List.mem_singleton.2 rfl))
  have hB := Below.refl w.heap.size w
  obtain ⟨k, hk, mk⟩ : ∃ k : Nat, k ≤ 1023 ∧ bits .and .i64 a2 1023 = (k : Int) := mask_i64 a2 1023 (by omega)
  obtain ⟨x, hx, mx⟩ : ∃ k : Nat, k ≤ 1 ∧ bits .and .i64 a2 1 = (k : Int) := mask_i64 a2 1 (by omega)
  obtain ⟨m, hm, mm⟩ : ∃ k : Nat, k ≤ 7 ∧ bits .and .i64 a0 7 = (k : Int) := mask_i64 a0 7 (by omega)
  obtain ⟨n, hn, mn⟩ : ∃ k : Nat, k < 7 ∧ wrap64 ((IntKind.u64.wrap a1).tmod 7) = (k : Int) := mod_u64 a1 7 (by omega) (by omega)
  obtain ⟨D, hD⟩ : ∃ D : Nat, D = 1 + k := ⟨_, rfl⟩
  have hD1 : (1 : Int) + (k : Int) = (D : Int) := by omega
  obtain ⟨E, hE⟩ : ∃ E : Nat, E = 7 + D := ⟨_, rfl⟩
  have hE1 : (7 : Int) + (D : Int) = (E : Int) := by omega
  obtain ⟨F, hF⟩ : ∃ F : Nat, F = 6 + D := ⟨_, rfl⟩
  have hF1 : (6 : Int) + (D : Int) = (F : Int) := by omega
  have hM1 : wrap64 (-(D : Int)) = -(D : Int) := by unfold wrap64; omega
  have HBD : Hid (-(D : Int) < 0 ∧ 7 < (E : Int) ∧ 6 < (F : Int)) := by show _ ∧ _; omega
  have hm8 : (m : Int) < 8 := by omega
  have hx2 : (x : Int) < 2 := by omega
  have hD2 : 1 ≤ D := by omega
  have hD3 : D ≤ 1024 := by omega
  clear hD hk hL hE hF
  go_enter Tryd.func4, Tryd.ntmps4
  go_upto_region 6 with (go_at_call 9; refine (awake_any _ HT.out).mono ?_; rintro e u1 ⟨rfl, hb⟩; replace hB := thenB hB hb; clear hb)
  obtain ⟨t, ht, hts, HTT⟩ := texts u1 9 m hm
  replace HTT := hide HTT
  go_upto_region 9 with fail
  replace hB := thenB hB (hal u1 (.cells #[.string ⟨#[100, 117, 103, 115, 97]⟩, .string ⟨#[103, 115]⟩, .string ⟨#[103, 115]⟩, .string ⟨#[100, 103, 115, 97]⟩, .string ⟨#[103, 115]⟩, .string ⟨#[103, 115]⟩, .string ⟨#[117, 103, 115, 97]⟩, .string ⟨#[103, 99, 115]⟩] 9))
  have hlt : n < (⟨#[45, 100, 117, 103, 99, 115, 97]⟩ : ByteArray).size := hn
  have HQ := hide (HTT.out n hn hlt)
  clear HTT
  generalize (⟨#[45, 100, 117, 103, 99, 115, 97]⟩ : ByteArray)[n]'hlt = q at *
  generalize u1.alloc (.cells #[.string ⟨#[100, 117, 103, 115, 97]⟩, .string ⟨#[103, 115]⟩, .string ⟨#[103, 115]⟩, .string ⟨#[100, 103, 115, 97]⟩, .string ⟨#[103, 115]⟩, .string ⟨#[103, 115]⟩, .string ⟨#[117, 103, 115, 97]⟩, .string ⟨#[103, 99, 115]⟩] 9) = W1 at *
  generalize u1.heap.size = B1 at *
  go_loopw [12, 13] (fun v x wr => ∃ j : Nat, j ≤ t.size ∧ v = .bool (seenTo t q j) ∧ x = .int .i64 (j : Int) ∧ wr = W1) (fun _ x _ => t.size - (intOf x).toNat)
  case atStart => exact ⟨0, by omega, rfl, rfl, rfl⟩
  case round =>
    obtain ⟨j, hj, rfl, rfl, rfl⟩ := hrel
    by_cases hjt : j < t.size
    · have HS := hide (seen_succ (q := q) hjt)
      have hjl : (j : Int) < (t.size : Int) := by omega
      have HM := hide hjt
      cases hA : seenTo t q j with
      | true =>
        have HR : Hid (seenTo t q (j + 1) = true) := by show seenTo t q (j + 1) = true; rw [HS.out, hA]; rfl
        clear HS hA
        go_wp2
        exact ⟨⟨j + 1, HM.out, by rw [HR.out], by go_num, trivial⟩, by simp [intOf]; have := HM.out; omega⟩
      | false =>
        by_cases he : t[j]'hjt = q
        · have HR : Hid (seenTo t q (j + 1) = true) := by show seenTo t q (j + 1) = true; rw [HS.out, hA, he]; simp
          have f1 : ((t[j]'hjt).toNat : Int) = (q.toNat : Int) := by rw [he]
          clear HS hA he
          go_wp2
          exact ⟨⟨j + 1, HM.out, by rw [HR.out], by go_num, trivial⟩, by simp [intOf]; have := HM.out; omega⟩
        · have HR : Hid (seenTo t q (j + 1) = false) := by show seenTo t q (j + 1) = false; rw [HS.out, hA]; simp [he]
          have f0 : ¬ (t[j]'hjt).toNat = q.toNat := fun h => he (UInt8.toNat_inj.1 h)
          have f1 : (((t[j]'hjt).toNat : Int) == (q.toNat : Int)) = false := by simp; omega
          clear HS hA he
          go_wp2
          exact ⟨⟨j + 1, HM.out, by rw [HR.out], by go_num, trivial⟩, by simp [intOf]; have := HM.out; omega⟩
    · obtain rfl : j = t.size := by omega
      rw [(seen_all t q).trans HQ.out.symm]
      have HO := hide (tok_parts.2 (show (0 ≤ (m : Int) ∧ (m : Int) ≤ 7) ∧ 0 ≤ (n : Int) ∧ (n : Int) ≤ 6 by omega))
      have C1 := hide fun w h => allowed_ok (m : Int) (n : Int) w h HO.out
      have C2 := hide fun (v : Int) (h : v = -(D : Int) ∨ v = (E : Int)) w hT => allowed_no v (n : Int) w hT (tok_no (by have := HBD.out; omega))
      have C3 := hide fun (v : Int) (h : v = -(D : Int) ∨ v = (F : Int)) w hT => allowed_no (m : Int) v w hT (tok_no (by have := HBD.out; omega))
      generalize tabB (m : Int) (n : Int) = P at *
      have h9 : ¬ (t.size : Int) < (t.size : Int) := by omega
      clear hj hjt HQ HBD HO hlt mm mn mk hD1
      go_upto_region 13 with (go_at_call 6; refine (C1.out _ (HT.out.below hB)).mono ?_; rintro e u3 ⟨rfl, hb⟩; replace hB := thenB hB hb; clear hb)
      clear C1 ht hts
      obtain ⟨v, hv, HV⟩ := pick2 u3 3 (-(D : Int)) (E : Int) x hx
      replace C2 := hide (C2.out v HV)
      replace hB := thenB hB (hal u3 (.cells #[.int .i64 (-(D : Int)), .int .i64 (E : Int)] 3))
      clear HV
      go_upto_region 14 with (go_at_call 6; refine (C2.out _ (HT.out.below hB)).mono ?_; rintro e u5 ⟨rfl, hb⟩; replace hB := thenB hB hb; clear hb)
      clear C2 hv
      obtain ⟨y, hy, HY⟩ := pick2 u5 3 (-(D : Int)) (F : Int) x hx
      replace C3 := hide (C3.out y HY)
      replace hB := thenB hB (hal u5 (.cells #[.int .i64 (-(D : Int)), .int .i64 (F : Int)] 3))
      clear HY
      go_upto_region 15 with (go_at_call 6; refine (C3.out _ (HT.out.below hB)).mono ?_; rintro e u7 ⟨rfl, hb⟩; replace hB := thenB hB hb; clear hb)
      clear C3 hy
      go_wp2_with (go_at_call 8; refine (num_any _ _).mono ?_; rintro e u8 ⟨rfl, rfl⟩)
      go_ret
      exact ⟨rfl, hB⟩

set_option maxRecDepth 100000 in
theorem lifted (os : Os) (started : os.Started) (H : Type) (enc : TypeId × Value → H) :
    ReturnsInHanded {} Tryd.checked os 4 .any (fun w args => (Rows.tableAllSpec.pre enc Tryd.prog Tryd.f4 Rows.tableAllRow.domain false w args ∧ laidMetH Tryd.prog Rows.tableAllRow.laid w) ∧ sizedMet enc Tryd.prog Tryd.f4 (OpenSpec.ofChange Rows.tableAllSpec) false w args) (Rows.tableAllSpec.post enc Tryd.prog Tryd.f4 false true false false) := by
  refine returnsInHanded_of_change_and (C := Tryd.checked) (X := fun w _ => laidMetH Tryd.prog Rows.tableAllRow.laid w) (fun _ _ _ hh h => h.of_heap hh) own started (by kernel_rfl) Tryd.func4
    (ChangeSpec.witness_shaped (enc := enc) (C := Tryd.checked) (os := os) (X := fun w _ => laidMetH Tryd.prog Rows.tableAllRow.laid w) false (World.doorLaid Tryd.prog 22 os) #[.int .i64 0, .int .i64 0, .int .i64 0] 8 rfl (World.shaped_of_RefB (by kernel_rfl) (by kernel_rfl)) (by kernel_rfl) (by kernel_rfl) (by kernel_rfl) (door_met os _)) ?_
  intro W base args ds gs before hval0 hW hcnd hsz0 hL _
  have hval : ∀ (j : Nat) t v, Tryd.f4.params[j]? = some t → args[j]? = some v → Value.okWide Tryd.prog W .any base t v := hval0
  have hW' := hW
  obtain ⟨p, q, hA0, hV, rfl, hfz, hnd⟩ := hW
  have hA : DataW.TrodAll enc Tryd.prog W 0 (fun _ => true) true Tryd.f4.params.toList args.toList ds p := hA0
  rw [Tryd.params4] at hA hval
  obtain ⟨v0, vs0, d0, ds0, p0, q0, hargs, rfl, rfl, h0, r0⟩ := trodAll_cons hA
  obtain ⟨v1, vs1, d1, ds1, p1, q1, rfl, rfl, rfl, h1, r1⟩ := trodAll_cons r0
  obtain ⟨v2, vs2, d2, ds2, p2, q2, rfl, rfl, rfl, h2, r2⟩ := trodAll_cons r1
  obtain ⟨rfl, rfl, rfl⟩ := trodAll_nil r2
  obtain rfl : args = #[v0, v1, v2] := by cases args; simp_all
  obtain ⟨rfl, rfl⟩ := trodVars_none hV
  obtain ⟨a0, rfl, rfl, rfl, w0⟩ := open_int Tryd.underlying3 (hval 0 3 v0 rfl rfl) h0
  obtain ⟨a1, rfl, rfl, rfl, w1⟩ := open_int Tryd.underlying3 (hval 1 3 v1 rfl rfl) h1
  obtain ⟨a2, rfl, rfl, rfl, w2⟩ := open_int Tryd.underlying3 (hval 2 3 v2 rfl rfl) h2
  clear hA0 hval0
  refine (walk a0 a1 a2 w0 w1 w2 W hL).mono fun e W' ⟨he, bel⟩ => ?_
  subst he
  exact ⟨_, rfl, _, _, _, [], _, [], hW', (trodAll_cons_mk (shut_bool Tryd.underlying4 _) trodAll_mk0), (trodAll_cons_mk (shut_int Tryd.underlying3 w0) (trodAll_cons_mk (shut_int Tryd.underlying3 w1) (trodAll_cons_mk (shut_int Tryd.underlying3 w2) trodAll_mk0))), rfl, bel.frame _, fun h => by cases h⟩

theorem over : Rows.tableAllRow.holds Tryd.pinned (OpenSpec.ofChange Rows.tableAllSpec) :=
  OpenClaim.holds_of_wide 4 Tryd.f4 rfl rfl rfl rfl rfl rfl rfl ⟨rfl, rfl, rfl, rfl, rfl⟩ rfl rfl rfl rfl rfl (by kernel_rfl) Tryd.func4 (by kernel_rfl)
    (of_decide_eq_true (by kernel_rfl)) (by unfold Func.isWrapper; first | (rw [if_pos (by decide +kernel)]; kernel_rfl) | (rw [if_neg (by decide +kernel)]; exact ⟨rfl, rfl⟩))
    (fun os started H enc _ => lifted os started H enc)

theorem plain (f : FuncId) (fn : Func) (hf : Tryd.pinned.checked.prog.funcNamed "skiff/skifflaw15.TableAll" = some f) (hfn : Tryd.pinned.checked.prog.funcs[f]? = some fn) :
    false = Tryd.pinned.checked.prog.looks [] ∧ ∀ (j : Nat) t, fn.params[j]? = some t → Tryd.pinned.checked.prog.wantsStandIn t = false := by
  obtain rfl : f = 4 := Option.some.inj ((show Tryd.prog.funcNamed "skiff/skifflaw15.TableAll" = some 4 by kernel_rfl).symm.trans hf) |>.symm
  obtain rfl : fn = Tryd.f4 := (Option.some.inj (Tryd.func4.symm.trans hfn)).symm
  refine ⟨by kernel_rfl, fun j t ht => ?_⟩
  rw [Tryd.params4] at ht
  rcases j with _ | _ | _ | j
  · obtain rfl : 3 = t := by simpa using ht
    exact (show Tryd.prog.wantsStandIn 3 = false by kernel_rfl)
  · obtain rfl : 3 = t := by simpa using ht
    exact (show Tryd.prog.wantsStandIn 3 = false by kernel_rfl)
  · obtain rfl : 3 = t := by simpa using ht
    exact (show Tryd.prog.wantsStandIn 3 = false by kernel_rfl)
  · simp at ht
theorem proved : Rows.TableAllCardSaid :=
  Claim7.holds_tied_plain_at .later [] _ _ _ _ over (fun _ h => by cases h) (by kernel_rfl) (fun _ h => by cases h) tableAll_row_tie rfl ⟨rfl, rfl⟩ (by kernel_rfl) rfl plain (by kernel_rfl)
#print axioms proved
end Go.Proofs.YtnlhjpkhhkfijaaDoor.tableAll
