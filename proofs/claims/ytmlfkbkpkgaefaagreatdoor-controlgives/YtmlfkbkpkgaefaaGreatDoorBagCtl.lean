/- A request handled: may it be asked, what becomes of the device, what goes back. No program is named here. -/
import Derived.Test.YtmlfkbkpkgaefaaGreatDoorBagSts
import Derived.Test.YtmlfkbkpkgaefaaGreatDoorBagUpl
import Derived.Test.YtmlfkbkpkgaefaaGreatDoorBagSet
import Derived.Test.YtmlfkbkpkgaefaaGreatDoorBagTab
import Derived.Test.YtmlfkbkpkgaefaaGreatDoorBagDnl
import Derived.Test.YtmlfkbkpkgaefaaGreatDoorBagAns
import Derived.Deep.RegionHeld3
import Derived.Deep.Cut
import Derived.Deep.CutRange
import Derived.Deep.RegionWith
namespace Go.Proofs.YtmlfkbkpkgaefaaGreatDoor.Ctl
open Go.Proofs.YtmlfkbkpkgaefaaGreatDoor Go.Proofs.YtmlfkbkpkgaefaaGreatDoor.Bytes Go.Proofs.YtmlfkbkpkgaefaaGreatDoor.Nor Go.Proofs.YtmlfkbkpkgaefaaGreatDoor.Ent Go.Proofs.YtmlfkbkpkgaefaaGreatDoor.Ops Go.Proofs.YtmlfkbkpkgaefaaGreatDoor.Jou Go.Proofs.YtmlfkbkpkgaefaaGreatDoor.Act Go.Proofs.YtmlfkbkpkgaefaaGreatDoor.Ans Go.Proofs.YtmlfkbkpkgaefaaGreatDoor.Dev Go.Proofs.YtmlfkbkpkgaefaaGreatDoor.Dnl Go.Proofs.YtmlfkbkpkgaefaaGreatDoor.Tic Go.Proofs.YtmlfkbkpkgaefaaGreatDoor.Sts Go.Proofs.YtmlfkbkpkgaefaaGreatDoor.Upl Go.Proofs.YtmlfkbkpkgaefaaGreatDoor.Sup Go.Proofs.YtmlfkbkpkgaefaaGreatDoor.Tab

/-- How many bytes a request brings along. -/
def carI (c n : Int) : Int := if c = 1 then n else 0
/-- May it be asked? -/
def goB (d : FDev) (s t : ByteArray) : Bool := (gotB s && decide ((t.size : Int) = carI (gc s) (gn s))) && tabB d.sa (gc s)
def byteS (x : Int) : ByteArray := ⟨(lowL x.toNat 1).toArray⟩
def doneD (f : ByteArray) (d : FDev) (c v n : Int) (t : ByteArray) : FDev := if c = 1 then takeD f d v t else if c = 2 then giveD f d v n else if c = 3 then getD f d else if c = 5 then d else newD
def doneS (f : ByteArray) (d : FDev) (c v n : Int) : ByteArray := if c = 2 then giveS f d v n else if c = 3 then ansS (getD f d).su (tkI (getD f d)) (getD f d).sa else if c = 5 then byteS d.sa else ⟨#[]⟩
/-- Did it fail by it? -/
def stallB (d D : FDev) : Bool := decide (D.sa = 7 ∧ ¬ d.sa = 7)
def textS (stall : Bool) (x : ByteArray) : ByteArray := if stall then ⟨#[]⟩ else x
def doD (f : ByteArray) (d : FDev) (s t : ByteArray) : FDev := doneD f d (gc s) (gv s) (gn s) t
def doS (f : ByteArray) (d : FDev) (s : ByteArray) : ByteArray := doneS f d (gc s) (gv s) (gn s)
/-- What Handle answers, whatever it is asked. -/
def handD (f : ByteArray) (d : FDev) (s t : ByteArray) : FDev := if bothB f d then (if goB d s t then doD f d s t else failedD 6) else newD
def handB (f : ByteArray) (d : FDev) (s t : ByteArray) : Bool := if bothB f d then (if goB d s t then stallB d (doD f d s t) else true) else false
def handS (f : ByteArray) (d : FDev) (s t : ByteArray) : ByteArray := if bothB f d then (if goB d s t then textS (stallB d (doD f d s t)) (doS f d s) else ⟨#[]⟩) else ⟨#[]⟩
def errC (ok : Bool) : Int := if ok then 0 else 2100
theorem errC_t {ok : Bool} (h : ok = true) : errC ok = 0 := by rw [h]; rfl
theorem errC_f {ok : Bool} (h : ok = false) : errC ok = 2100 := by rw [h]; rfl
theorem hand_no {f : ByteArray} {d : FDev} (s t : ByteArray) (h : bothB f d = false) : handD f d s t = newD ∧ handB f d s t = false ∧ handS f d s t = ⟨#[]⟩ := by unfold handD handB handS; rw [h]; exact ⟨rfl, rfl, rfl⟩
theorem hand_stall {f : ByteArray} {d : FDev} {s t : ByteArray} (h : bothB f d = true) (g : goB d s t = false) : handD f d s t = failedD 6 ∧ handB f d s t = true ∧ handS f d s t = ⟨#[]⟩ := by unfold handD handB handS; rw [h, g]; exact ⟨rfl, rfl, rfl⟩
theorem hand_ok {f : ByteArray} {d : FDev} {s t : ByteArray} (h : bothB f d = true) (g : goB d s t = true) : handD f d s t = doD f d s t ∧ handB f d s t = stallB d (doD f d s t) ∧ handS f d s t = textS (stallB d (doD f d s t)) (doS f d s) := by unfold handD handB handS; rw [h, g]; exact ⟨rfl, rfl, rfl⟩
theorem go_parts {d : FDev} {s t : ByteArray} : goB d s t = true ↔ gotB s = true ∧ (t.size : Int) = carI (gc s) (gn s) ∧ tabB d.sa (gc s) = true := by
  unfold goB
  rw [Bool.and_eq_true, Bool.and_eq_true, decide_eq_true_iff, and_assoc]
theorem go_no {d : FDev} {s t : ByteArray} (h : goB d s t = false) : gotB s = false ∨ (gotB s = true ∧ ¬ (t.size : Int) = carI (gc s) (gn s)) ∨ (gotB s = true ∧ (t.size : Int) = carI (gc s) (gn s) ∧ tabB d.sa (gc s) = false) := by
  cases h1 : gotB s with
  | false => exact .inl rfl
  | true =>
    right
    by_cases h2 : (t.size : Int) = carI (gc s) (gn s)
    · right
      refine ⟨rfl, h2, ?_⟩
      unfold goB at h
      rw [h1, decide_eq_true h2] at h
      exact h
    · exact .inl ⟨rfl, h2⟩
/-- Which requests an allowed one may be of. -/
theorem tab_codes {s c : Int} (h : tabB s c = true) : (c = 1 ∧ (s = 0 ∨ s = 3)) ∨ (c = 2 ∧ (s = 0 ∨ s = 6)) ∨ c = 3 ∨ (c = 4 ∧ s = 7) ∨ c = 5 ∨ (c = 6 ∧ (s = 0 ∨ s = 3 ∨ s = 6)) := by
  unfold tabB at h
  rw [Bool.and_eq_true, Bool.or_eq_true] at h
  obtain ⟨_, h⟩ := h
  rcases h with h | h
  · unfold alB at h
    have := of_decide_eq_true h
    omega
  · unfold liB inTo tabL at h
    simp only [List.take_succ_cons, List.take_zero, List.any_cons, List.any_nil, Bool.or_false, Bool.or_eq_true, Bool.and_eq_true, beq_iff_eq] at h
    omega
theorem got_may {s : ByteArray} (h : gotB s = true) : supB (gc s) (gv s) (gn s) = true := (put_got h).1
theorem done_1 (f : ByteArray) (d : FDev) (v n : Int) (t : ByteArray) : doneD f d 1 v n t = takeD f d v t ∧ doneS f d 1 v n = ⟨#[]⟩ := ⟨rfl, rfl⟩
theorem done_2 (f : ByteArray) (d : FDev) (v n : Int) (t : ByteArray) : doneD f d 2 v n t = giveD f d v n ∧ doneS f d 2 v n = giveS f d v n := ⟨rfl, rfl⟩
theorem done_3 (f : ByteArray) (d : FDev) (v n : Int) (t : ByteArray) : doneD f d 3 v n t = getD f d ∧ doneS f d 3 v n = ansS (getD f d).su (tkI (getD f d)) (getD f d).sa := ⟨rfl, rfl⟩
theorem done_5 (f : ByteArray) (d : FDev) (v n : Int) (t : ByteArray) : doneD f d 5 v n t = d ∧ doneS f d 5 v n = byteS d.sa := ⟨rfl, rfl⟩
theorem done_new (f : ByteArray) (d : FDev) {c : Int} (v n : Int) (t : ByteArray) (h : c = 4 ∨ c = 6) : doneD f d c v n t = newD ∧ doneS f d c v n = ⟨#[]⟩ := by rcases h with rfl | rfl <;> exact ⟨rfl, rfl⟩
theorem take_few (f : ByteArray) (d : FDev) (b : Int) (t : ByteArray) : (takeD f d b t).ops.length ≤ 65536 := by
  cases h : okB f d b t with
  | false => rw [take_no h]; exact Nat.zero_le _
  | true =>
    obtain ⟨_, hd, h3, _, ht⟩ := okB_parts.1 h
    obtain ⟨_, _, _, hl⟩ := dev_parts hd
    rcases h3 with h0 | h0
    · rw [take_first h h0]
      unfold firstD
      split
      · exact Nat.zero_le _
      split
      · show (Sta.erL (Cho.othI f) ++ wordsL (baseI (Cho.othI f)) t).length ≤ _
        have := words_few (baseI (Cho.othI f)) t ht
        have := er_three f
        rw [List.length_append]
        omega
      · exact Nat.zero_le _
    · rw [take_further h h0]
      unfold furtherD
      split
      · show d.ops.length ≤ _; omega
      split
      · exact Nat.zero_le _
      split
      · show d.ops.length ≤ _; omega
      split
      · show (wordsL (baseI d.sl + d.gt) t).length ≤ _
        have := words_few (baseI d.sl + d.gt) t ht
        omega
      · exact Nat.zero_le _
theorem hand_few (f : ByteArray) (d : FDev) (s t : ByteArray) : (handD f d s t).ops.length ≤ 65536 := by
  unfold handD
  split
  · rename_i hb
    split
    · unfold doD doneD
      split
      · exact take_few _ _ _ _
      split
      · have := give_few f d (gv s) (gn s); omega
      split
      · exact get_few _ _
      split
      · have := (dev_parts (both_parts.1 hb).2).2.2.2; omega
      · exact Nat.zero_le _
    · exact Nat.zero_le _
  · exact Nat.zero_le _
end Go.Proofs.YtmlfkbkpkgaefaaGreatDoor.Ctl

/- The contracts of package control, part for part: each call answers what the plain functions give. -/
namespace Go.Proofs.YtmlfkbkpkgaefaaGreatDoor.CtlWalk
open Go.Proofs.YtmlfkbkpkgaefaaGreatDoor Go.RowKit Go.Proofs.YtmlfkbkpkgaefaaGreatDoor.Bytes Go.Proofs.YtmlfkbkpkgaefaaGreatDoor.Ops Go.Proofs.YtmlfkbkpkgaefaaGreatDoor.OpsRow Go.Proofs.YtmlfkbkpkgaefaaGreatDoor.Jou Go.Proofs.YtmlfkbkpkgaefaaGreatDoor.Act Go.Proofs.YtmlfkbkpkgaefaaGreatDoor.Dev Go.Proofs.YtmlfkbkpkgaefaaGreatDoor.DevRow Go.Proofs.YtmlfkbkpkgaefaaGreatDoor.DevSet Go.Proofs.YtmlfkbkpkgaefaaGreatDoor.Dnl Go.Proofs.YtmlfkbkpkgaefaaGreatDoor.DnlCopy Go.Proofs.YtmlfkbkpkgaefaaGreatDoor.Tic Go.Proofs.YtmlfkbkpkgaefaaGreatDoor.TicRow Go.Proofs.YtmlfkbkpkgaefaaGreatDoor.Sts Go.Proofs.YtmlfkbkpkgaefaaGreatDoor.Upl Go.Proofs.YtmlfkbkpkgaefaaGreatDoor.Sup Go.Proofs.YtmlfkbkpkgaefaaGreatDoor.Tab Go.Proofs.YtmlfkbkpkgaefaaGreatDoor.TabLaid Go.Proofs.YtmlfkbkpkgaefaaGreatDoor.Ctl
open Go.Proofs.YtmlfkbkpkgaefaaGreatDoor.NorWalk (ret_bool)
open Go.Proofs.YtmlfkbkpkgaefaaGreatDoor.DevWalk (build_d0)
open Go.Proofs.YtmlfkbkpkgaefaaGreatDoor.DnlWalk (fail_is ne_t eq_f)
open Go.Proofs.YtmlfkbkpkgaefaaGreatDoor.UplWalk (hal)
attribute [local go_sem ↓] Go.wp_at_zero Go.wp_at_succ
theorem build_p0 (w : World) : (Instr.build 27 #[]).run Tryz.prog w = .ok (.agg #[.bool false, .bool false, .string ⟨#[]⟩]) w := run_build w 27 _ _ (by kernel_rfl)
theorem build_p1 (b : Bool) (w : World) : (Instr.build 27 #[(1, .bool b)]).run Tryz.prog w = .ok (.agg #[.bool false, .bool b, .string ⟨#[]⟩]) w := run_build w 27 _ _ (by kernel_rfl)
theorem build_p2 (s : ByteArray) (w : World) : (Instr.build 27 #[(2, .string s)]).run Tryz.prog w = .ok (.agg #[.bool false, .bool false, .string s]) w := run_build w 27 _ _ (by kernel_rfl)
theorem build_ask (f t : ByteArray) (sa su nx gt sl c b n : Int) (v : Value) (w : World) : (Instr.build 68 #[(0, .string f), (1, .agg #[.int .i64 sa, .int .i64 su, .int .i64 nx, .int .i64 gt, .int .i64 sl, v]), (2, .agg #[.int .i64 c, .int .i64 b, .int .i64 n]), (3, .string t)]).run Tryz.prog w = .ok (.agg #[.string f, .int .i64 sa, .int .i64 su, .int .i64 nx, .int .i64 gt, .int .i64 sl, v, .int .i64 c, .int .i64 b, .int .i64 n, .string t]) w := run_build w 68 _ _ (by kernel_rfl)
set_option maxRecDepth 100000 in
theorem carries_any (c b n : Int) (w : World) : Calls Tryz.prog 54 #[.agg #[.int .i64 c, .int .i64 b, .int .i64 n]] w fun e w' => e = .returned (.int .i64 (carI c n)) ∧ Below w.heap.size w w' := by
  have hX := SetWalk.resM w (.int .i64 c) (.int .i64 b) (.int .i64 n) 42
  have hB := hal w (.cells #[.int .i64 c, .int .i64 b, .int .i64 n] 42)
  by_cases h : c = 1
  · rw [show carI c n = n from if_pos h]
    subst h
    go_enter Tryz.func54, Tryz.ntmps54
    go_wp2
    go_ret
    exact ⟨rfl, hB⟩
  · rw [show carI c n = 0 from if_neg h]
    go_enter Tryz.func54, Tryz.ntmps54
    go_wp2
    go_ret
    exact ⟨rfl, hB⟩
theorem tab_err {s c : Int} (h : tabB s c = true) : Tab.errT (tokB s c) = 0 := by
  cases ht : tokB s c with
  | false => rw [tab_no ht] at h; cases h
  | true => rfl
set_option maxRecDepth 100000 in
theorem can_any (s c : Int) (w : World) (hT : TabAt w) : Calls Tryz.prog 24 #[.int .i64 s, .int .i64 c] w fun e w' => e = .returned (.bool (tabB s c)) ∧ Below w.heap.size w w' := by
  have C := hide (TabWalk.allowed_any s c w hT)
  cases h : tabB s c with
  | false =>
    rw [h] at C
    clear h
    generalize Tab.errT (tokB s c) = E at *
    go_enter Tryz.func24, Tryz.ntmps24
    go_wp2_with (go_at_call 55; refine C.out.mono ?_; rintro e w' ⟨rfl, hb⟩)
    go_ret
    exact ⟨rfl, hb⟩
  | true =>
    rw [h, tab_err h] at C
    clear h
    go_enter Tryz.func24, Tryz.ntmps24
    go_wp2_with (go_at_call 55; refine C.out.mono ?_; rintro e w' ⟨rfl, hb⟩)
    go_ret
    exact ⟨rfl, hb⟩
/-- Are these bytes a request that carries so much? -/
def readB (s t : ByteArray) : Bool := gotB s && decide ((t.size : Int) = carI (gc s) (gn s))
set_option maxRecDepth 100000 in
set_option maxHeartbeats 1000000 in
theorem read_none (s t : ByteArray) (w : World) (h : gotB s = false) : Calls Tryz.prog 23 #[.string s, .string t] w fun r w' => r = .returned (.tuple #[.agg #[.int .i64 0, .int .i64 0, .int .i64 0], .bool false]) ∧ Below w.heap.size w w' := by
  have C := hide (fun w => SetWalk.sget_no h w)
  have b1 := SetWalk.build_no
  have hR := SetWalk.resM w (.int .i64 0) (.int .i64 0) (.int .i64 0) 42
  have hB := hal w (.cells #[.int .i64 0, .int .i64 0, .int .i64 0] 42)
  clear h
  go_enter Tryz.func23, Tryz.ntmps23
  go_upto_region 3 with (go_at_call 53; refine (C.out _).mono ?_; rintro e w' ⟨rfl, hb⟩; replace hB := thenB hB hb; replace hR := SetWalk.resB hR hb; clear hb)
  replace hB := thenB hB (hal w' (.cells #[.int .i64 0, .int .i64 0, .int .i64 0] 42))
  replace hR := SetWalk.resB hR (hal w' (.cells #[.int .i64 0, .int .i64 0, .int .i64 0] 42))
  generalize w'.alloc _ = W at *
  go_wp2
  exact bodyPost_ret (v := .tuple #[.agg #[.int .i64 0, .int .i64 0, .int .i64 0], .bool false]) (by simp [results, Tryz.results23, go_sem, hR]) rfl ⟨rfl, SetWalk.set3 hB (Nat.le_refl _)⟩
set_option maxRecDepth 100000 in
set_option maxHeartbeats 1000000 in
theorem read_more (s t : ByteArray) (w : World) (h : gotB s = true) (g : ¬ (t.size : Int) = carI (gc s) (gn s)) : Calls Tryz.prog 23 #[.string s, .string t] w fun r w' => r = .returned (.tuple #[.agg #[.int .i64 0, .int .i64 0, .int .i64 0], .bool false]) ∧ Below w.heap.size w w' := by
  have C := hide (fun w => SetWalk.sget_any s w)
  have K := hide (fun w => carries_any (gc s) (gv s) (gn s) w)
  rw [h, show errU true = 0 from rfl] at C
  have b1 := SetWalk.build_no
  have hR := SetWalk.resM w (.int .i64 0) (.int .i64 0) (.int .i64 0) 42
  have hB := hal w (.cells #[.int .i64 0, .int .i64 0, .int .i64 0] 42)
  have g1 := ne_t g
  clear h g
  generalize carI (gc s) (gn s) = N at *
  generalize gc s = c at *
  generalize gv s = b at *
  generalize gn s = n at *
  go_enter Tryz.func23, Tryz.ntmps23
  go_wp2_with fail
  refine (C.out _).mono ?_
  rintro e w' ⟨rfl, hb⟩
  replace hB := thenB hB hb
  replace hR := SetWalk.resB hR hb
  clear hb C
  have hX := SetWalk.resM w' (.int .i64 c) (.int .i64 b) (.int .i64 n) 42
  replace hB := thenB hB (hal w' (.cells #[.int .i64 c, .int .i64 b, .int .i64 n] 42))
  replace hR := SetWalk.resB hR (hal w' (.cells #[.int .i64 c, .int .i64 b, .int .i64 n] 42))
  go_upto_region 2 with fail
  generalize w'.alloc _ = W at *
  generalize w'.heap.size = G at *
  go_wp2_with (go_at_call 54; refine (K.out _).mono ?_; rintro e w2 ⟨rfl, hb⟩; replace hB := thenB hB hb; replace hR := SetWalk.resB hR hb; clear hb)
  exact bodyPost_ret (v := .tuple #[.agg #[.int .i64 0, .int .i64 0, .int .i64 0], .bool false]) (by simp [results, Tryz.results23, go_sem, hR]) rfl ⟨rfl, SetWalk.set3 hB (Nat.le_refl _)⟩
set_option maxRecDepth 100000 in
set_option maxHeartbeats 1000000 in
theorem read_yes (s t : ByteArray) (w : World) (h : gotB s = true) (g : (t.size : Int) = carI (gc s) (gn s)) : Calls Tryz.prog 23 #[.string s, .string t] w fun r w' => r = .returned (.tuple #[.agg #[.int .i64 (gc s), .int .i64 (gv s), .int .i64 (gn s)], .bool true]) ∧ Below w.heap.size w w' := by
  have C := hide (fun w => SetWalk.sget_any s w)
  have K := hide (fun w => carries_any (gc s) (gv s) (gn s) w)
  rw [h, show errU true = 0 from rfl] at C
  rw [← g] at K
  have hR := SetWalk.resM w (.int .i64 0) (.int .i64 0) (.int .i64 0) 42
  have hB := hal w (.cells #[.int .i64 0, .int .i64 0, .int .i64 0] 42)
  have g1 : ((t.size : Int) != (t.size : Int)) = false := bne_self_eq_false _
  clear h g
  generalize gc s = c at *
  generalize gv s = b at *
  generalize gn s = n at *
  go_enter Tryz.func23, Tryz.ntmps23
  go_wp2_with fail
  refine (C.out _).mono ?_
  rintro e w' ⟨rfl, hb⟩
  replace hB := thenB hB hb
  replace hR := SetWalk.resB hR hb
  clear hb C
  have hX := SetWalk.resM w' (.int .i64 c) (.int .i64 b) (.int .i64 n) 42
  replace hB := thenB hB (hal w' (.cells #[.int .i64 c, .int .i64 b, .int .i64 n] 42))
  replace hR := SetWalk.resB hR (hal w' (.cells #[.int .i64 c, .int .i64 b, .int .i64 n] 42))
  go_upto_region 2 with fail
  generalize w'.alloc _ = W at *
  generalize w'.heap.size = G at *
  go_wp2_with (go_at_call 54; refine (K.out _).mono ?_; rintro e w2 ⟨rfl, hb⟩; replace hB := thenB hB hb; replace hR := SetWalk.resB hR hb; replace hX := SetWalk.resB hX hb; clear hb)
  exact bodyPost_ret (v := .tuple #[.agg #[.int .i64 c, .int .i64 b, .int .i64 n], .bool true]) (by simp [results, Tryz.results23, go_sem, hR]) rfl ⟨rfl, SetWalk.set3 hB (Nat.le_refl _)⟩
theorem handler_any (c : Int) (F : Nat) (h : (c = 1 ∧ F = 57) ∨ (c = 2 ∧ F = 58) ∨ (c = 3 ∧ F = 59) ∨ (c = 5 ∧ F = 60) ∨ (c = 4 ∧ F = 61) ∨ (c = 6 ∧ F = 61)) (w : World) : Calls Tryz.prog 26 #[.int .i64 c] w fun e w' => e = .returned (.func (.func F) #[] #[]) ∧ w' = w := by
  rcases h with ⟨rfl, rfl⟩ | ⟨rfl, rfl⟩ | ⟨rfl, rfl⟩ | ⟨rfl, rfl⟩ | ⟨rfl, rfl⟩ | ⟨rfl, rfl⟩
  all_goals
    go_enter Tryz.func26, Tryz.ntmps26
    go_wp2
    go_ret
    exact ⟨rfl, rfl⟩
/-- Three boxes: two devices that came in, a reply. -/
theorem reply_boxes (w : World) (x0 x1 x2 x3 x4 x5 y0 y1 y2 y3 y4 y5 : Value) : ∃ W, ((w.alloc (.cells #[x0, x1, x2, x3, x4, x5] 24)).alloc (.cells #[y0, y1, y2, y3, y4, y5] 24)).alloc (.cells #[.bool false, .bool false, .string ⟨#[]⟩] 27) = W ∧ Res W w.heap.size x0 x1 x2 x3 x4 x5 ∧ Res W (w.heap.size + 1) y0 y1 y2 y3 y4 y5 ∧ (w.heap.size + 1 + 1 < W.heap.size ∧ W.cell? ⟨w.heap.size + 1 + 1, 0, none⟩ = some (.bool false) ∧ W.cell? ⟨w.heap.size + 1 + 1, 1, none⟩ = some (.bool false) ∧ W.cell? ⟨w.heap.size + 1 + 1, 2, none⟩ = some (.string ⟨#[]⟩) ∧ ∀ i, W.frozen? ⟨w.heap.size + 1 + 1, i, none⟩ = false) ∧ Below w.heap.size w W ∧ w.heap.size + 1 + 1 + 1 = W.heap.size := by
  refine ⟨_, rfl, ?_⟩
  have h1 := resM w x0 x1 x2 x3 x4 x5 24
  have n1 := hal w (.cells #[x0, x1, x2, x3, x4, x5] 24)
  have s1 : (w.alloc (.cells #[x0, x1, x2, x3, x4, x5] 24)).heap.size = w.heap.size + 1 := by simp
  generalize w.alloc (.cells #[x0, x1, x2, x3, x4, x5] 24) = W1 at *
  have h2 := resM W1 y0 y1 y2 y3 y4 y5 24
  have n2 := hal W1 (.cells #[y0, y1, y2, y3, y4, y5] 24)
  have s2 : (W1.alloc (.cells #[y0, y1, y2, y3, y4, y5] 24)).heap.size = w.heap.size + 1 + 1 := by rw [← s1]; simp
  generalize W1.alloc (.cells #[y0, y1, y2, y3, y4, y5] 24) = W2 at *
  rw [s1] at h2
  have h3 := SetWalk.resM W2 (.bool false) (.bool false) (.string ⟨#[]⟩) 27
  have n3 := hal W2 (.cells #[.bool false, .bool false, .string ⟨#[]⟩] 27)
  have s3 : (W2.alloc (.cells #[.bool false, .bool false, .string ⟨#[]⟩] 27)).heap.size = w.heap.size + 1 + 1 + 1 := by rw [← s2]; simp
  rw [s2] at h3
  exact ⟨resB (resB h1 n2) n3, resB h2 n3, h3, thenB (thenB n1 n2) n3, s3.symm⟩
set_option maxRecDepth 100000 in
set_option maxHeartbeats 1000000 in
theorem replied_any (d D : FDev) (v u : Value) (t : ByteArray) (w : World) : Calls Tryz.prog 27 #[.agg #[.int .i64 d.sa, .int .i64 d.su, .int .i64 d.nx, .int .i64 d.gt, .int .i64 d.sl, v], .agg #[.int .i64 D.sa, .int .i64 D.su, .int .i64 D.nx, .int .i64 D.gt, .int .i64 D.sl, u], .string t] w fun r w' => r = .returned (.agg #[.bool false, .bool (stallB d D), .string (textS (stallB d D) t)]) ∧ Below w.heap.size w w' := by
  obtain ⟨W, hW, hX, hY, hR, hB, hs⟩ := reply_boxes w (.int .i64 d.sa) (.int .i64 d.su) (.int .i64 d.nx) (.int .i64 d.gt) (.int .i64 d.sl) v (.int .i64 D.sa) (.int .i64 D.su) (.int .i64 D.nx) (.int .i64 D.gt) (.int .i64 D.sl) u
  have b1 := build_p1
  have b2 := build_p2
  clear hs
  obtain ⟨sa, su, nx, gt, sl, l⟩ := d
  obtain ⟨xa, xu, xn, xg, xl, xo⟩ := D
  dsimp only at *
  by_cases h : xa = 7
  · by_cases g : sa = 7
    · have hs : stallB ⟨sa, su, nx, gt, sl, l⟩ ⟨xa, xu, xn, xg, xl, xo⟩ = false := decide_eq_false (fun x => x.2 g)
      rw [hs]
      clear hs
      subst h g hW
      go_enter Tryz.func27, Tryz.ntmps27
      go_wp2
      exact bodyPost_ret (v := .agg #[.bool false, .bool false, .string t]) (by simp [results, Tryz.results27, go_sem]) rfl ⟨rfl, thenB (thenB (hal _ _) (hal _ _)) (hal _ _)⟩
    · have hs : stallB ⟨sa, su, nx, gt, sl, l⟩ ⟨xa, xu, xn, xg, xl, xo⟩ = true := decide_eq_true ⟨h, g⟩
      rw [hs]
      clear hs
      subst h hW
      go_enter Tryz.func27, Tryz.ntmps27
      go_wp2
      exact bodyPost_ret (v := .agg #[.bool false, .bool true, .string ⟨#[]⟩]) (by simp [results, Tryz.results27, go_sem]) rfl ⟨rfl, thenB (thenB (hal _ _) (hal _ _)) (hal _ _)⟩
  · have hs : stallB ⟨sa, su, nx, gt, sl, l⟩ ⟨xa, xu, xn, xg, xl, xo⟩ = false := decide_eq_false (fun x => h x.1)
    rw [hs]
    clear hs
    subst hW
    go_enter Tryz.func27, Tryz.ntmps27
    go_wp2
    exact bodyPost_ret (v := .agg #[.bool false, .bool false, .string t]) (by simp [results, Tryz.results27, go_sem]) rfl ⟨rfl, thenB (thenB (hal _ _) (hal _ _)) (hal _ _)⟩
set_option maxRecDepth 100000 in
set_option maxHeartbeats 1000000 in
theorem refused_any (d : FDev) (v : Value) (w : World) (hv : IsSt w v d.ops) (hd : devB d = true) : Calls Tryz.prog 25 #[.agg #[.int .i64 d.sa, .int .i64 d.su, .int .i64 d.nx, .int .i64 d.gt, .int .i64 d.sl, v]] w fun r w' => r = .returned (.tuple #[.agg #[.int .i64 7, .int .i64 6, .int .i64 0, .int .i64 0, .int .i64 0, .slice none 0 0], .agg #[.bool false, .bool true, .string ⟨#[]⟩], .int .i64 0]) ∧ Below w.heap.size w w' := by
  have HF : Hid (∀ (w' : World), Below w.heap.size w w' → _) := fun w' hb => fail_is d v 6 w' (hv.below hb) hd rfl
  obtain ⟨W, hW, hX, hR, hA, hB, hs⟩ := reply_boxes w (.int .i64 d.sa) (.int .i64 d.su) (.int .i64 d.nx) (.int .i64 d.gt) (.int .i64 d.sl) v (.int .i64 0) (.int .i64 0) (.int .i64 0) (.int .i64 0) (.int .i64 0) (.slice none 0 0)
  have hne : w.heap.size ≠ w.heap.size + 1 := Nat.ne_of_lt (Nat.lt_succ_self _)
  have b1 := build_p1
  clear hd hs
  obtain ⟨a, ca, rfl, _, _⟩ := hv
  obtain ⟨sa, su, nx, gt, sl, l⟩ := d
  dsimp only at *
  subst hW
  go_enter Tryz.func25, Tryz.ntmps25
  go_wp2_with fail
  refine (HF.out _ hB).mono ?_
  generalize ((w.alloc _).alloc _).alloc _ = W at *
  rintro e w2 ⟨rfl, hb⟩
  replace hB := thenB hB hb
  replace hX := resB hX hb
  replace hR := resB hR hb
  replace hA := AnsWalk.resB hA hb
  clear hb HF
  have HB := hide hB
  have HR := hide hR
  have HAA := hide hA
  clear hB hR hA
  go_upto_region 2 with fail
  replace hX := res6 hX (.int .i64 7) (.int .i64 6) (.int .i64 0) (.int .i64 0) (.int .i64 0) (.slice none 0 0)
  have hR := resO6 HR.out hne (.int .i64 7) (.int .i64 6) (.int .i64 0) (.int .i64 0) (.int .i64 0) (.slice none 0 0)
  have hA := StsGet.ansO6 HAA.out (show w.heap.size ≠ w.heap.size + 1 + 1 by omega) (.int .i64 7) (.int .i64 6) (.int .i64 0) (.int .i64 0) (.int .i64 0) (.slice none 0 0)
  have hB := set6 (x0 := .int .i64 7) (x1 := .int .i64 6) (x2 := .int .i64 0) (x3 := .int .i64 0) (x4 := .int .i64 0) (x5 := .slice none 0 0) HB.out (Nat.le_refl w.heap.size)
  clear HB HR HAA
  generalize (((((w2.setCell _ _).setCell _ _).setCell _ _).setCell _ _).setCell _ _).setCell _ _ = W4 at *
  go_wp2_with fail
  exact bodyPost_ret (v := .tuple #[.agg #[.int .i64 7, .int .i64 6, .int .i64 0, .int .i64 0, .int .i64 0, .slice none 0 0], .agg #[.bool false, .bool true, .string ⟨#[]⟩], .int .i64 0]) (by simp [results, Tryz.results25, go_sem, hR, hA]) rfl ⟨rfl, AnsWalk.set3 (set6 hB (Nat.le_succ _)) (by omega)⟩
end Go.Proofs.YtmlfkbkpkgaefaaGreatDoor.CtlWalk

/- The contracts of package control's handlers: the device and the bytes that the plain functions give; the device's steps lie in memory of their own. -/
namespace Go.Proofs.YtmlfkbkpkgaefaaGreatDoor.CtlAsk
open Go.Proofs.YtmlfkbkpkgaefaaGreatDoor Go.RowKit Go.Proofs.YtmlfkbkpkgaefaaGreatDoor.Bytes Go.Proofs.YtmlfkbkpkgaefaaGreatDoor.Ops Go.Proofs.YtmlfkbkpkgaefaaGreatDoor.OpsRow Go.Proofs.YtmlfkbkpkgaefaaGreatDoor.Jou Go.Proofs.YtmlfkbkpkgaefaaGreatDoor.Act Go.Proofs.YtmlfkbkpkgaefaaGreatDoor.Dev Go.Proofs.YtmlfkbkpkgaefaaGreatDoor.DevRow Go.Proofs.YtmlfkbkpkgaefaaGreatDoor.DevSet Go.Proofs.YtmlfkbkpkgaefaaGreatDoor.Dnl Go.Proofs.YtmlfkbkpkgaefaaGreatDoor.DnlCopy Go.Proofs.YtmlfkbkpkgaefaaGreatDoor.Tic Go.Proofs.YtmlfkbkpkgaefaaGreatDoor.TicRow Go.Proofs.YtmlfkbkpkgaefaaGreatDoor.Sts Go.Proofs.YtmlfkbkpkgaefaaGreatDoor.Upl Go.Proofs.YtmlfkbkpkgaefaaGreatDoor.Sup Go.Proofs.YtmlfkbkpkgaefaaGreatDoor.Tab Go.Proofs.YtmlfkbkpkgaefaaGreatDoor.TabLaid Go.Proofs.YtmlfkbkpkgaefaaGreatDoor.Ctl
open Go.Proofs.YtmlfkbkpkgaefaaGreatDoor.NorWalk (ret_bool)
open Go.Proofs.YtmlfkbkpkgaefaaGreatDoor.DevWalk (build_d0)
open Go.Proofs.YtmlfkbkpkgaefaaGreatDoor.UplWalk (hal)
attribute [local go_sem ↓] Go.wp_at_zero Go.wp_at_succ
/-- What a handler gives: a device whose steps lie in memory made since and may be written, bytes. -/
def Made (w : World) (d : FDev) (s : ByteArray) (r : Ending) (w' : World) : Prop := ∃ u, r = .returned (.tuple #[.agg #[.int .i64 d.sa, .int .i64 d.su, .int .i64 d.nx, .int .i64 d.gt, .int .i64 d.sl, u], .string s]) ∧ OwnSt w' w.heap.size u d.ops ∧ Below w.heap.size w w'
/-- A struct of eleven cells. -/
abbrev Ask (w : World) (B : Nat) (x0 x1 x2 x3 x4 x5 x6 x7 x8 x9 x10 : Value) : Prop := B < w.heap.size ∧ w.cell? ⟨B, 0, none⟩ = some x0 ∧ w.cell? ⟨B, 1, none⟩ = some x1 ∧ w.cell? ⟨B, 2, none⟩ = some x2 ∧ w.cell? ⟨B, 3, none⟩ = some x3 ∧ w.cell? ⟨B, 4, none⟩ = some x4 ∧ w.cell? ⟨B, 5, none⟩ = some x5 ∧ w.cell? ⟨B, 6, none⟩ = some x6 ∧ w.cell? ⟨B, 7, none⟩ = some x7 ∧ w.cell? ⟨B, 8, none⟩ = some x8 ∧ w.cell? ⟨B, 9, none⟩ = some x9 ∧ w.cell? ⟨B, 10, none⟩ = some x10
theorem askM (w : World) (x0 x1 x2 x3 x4 x5 x6 x7 x8 x9 x10 : Value) (e : TypeId) : Ask (w.alloc (.cells #[x0, x1, x2, x3, x4, x5, x6, x7, x8, x9, x10] e)) w.heap.size x0 x1 x2 x3 x4 x5 x6 x7 x8 x9 x10 := by
  refine ⟨by simp, ?_⟩
  refine ⟨?_, ?_, ?_, ?_, ?_, ?_, ?_, ?_, ?_, ?_, ?_⟩
  all_goals
    rw [World.cell?_alloc_at _ e _ _ rfl]
    rfl
theorem askB {w w' : World} {B : Nat} {x0 x1 x2 x3 x4 x5 x6 x7 x8 x9 x10 : Value} (h : Ask w B x0 x1 x2 x3 x4 x5 x6 x7 x8 x9 x10) (hb : Below w.heap.size w w') : Ask w' B x0 x1 x2 x3 x4 x5 x6 x7 x8 x9 x10 := by
  obtain ⟨h, h0, h1, h2, h3, h4, h5, h6, h7, h8, h9, h10⟩ := h
  have o : ∀ j, w'.cell? ⟨B, j, none⟩ = w.cell? ⟨B, j, none⟩ := fun j => hb.cell (p := ⟨B, j, none⟩) h
  exact ⟨Nat.lt_of_lt_of_le h hb.size, by rw [o]; exact h0, by rw [o]; exact h1, by rw [o]; exact h2, by rw [o]; exact h3, by rw [o]; exact h4, by rw [o]; exact h5, by rw [o]; exact h6, by rw [o]; exact h7, by rw [o]; exact h8, by rw [o]; exact h9, by rw [o]; exact h10⟩
/-- The boxes at a handler's beginning: what it was asked, its result. -/
theorem ask_boxes (w : World) (x0 x1 x2 x3 x4 x5 x6 x7 x8 x9 x10 : Value) : ∃ W, (w.alloc (.cells #[x0, x1, x2, x3, x4, x5, x6, x7, x8, x9, x10] 68)).alloc (.cells #[.int .i64 0, .int .i64 0, .int .i64 0, .int .i64 0, .int .i64 0, .slice none 0 0] 24) = W ∧ Ask W w.heap.size x0 x1 x2 x3 x4 x5 x6 x7 x8 x9 x10 ∧ Res W (w.heap.size + 1) (.int .i64 0) (.int .i64 0) (.int .i64 0) (.int .i64 0) (.int .i64 0) (.slice none 0 0) ∧ Below w.heap.size w W ∧ w.heap.size + 1 + 1 = W.heap.size := by
  refine ⟨_, rfl, ?_⟩
  have h1 := askM w x0 x1 x2 x3 x4 x5 x6 x7 x8 x9 x10 68
  have n1 := hal w (.cells #[x0, x1, x2, x3, x4, x5, x6, x7, x8, x9, x10] 68)
  have s1 : (w.alloc (.cells #[x0, x1, x2, x3, x4, x5, x6, x7, x8, x9, x10] 68)).heap.size = w.heap.size + 1 := by simp
  generalize w.alloc (.cells #[x0, x1, x2, x3, x4, x5, x6, x7, x8, x9, x10] 68) = W1 at *
  have h2 := resM W1 (.int .i64 0) (.int .i64 0) (.int .i64 0) (.int .i64 0) (.int .i64 0) (.slice none 0 0) 24
  have n2 := hal W1 (.cells #[.int .i64 0, .int .i64 0, .int .i64 0, .int .i64 0, .int .i64 0, .slice none 0 0] 24)
  have s2 : (W1.alloc (.cells #[.int .i64 0, .int .i64 0, .int .i64 0, .int .i64 0, .int .i64 0, .slice none 0 0] 24)).heap.size = w.heap.size + 1 + 1 := by rw [← s1]; simp
  rw [s1] at h2
  exact ⟨askB h1 n2, h2, thenB n1 n2, s2.symm⟩
set_option maxRecDepth 100000 in
set_option maxHeartbeats 4000000 in
theorem taken_any (f t : ByteArray) (d : FDev) (v : Value) (c b n : Int) (w : World) (hv : IsSt w v d.ops) : Calls Tryz.prog 57 #[.agg #[.string f, .int .i64 d.sa, .int .i64 d.su, .int .i64 d.nx, .int .i64 d.gt, .int .i64 d.sl, v, .int .i64 c, .int .i64 b, .int .i64 n, .string t]] w (Made w (takeD f d b t) ⟨#[]⟩) := by
  have HT : Hid (∀ (w' : World), Below w.heap.size w w' → _) := fun w' hb => DnlTake.take_any f d v b t w' (hv.below hb)
  obtain ⟨W, hW, hX, hR, hB, hs⟩ := ask_boxes w (.string f) (.int .i64 d.sa) (.int .i64 d.su) (.int .i64 d.nx) (.int .i64 d.gt) (.int .i64 d.sl) v (.int .i64 c) (.int .i64 b) (.int .i64 n) (.string t)
  unfold Made
  unfold DnlWalk.Gave at HT
  generalize takeD f d b t = D at *
  generalize errL (okB f d b t) = E at *
  obtain ⟨a, ca, rfl, _, _⟩ := hv
  obtain ⟨sa, su, nx, gt, sl, l⟩ := d
  obtain ⟨xa, xu, xn, xg, xl, xo⟩ := D
  dsimp only at *
  subst hW
  go_enter Tryz.func57, Tryz.ntmps57
  go_wp2_with fail
  refine (HT.out _ hB).mono ?_
  generalize (w.alloc _).alloc _ = W at *
  rintro e w2 ⟨u, rfl, hown, hb⟩
  obtain ⟨a', c', rfl⟩ := owns_form hown
  have hO := (own_of hown).mono (show w.heap.size + 1 + 1 ≤ W.heap.size by omega)
  replace hB := thenB hB hb
  replace hR := resB hR hb
  clear hb hown HT hX
  have hD := resM w2 (.int .i64 xa) (.int .i64 xu) (.int .i64 xn) (.int .i64 xg) (.int .i64 xl) (.slice a' xo.length c') 24
  have hn := hal w2 (.cells #[.int .i64 xa, .int .i64 xu, .int .i64 xn, .int .i64 xg, .int .i64 xl, .slice a' xo.length c'] 24)
  replace hB := thenB hB hn
  replace hR := resB hR hn
  replace hO := hO.below hn
  clear hn
  go_upto_region 2 with fail
  generalize w2.alloc _ = W2 at *
  generalize w2.heap.size = G2 at *
  go_wp2_with fail
  exact bodyPost_ret (v := .tuple #[.agg #[.int .i64 xa, .int .i64 xu, .int .i64 xn, .int .i64 xg, .int .i64 xl, .slice a' xo.length c'], .string ⟨#[]⟩]) (by simp [results, Tryz.results57, go_sem, hR]) rfl ⟨_, rfl, (hO.set6 (show w.heap.size + 1 < w.heap.size + 1 + 1 by omega) _ _ _ _ _ _).mono (by omega), set6 hB (Nat.le_succ _)⟩
set_option maxRecDepth 100000 in
set_option maxHeartbeats 4000000 in
theorem given_any (f t : ByteArray) (d : FDev) (v : Value) (c b n : Int) (w : World) (hv : IsSt w v d.ops) : Calls Tryz.prog 58 #[.agg #[.string f, .int .i64 d.sa, .int .i64 d.su, .int .i64 d.nx, .int .i64 d.gt, .int .i64 d.sl, v, .int .i64 c, .int .i64 b, .int .i64 n, .string t]] w (Made w (giveD f d b n) (giveS f d b n)) := by
  have HT : Hid (∀ (w' : World), Below w.heap.size w w' → _) := fun w' hb => UplGive.give_any f d v b n w' (hv.below hb)
  obtain ⟨W, hW, hX, hR, hB, hs⟩ := ask_boxes w (.string f) (.int .i64 d.sa) (.int .i64 d.su) (.int .i64 d.nx) (.int .i64 d.gt) (.int .i64 d.sl) v (.int .i64 c) (.int .i64 b) (.int .i64 n) (.string t)
  unfold Made
  unfold UplGive.Given at HT
  generalize giveD f d b n = D at *
  generalize giveS f d b n = S at *
  generalize errV (okU f d b n) = E at *
  obtain ⟨a, ca, rfl, _, _⟩ := hv
  obtain ⟨sa, su, nx, gt, sl, l⟩ := d
  obtain ⟨xa, xu, xn, xg, xl, xo⟩ := D
  dsimp only at *
  subst hW
  go_enter Tryz.func58, Tryz.ntmps58
  go_wp2_with fail
  refine (HT.out _ hB).mono ?_
  generalize (w.alloc _).alloc _ = W at *
  rintro e w2 ⟨u, rfl, hO, hb⟩
  obtain ⟨a', c', rfl⟩ := hO.form
  replace hO := hO.mono (show w.heap.size + 1 + 1 ≤ W.heap.size by omega)
  replace hB := thenB hB hb
  replace hR := resB hR hb
  clear hb HT hX
  have hD := resM w2 (.int .i64 xa) (.int .i64 xu) (.int .i64 xn) (.int .i64 xg) (.int .i64 xl) (.slice a' xo.length c') 24
  have hn := hal w2 (.cells #[.int .i64 xa, .int .i64 xu, .int .i64 xn, .int .i64 xg, .int .i64 xl, .slice a' xo.length c'] 24)
  replace hB := thenB hB hn
  replace hR := resB hR hn
  replace hO := hO.below hn
  clear hn
  go_upto_region 2 with fail
  generalize w2.alloc _ = W2 at *
  generalize w2.heap.size = G2 at *
  go_wp2_with fail
  exact bodyPost_ret (v := .tuple #[.agg #[.int .i64 xa, .int .i64 xu, .int .i64 xn, .int .i64 xg, .int .i64 xl, .slice a' xo.length c'], .string S]) (by simp [results, Tryz.results58, go_sem, hR]) rfl ⟨_, rfl, (hO.set6 (show w.heap.size + 1 < w.heap.size + 1 + 1 by omega) _ _ _ _ _ _).mono (by omega), set6 hB (Nat.le_succ _)⟩
set_option maxRecDepth 100000 in
set_option maxHeartbeats 4000000 in
theorem told_any (f t : ByteArray) (d : FDev) (v : Value) (c b n : Int) (w : World) (hv : IsSt w v d.ops) : Calls Tryz.prog 59 #[.agg #[.string f, .int .i64 d.sa, .int .i64 d.su, .int .i64 d.nx, .int .i64 d.gt, .int .i64 d.sl, v, .int .i64 c, .int .i64 b, .int .i64 n, .string t]] w (Made w (getD f d) (Ans.ansS (getD f d).su (tkI (getD f d)) (getD f d).sa)) := by
  have HT : Hid (∀ (w' : World), Below w.heap.size w w' → _) := fun w' hb => StsGet.get_any f d v w' (hv.below hb)
  have HP := hide (fun w => AnsWalk.aput_any (getD f d).su (tkI (getD f d)) (getD f d).sa w)
  obtain ⟨W, hW, hX, hR, hB, hs⟩ := ask_boxes w (.string f) (.int .i64 d.sa) (.int .i64 d.su) (.int .i64 d.nx) (.int .i64 d.gt) (.int .i64 d.sl) v (.int .i64 c) (.int .i64 b) (.int .i64 n) (.string t)
  unfold Made
  unfold StsGet.Got at HT
  generalize Ans.ansS (getD f d).su (tkI (getD f d)) (getD f d).sa = S at *
  generalize Ans.errW (Ans.ansB (getD f d).su (tkI (getD f d)) (getD f d).sa) = E2 at *
  generalize tkI (getD f d) = K at *
  generalize getD f d = D at *
  generalize Sts.errT (bothB f d) = E at *
  obtain ⟨a, ca, rfl, _, _⟩ := hv
  obtain ⟨sa, su, nx, gt, sl, l⟩ := d
  obtain ⟨xa, xu, xn, xg, xl, xo⟩ := D
  dsimp only at *
  subst hW
  go_enter Tryz.func59, Tryz.ntmps59
  go_wp2_with fail
  refine (HT.out _ hB).mono ?_
  generalize (w.alloc _).alloc _ = W at *
  rintro e w2 ⟨u, rfl, hO, hb⟩
  obtain ⟨a', c', rfl⟩ := hO.form
  replace hO := hO.mono (show w.heap.size + 1 + 1 ≤ W.heap.size by omega)
  replace hB := thenB hB hb
  replace hR := resB hR hb
  clear hb HT hX
  have hD := resM w2 (.int .i64 xa) (.int .i64 xu) (.int .i64 xn) (.int .i64 xg) (.int .i64 xl) (.slice a' xo.length c') 24
  have hn := hal w2 (.cells #[.int .i64 xa, .int .i64 xu, .int .i64 xn, .int .i64 xg, .int .i64 xl, .slice a' xo.length c'] 24)
  have s1 : (w2.alloc (.cells #[.int .i64 xa, .int .i64 xu, .int .i64 xn, .int .i64 xg, .int .i64 xl, .slice a' xo.length c'] 24)).heap.size = w2.heap.size + 1 := by simp
  have hP := AnsWalk.resM (w2.alloc (.cells #[.int .i64 xa, .int .i64 xu, .int .i64 xn, .int .i64 xg, .int .i64 xl, .slice a' xo.length c'] 24)) (.int .i64 xu) (.int .i64 K) (.int .i64 xa) 52
  have hn2 := hal (w2.alloc (.cells #[.int .i64 xa, .int .i64 xu, .int .i64 xn, .int .i64 xg, .int .i64 xl, .slice a' xo.length c'] 24)) (.cells #[.int .i64 xu, .int .i64 K, .int .i64 xa] 52)
  replace hB := thenB (thenB hB hn) hn2
  replace hR := resB (resB hR hn) hn2
  replace hO := (hO.below hn).below hn2
  replace hD := resB hD hn2
  rw [s1] at hP
  clear hn hn2 s1
  go_upto_region 2 with fail
  generalize (w2.alloc _).alloc _ = W2 at *
  generalize w2.heap.size = G2 at *
  go_wp2_with fail
  refine (HP.out _).mono ?_
  rintro e w3 ⟨rfl, hb⟩
  replace hB := thenB hB hb
  replace hR := resB hR hb
  replace hD := resB hD hb
  replace hO := hO.below hb
  clear hb HP hP
  go_wp2_with fail
  exact bodyPost_ret (v := .tuple #[.agg #[.int .i64 xa, .int .i64 xu, .int .i64 xn, .int .i64 xg, .int .i64 xl, .slice a' xo.length c'], .string S]) (by simp [results, Tryz.results59, go_sem, hR]) rfl ⟨_, rfl, (hO.set6 (show w.heap.size + 1 < w.heap.size + 1 + 1 by omega) _ _ _ _ _ _).mono (by omega), set6 hB (Nat.le_succ _)⟩
set_option maxRecDepth 100000 in
set_option maxHeartbeats 4000000 in
theorem renewed_any (f t : ByteArray) (d : FDev) (v : Value) (c b n : Int) (w : World) (hv : IsSt w v d.ops) : Calls Tryz.prog 61 #[.agg #[.string f, .int .i64 d.sa, .int .i64 d.su, .int .i64 d.nx, .int .i64 d.gt, .int .i64 d.sl, v, .int .i64 c, .int .i64 b, .int .i64 n, .string t]] w (Made w newD ⟨#[]⟩) := by
  have HT := hide (fun w => DevWalk.new_any w)
  obtain ⟨W, hW, hX, hR, hB, hs⟩ := ask_boxes w (.string f) (.int .i64 d.sa) (.int .i64 d.su) (.int .i64 d.nx) (.int .i64 d.gt) (.int .i64 d.sl) v (.int .i64 c) (.int .i64 b) (.int .i64 n) (.string t)
  unfold Made newD
  obtain ⟨a, ca, rfl, _, _⟩ := hv
  obtain ⟨sa, su, nx, gt, sl, l⟩ := d
  dsimp only at *
  subst hW
  go_enter Tryz.func61, Tryz.ntmps61
  go_wp2_with (go_at_call 87; refine (HT.out _).mono ?_; rintro e w2 ⟨rfl, hb⟩; replace hB := thenB hB hb; replace hR := resB hR hb; clear hb)
  exact bodyPost_ret (v := .tuple #[.agg #[.int .i64 0, .int .i64 0, .int .i64 0, .int .i64 0, .int .i64 0, .slice none 0 0], .string ⟨#[]⟩]) (by simp [results, Tryz.results61, go_sem, hR]) rfl ⟨_, rfl, own_none _ _, set6 hB (Nat.le_succ _)⟩
end Go.Proofs.YtmlfkbkpkgaefaaGreatDoor.CtlAsk

/- The contract of package control's handler that names the state. -/
namespace Go.Proofs.YtmlfkbkpkgaefaaGreatDoor.CtlAsk
open Go.Proofs.YtmlfkbkpkgaefaaGreatDoor Go.RowKit Go.Proofs.YtmlfkbkpkgaefaaGreatDoor.Bytes Go.Proofs.YtmlfkbkpkgaefaaGreatDoor.Ops Go.Proofs.YtmlfkbkpkgaefaaGreatDoor.OpsRow Go.Proofs.YtmlfkbkpkgaefaaGreatDoor.Jou Go.Proofs.YtmlfkbkpkgaefaaGreatDoor.Act Go.Proofs.YtmlfkbkpkgaefaaGreatDoor.Dev Go.Proofs.YtmlfkbkpkgaefaaGreatDoor.DevRow Go.Proofs.YtmlfkbkpkgaefaaGreatDoor.DevSet Go.Proofs.YtmlfkbkpkgaefaaGreatDoor.Dnl Go.Proofs.YtmlfkbkpkgaefaaGreatDoor.DnlCopy Go.Proofs.YtmlfkbkpkgaefaaGreatDoor.Tic Go.Proofs.YtmlfkbkpkgaefaaGreatDoor.TicRow Go.Proofs.YtmlfkbkpkgaefaaGreatDoor.Sts Go.Proofs.YtmlfkbkpkgaefaaGreatDoor.Upl Go.Proofs.YtmlfkbkpkgaefaaGreatDoor.Sup Go.Proofs.YtmlfkbkpkgaefaaGreatDoor.Tab Go.Proofs.YtmlfkbkpkgaefaaGreatDoor.TabLaid Go.Proofs.YtmlfkbkpkgaefaaGreatDoor.Ctl
open Go.Proofs.YtmlfkbkpkgaefaaGreatDoor.UplWalk (hal)
open List (setIfInBounds_toArray set_cons_zero set_cons_succ)
attribute [local go_sem ↓] Go.wp_at_zero Go.wp_at_succ
/-- One byte in a block of its own. -/
abbrev One (w : World) (G : Nat) (x : Value) : Prop := G < w.heap.size ∧ w.cell? ⟨G, 0, none⟩ = some x
theorem one_new (w : World) (x : Value) (e : TypeId) : One (w.alloc (.cells #[x] e)) w.heap.size x := ⟨by simp, by rw [World.cell?_alloc_at _ e _ 0 rfl]; rfl⟩
theorem one_below {w w' : World} {G : Nat} {x : Value} (h : One w G x) (hb : Below w.heap.size w w') : One w' G x := ⟨Nat.lt_of_lt_of_le h.1 hb.size, by rw [hb.cell (p := ⟨G, 0, none⟩) h.1]; exact h.2⟩
theorem one_other {w : World} {G : Nat} {x : Value} (h : One w G x) {A : Nat} (hA : A ≠ G) (i : Nat) (y : Value) : One (w.setCell ⟨A, i, none⟩ y) G x := ⟨by rw [size_set]; exact h.1, by rw [World.cell?_setCell_other w _ _ _ (ne_blk hA)]; exact h.2⟩
theorem one_other6 {w : World} {G : Nat} {x : Value} (h : One w G x) {A : Nat} (hA : A ≠ G) (y0 y1 y2 y3 y4 y5 : Value) : One ((((((w.setCell ⟨A, 0, none⟩ y0).setCell ⟨A, 1, none⟩ y1).setCell ⟨A, 2, none⟩ y2).setCell ⟨A, 3, none⟩ y3).setCell ⟨A, 4, none⟩ y4).setCell ⟨A, 5, none⟩ y5) G x := one_other (one_other (one_other (one_other (one_other (one_other h hA 0 y0) hA 1 y1) hA 2 y2) hA 3 y3) hA 4 y4) hA 5 y5
theorem askO {w : World} {B : Nat} {x0 x1 x2 x3 x4 x5 x6 x7 x8 x9 x10 : Value} (h : Ask w B x0 x1 x2 x3 x4 x5 x6 x7 x8 x9 x10) {A : Nat} (hA : A ≠ B) (i : Nat) (y : Value) : Ask (w.setCell ⟨A, i, none⟩ y) B x0 x1 x2 x3 x4 x5 x6 x7 x8 x9 x10 := by
  obtain ⟨h, h0, h1, h2, h3, h4, h5, h6, h7, h8, h9, h10⟩ := h
  have o : ∀ j, (w.setCell ⟨A, i, none⟩ y).cell? ⟨B, j, none⟩ = w.cell? ⟨B, j, none⟩ := fun j => World.cell?_setCell_other w _ _ _ (ne_blk hA)
  exact ⟨by rw [size_set]; exact h, by rw [o]; exact h0, by rw [o]; exact h1, by rw [o]; exact h2, by rw [o]; exact h3, by rw [o]; exact h4, by rw [o]; exact h5, by rw [o]; exact h6, by rw [o]; exact h7, by rw [o]; exact h8, by rw [o]; exact h9, by rw [o]; exact h10⟩
theorem askO6 {w : World} {B : Nat} {x0 x1 x2 x3 x4 x5 x6 x7 x8 x9 x10 : Value} (h : Ask w B x0 x1 x2 x3 x4 x5 x6 x7 x8 x9 x10) {A : Nat} (hA : A ≠ B) (y0 y1 y2 y3 y4 y5 : Value) : Ask ((((((w.setCell ⟨A, 0, none⟩ y0).setCell ⟨A, 1, none⟩ y1).setCell ⟨A, 2, none⟩ y2).setCell ⟨A, 3, none⟩ y3).setCell ⟨A, 4, none⟩ y4).setCell ⟨A, 5, none⟩ y5) B x0 x1 x2 x3 x4 x5 x6 x7 x8 x9 x10 := askO (askO (askO (askO (askO (askO h hA 0 y0) hA 1 y1) hA 2 y2) hA 3 y3) hA 4 y4) hA 5 y5
/-- A slice of one byte as a text. -/
theorem one_text {w : World} {G : Nat} {x : Int} (h : w.cell? ⟨G, 0, none⟩ = some (.int .u8 x)) (h0 : 0 ≤ x) (h1 : x ≤ 7) : (convert 49 9 (.slice (some ⟨G, 0, none⟩) 1 1)).run Tryz.prog w = .ok (.string (byteS x)) w := by
  unfold byteS
  refine run_convert_bytes_back w 49 9 5 ⟨G, 0, none⟩ 1 (Ent.lowL x.toNat 1) Tryz.underlying49 Tryz.underlying5 Tryz.underlying9 fun j hj => ?_
  obtain rfl : j = 0 := by rw [Ent.length_lowL] at hj; omega
  have e1 : (⟨G, 0, none⟩ : Addr).add 0 = ⟨G, 0, none⟩ := by simp [Addr.add]
  rw [e1, h]
  have e2 : (Ent.lowL x.toNat 1)[0]'hj = UInt8.ofNat x.toNat := by simp [Ent.lowL, Ent.byteAt]
  rw [e2]
  have e3 : (UInt8.ofNat x.toNat).toNat = x.toNat := by rw [UInt8.toNat_ofNat']; omega
  rw [e3, Int.toNat_of_nonneg h0]
set_option maxRecDepth 100000 in
set_option maxHeartbeats 8000000 in
theorem named_any (f t : ByteArray) (d : FDev) (v : Value) (c b n : Int) (w : World) (hv : IsSt w v d.ops) (hd : devB d = true) : Calls Tryz.prog 60 #[.agg #[.string f, .int .i64 d.sa, .int .i64 d.su, .int .i64 d.nx, .int .i64 d.gt, .int .i64 d.sl, v, .int .i64 c, .int .i64 b, .int .i64 n, .string t]] w (Made w d (byteS d.sa)) := by
  have HT : Hid (∀ (w' : World), Below w.heap.size w w' → _) := fun w' hb => fresh_any d v w' (hv.below hb) (DnlWalk.dev_steps hd) (dev_parts hd).2.2.2
  obtain ⟨W, hW, hX, hR, hB, hs⟩ := ask_boxes w (.string f) (.int .i64 d.sa) (.int .i64 d.su) (.int .i64 d.nx) (.int .i64 d.gt) (.int .i64 d.sl) v (.int .i64 c) (.int .i64 b) (.int .i64 n) (.string t)
  have h01 : 0 ≤ d.sa ∧ d.sa ≤ 7 := by
    unfold devB at hd
    simp only [Bool.and_eq_true] at hd
    exact Ans.saB_parts.1 hd.1.1.1.1.1
  obtain ⟨h0, h1⟩ := h01
  have h2 : IntKind.u8.wrap d.sa = d.sa := by simp only [IntKind.wrap, IntKind.bits, IntKind.signed]; simp; omega
  have hz := Nat.le_of_eq hs
  clear hs hd
  unfold Made
  obtain ⟨a, ca, rfl, _, _⟩ := hv
  obtain ⟨sa, su, nx, gt, sl, l⟩ := d
  dsimp only at *
  subst hW
  go_enter Tryz.func60, Tryz.ntmps60
  go_upto_region 1 with fail
  generalize (w.alloc _).alloc _ = W at *
  refine wp_region_noPanic ?_
  refine wp_region_held_drew (S := fun X => X.cell? ⟨w.heap.size, 1, none⟩ = some (.int .i64 sa) ∧ X.cell? ⟨w.heap.size, 2, none⟩ = some (.int .i64 su) ∧ X.cell? ⟨w.heap.size, 3, none⟩ = some (.int .i64 nx) ∧ X.cell? ⟨w.heap.size, 4, none⟩ = some (.int .i64 gt) ∧ X.cell? ⟨w.heap.size, 5, none⟩ = some (.int .i64 sl) ∧ X.cell? ⟨w.heap.size, 6, none⟩ = some (.slice a l.length ca)) (by kernel_rfl) (by exact ⟨hX.2.2.1, hX.2.2.2.1, hX.2.2.2.2.1, hX.2.2.2.2.2.1, hX.2.2.2.2.2.2.1, hX.2.2.2.2.2.2.2.1⟩) (fun hHeld => ?_)
  refine wpAnyH_take (i := 0) (oi := { dst := some 4, op := Op.fieldAddr 68 (Operand.tmp 1) 1, type := 0, pos := "control.go:104", after := #[], guard := none }) (v := ?_) rfl (by kernel_rfl) (by kernel_rfl) (by kernel_rfl) (fun _ _ _ h => h) (Or.inl ⟨by rfl, ?_⟩) (by assumption) ?_
  rotate_left
  · (intro w hSw; (try dsimp only at hSw); go_simp; all_goals with_reducible rfl)
  try simp only [Act.put, setIfInBounds_toArray, set_cons_zero, set_cons_succ]
  refine wpAnyH_take (i := 1) (oi := { dst := some 5, op := Op.load 24 (Operand.tmp 4), type := 24, pos := "control.go:104", after := #[{ on := 0, ground := Ground.data }], guard := none }) (v := ?_) rfl (by kernel_rfl) (by kernel_rfl) (by kernel_rfl) (fun _ _ _ h => h) (Or.inl ⟨by rfl, ?_⟩) (by assumption) ?_
  rotate_left
  · (intro w hSw; (try dsimp only at hSw); go_simp; all_goals with_reducible rfl)
  try simp only [Act.put, setIfInBounds_toArray, set_cons_zero, set_cons_succ]
  refine wpAnyH_take (i := 3) (oi := { dst := some 7, op := Op.fieldAddr 68 (Operand.tmp 1) 1, type := 0, pos := "control.go:104", after := #[{ on := 9, ground := Ground.gcOnly Departure.lateStores }], guard := none }) (v := ?_) rfl (by kernel_rfl) (by kernel_rfl) (by kernel_rfl) (fun _ _ _ h => h) (Or.inl ⟨by rfl, ?_⟩) (by assumption) ?_
  rotate_left
  · (intro w hSw; (try dsimp only at hSw); go_simp; all_goals with_reducible rfl)
  try simp only [Act.put, setIfInBounds_toArray, set_cons_zero, set_cons_succ]
  refine wpAnyH_take (i := 4) (oi := { dst := some 8, op := Op.fieldAddr 24 (Operand.tmp 7) 0, type := 0, pos := "control.go:104", after := #[{ on := 3, ground := Ground.data }, { on := 9, ground := Ground.gcOnly Departure.lateStores }], guard := none }) (v := ?_) rfl (by kernel_rfl) (by kernel_rfl) (by kernel_rfl) (fun _ _ _ h => h) (Or.inl ⟨by rfl, ?_⟩) (by assumption) ?_
  rotate_left
  · (intro w hSw; (try dsimp only at hSw); go_simp; all_goals with_reducible rfl)
  try simp only [Act.put, setIfInBounds_toArray, set_cons_zero, set_cons_succ]
  refine wpAnyH_take (i := 5) (oi := { dst := some 9, op := Op.load 3 (Operand.tmp 8), type := 3, pos := "control.go:104", after := #[{ on := 4, ground := Ground.data }, { on := 9, ground := Ground.gcOnly Departure.lateStores }], guard := none }) (v := ?_) rfl (by kernel_rfl) (by kernel_rfl) (by kernel_rfl) (fun _ _ _ h => h) (Or.inl ⟨by rfl, ?_⟩) (by assumption) ?_
  rotate_left
  · (intro w hSw; (try dsimp only at hSw); go_simp; all_goals with_reducible rfl)
  try simp only [Act.put, setIfInBounds_toArray, set_cons_zero, set_cons_succ]
  refine wpAnyH_take (i := 6) (oi := { dst := some 10, op := Op.convert 3 5 (Operand.tmp 9), type := 5, pos := "control.go:104", after := #[{ on := 5, ground := Ground.data }, { on := 9, ground := Ground.gcOnly Departure.lateStores }], guard := none }) (v := ?_) rfl (by kernel_rfl) (by kernel_rfl) (by kernel_rfl) (fun _ _ _ h => h) (Or.inl ⟨by rfl, ?_⟩) (by assumption) ?_
  rotate_left
  · (intro w hSw; (try dsimp only at hSw); go_simp; all_goals with_reducible rfl)
  try simp only [Act.put, setIfInBounds_toArray, set_cons_zero, set_cons_succ]
  refine wpAnyH_ready (rs := [2, 7]) (by kernel_rfl) (by simp) ?_
  refine AllReadyH.cons (o := { dst := some 6, op := Op.call { callee := Callee.value (Operand.func 92), args := #[Operand.tmp 5], argTypes := #[24] }, type := 24, pos := "control.go:104", after := #[{ on := 1, ground := Ground.data }], guard := none }) rfl (fun K hK => ?_) ?_
  ·
   go_simp
   go_at_call 92
   refine (HT.out _ (by first | exact hB | exact StsGet.bD hB)).mono ?_
   rintro e y1 ⟨u, rfl, hown, hb⟩
   obtain ⟨a', c', rfl⟩ := owns_form hown
   replace hb : Below W.heap.size W y1 := ⟨hb.os, hb.tape, hb.output, hb.size, hb.block⟩
   have hO : OwnSt y1 (w.heap.size + 1 + 1) (.slice a' l.length c') l := (own_of hown).mono hz
   replace hB := thenB hB hb
   replace hR := resB hR hb
   replace hX := askB hX hb
   replace hz := Nat.le_trans hz hb.size
   clear hb hown
   refine hK.out _ _ (by exact ⟨hX.2.2.1, hX.2.2.2.1, hX.2.2.2.2.1, hX.2.2.2.2.2.1, hX.2.2.2.2.2.2.1, hX.2.2.2.2.2.2.2.1⟩) (fun hHeld => ?_)
   clear hK K
   try simp only [Act.put, setIfInBounds_toArray, set_cons_zero, set_cons_succ]
   refine wpAnyH_ready (rs := [7, 9]) (by kernel_rfl) (by simp) ?_
   refine AllReadyH.cons (o := { dst := some 11, op := Op.buildSlice 49 1 #[(0, Operand.tmp 10)], type := 49, pos := "control.go:104", after := #[{ on := 6, ground := Ground.data }, { on := 9, ground := Ground.gcOnly Departure.lateStores }], guard := none }) rfl (fun K hK => ?_) ?_
   ·
    go_simp
    have hn := hal y1 (.cells #[.int .u8 sa] 5)
    have hL := one_new y1 (.int .u8 sa) 5
    replace hB := thenB hB hn
    replace hR := resB hR hn
    replace hX := askB hX hn
    have hzG : w.heap.size + 1 + 1 ≤ y1.heap.size := hz
    replace hz := Nat.le_trans hz hn.size
    replace hO := hO.below hn
    clear hn
    refine hK.out _ _ (by exact ⟨hX.2.2.1, hX.2.2.2.1, hX.2.2.2.2.1, hX.2.2.2.2.2.1, hX.2.2.2.2.2.2.1, hX.2.2.2.2.2.2.2.1⟩) (fun hHeld => ?_)
    clear hK K
    try simp only [Act.put, setIfInBounds_toArray, set_cons_zero, set_cons_succ]
    generalize y1.alloc (.cells #[.int .u8 sa] 5) = y2 at *
    generalize y1.heap.size = G at *
    refine wpAnyH_ready (rs := [8, 9]) (by kernel_rfl) (by simp) ?_
    refine AllReadyH.cons (o := { dst := some 12, op := Op.convert 49 9 (Operand.tmp 11), type := 9, pos := "control.go:104", after := #[{ on := 7, ground := Ground.data }, { on := 9, ground := Ground.gcOnly Departure.lateStores }], guard := none }) rfl (fun K hK => ?_) ?_
    ·
     have hcv := one_text hL.2 h0 h1
     go_simp
     refine hK.out _ _ (by exact ⟨hX.2.2.1, hX.2.2.2.1, hX.2.2.2.2.1, hX.2.2.2.2.2.1, hX.2.2.2.2.2.2.1, hX.2.2.2.2.2.2.2.1⟩) (fun hHeld => ?_)
     clear hcv hK K
     try simp only [Act.put, setIfInBounds_toArray, set_cons_zero, set_cons_succ]
     refine wpAnyH_ready (rs := [9]) (by kernel_rfl) (by simp) ?_
     refine AllReadyH.cons (o := { dst := none, op := Op.store 24 (Operand.tmp 2) (Operand.tmp 6), type := 0, pos := "control.go:104", after := #[{ on := 2, ground := Ground.data }, { on := 2, ground := Ground.chain }, { on := 0, ground := Ground.phase }, { on := 1, ground := Ground.phase }, { on := 2, ground := Ground.phase }, { on := 3, ground := Ground.textOnly Departure.lateStores }, { on := 4, ground := Ground.textOnly Departure.lateStores }, { on := 5, ground := Ground.textOnly Departure.lateStores }, { on := 6, ground := Ground.textOnly Departure.lateStores }, { on := 7, ground := Ground.textOnly Departure.lateStores }, { on := 8, ground := Ground.textOnly Departure.lateStores }], guard := none }) rfl (fun K hK => ?_) ?_
     ·
      go_simp
      have hz2 : y2.heap.size = ((((((y2.setCell ⟨w.heap.size + 1, 0, none⟩ (.int .i64 sa)).setCell ⟨w.heap.size + 1, 1, none⟩ (.int .i64 su)).setCell ⟨w.heap.size + 1, 2, none⟩ (.int .i64 nx)).setCell ⟨w.heap.size + 1, 3, none⟩ (.int .i64 gt)).setCell ⟨w.heap.size + 1, 4, none⟩ (.int .i64 sl)).setCell ⟨w.heap.size + 1, 5, none⟩ (.slice a' l.length c')).heap.size := by simp only [size_set]
      replace hL := one_other6 hL (show w.heap.size + 1 ≠ G by omega) (.int .i64 sa) (.int .i64 su) (.int .i64 nx) (.int .i64 gt) (.int .i64 sl) (.slice a' l.length c')
      replace hR := res6 hR (.int .i64 sa) (.int .i64 su) (.int .i64 nx) (.int .i64 gt) (.int .i64 sl) (.slice a' l.length c')
      replace hX := askO6 hX (show w.heap.size + 1 ≠ w.heap.size by omega) (.int .i64 sa) (.int .i64 su) (.int .i64 nx) (.int .i64 gt) (.int .i64 sl) (.slice a' l.length c')
      replace hO := hO.set6 (show w.heap.size + 1 < w.heap.size + 1 + 1 by omega) (.int .i64 sa) (.int .i64 su) (.int .i64 nx) (.int .i64 gt) (.int .i64 sl) (.slice a' l.length c')
      replace hB := set6 (x0 := .int .i64 sa) (x1 := .int .i64 su) (x2 := .int .i64 nx) (x3 := .int .i64 gt) (x4 := .int .i64 sl) (x5 := .slice a' l.length c') hB (Nat.le_succ w.heap.size)
      replace hz := Nat.le_trans hz (Nat.le_of_eq hz2)
      clear hz2
      refine hK.out _ _ (by exact ⟨hX.2.2.1, hX.2.2.2.1, hX.2.2.2.2.1, hX.2.2.2.2.2.1, hX.2.2.2.2.2.2.1, hX.2.2.2.2.2.2.2.1⟩) (fun hHeld => ?_)
      clear hK K
      try simp only [Act.put, setIfInBounds_toArray, set_cons_zero, set_cons_succ]
      generalize (((((y2.setCell ⟨w.heap.size + 1, 0, none⟩ (.int .i64 sa)).setCell ⟨w.heap.size + 1, 1, none⟩ (.int .i64 su)).setCell ⟨w.heap.size + 1, 2, none⟩ (.int .i64 nx)).setCell ⟨w.heap.size + 1, 3, none⟩ (.int .i64 gt)).setCell ⟨w.heap.size + 1, 4, none⟩ (.int .i64 sl)).setCell ⟨w.heap.size + 1, 5, none⟩ (.slice a' l.length c') = y4 at *
      refine wpAnyH_take (i := 10) (oi := { dst := some 3, op := Op.assign (Operand.tmp 12), type := 9, pos := "control.go:104", after := #[{ on := 8, ground := Ground.data }, { on := 9, ground := Ground.chain }, { on := 0, ground := Ground.phase }, { on := 1, ground := Ground.phase }, { on := 2, ground := Ground.phase }, { on := 3, ground := Ground.phase }, { on := 4, ground := Ground.phase }, { on := 5, ground := Ground.phase }, { on := 6, ground := Ground.phase }, { on := 7, ground := Ground.phase }, { on := 8, ground := Ground.phase }, { on := 9, ground := Ground.phase }], guard := none }) (v := ?_) rfl (by kernel_rfl) (by kernel_rfl) (by kernel_rfl) (fun _ _ _ h => h) (Or.inl ⟨by rfl, ?_⟩) (by assumption) ?_
      rotate_left
      · (intro w hSw; (try dsimp only at hSw); go_simp; all_goals with_reducible rfl)
      try simp only [Act.put, setIfInBounds_toArray, set_cons_zero, set_cons_succ]
      refine wpAnyH_done (by kernel_rfl) ?_ _
      refine NoPanic.normal ?_
      go_wp2_with fail
      exact bodyPost_ret (v := .tuple #[.agg #[.int .i64 sa, .int .i64 su, .int .i64 nx, .int .i64 gt, .int .i64 sl, .slice a' l.length c'], .string (byteS sa)]) (by simp [results, Tryz.results60, go_sem, hR]) rfl ⟨_, rfl, hO.mono (by omega), hB⟩
     exact AllReadyH.nil
    refine AllReadyH.cons (o := { dst := none, op := Op.store 24 (Operand.tmp 2) (Operand.tmp 6), type := 0, pos := "control.go:104", after := #[{ on := 2, ground := Ground.data }, { on := 2, ground := Ground.chain }, { on := 0, ground := Ground.phase }, { on := 1, ground := Ground.phase }, { on := 2, ground := Ground.phase }, { on := 3, ground := Ground.textOnly Departure.lateStores }, { on := 4, ground := Ground.textOnly Departure.lateStores }, { on := 5, ground := Ground.textOnly Departure.lateStores }, { on := 6, ground := Ground.textOnly Departure.lateStores }, { on := 7, ground := Ground.textOnly Departure.lateStores }, { on := 8, ground := Ground.textOnly Departure.lateStores }], guard := none }) rfl (fun K hK => ?_) ?_
    ·
     go_simp
     have hz2 : y2.heap.size = ((((((y2.setCell ⟨w.heap.size + 1, 0, none⟩ (.int .i64 sa)).setCell ⟨w.heap.size + 1, 1, none⟩ (.int .i64 su)).setCell ⟨w.heap.size + 1, 2, none⟩ (.int .i64 nx)).setCell ⟨w.heap.size + 1, 3, none⟩ (.int .i64 gt)).setCell ⟨w.heap.size + 1, 4, none⟩ (.int .i64 sl)).setCell ⟨w.heap.size + 1, 5, none⟩ (.slice a' l.length c')).heap.size := by simp only [size_set]
     replace hL := one_other6 hL (show w.heap.size + 1 ≠ G by omega) (.int .i64 sa) (.int .i64 su) (.int .i64 nx) (.int .i64 gt) (.int .i64 sl) (.slice a' l.length c')
     replace hR := res6 hR (.int .i64 sa) (.int .i64 su) (.int .i64 nx) (.int .i64 gt) (.int .i64 sl) (.slice a' l.length c')
     replace hX := askO6 hX (show w.heap.size + 1 ≠ w.heap.size by omega) (.int .i64 sa) (.int .i64 su) (.int .i64 nx) (.int .i64 gt) (.int .i64 sl) (.slice a' l.length c')
     replace hO := hO.set6 (show w.heap.size + 1 < w.heap.size + 1 + 1 by omega) (.int .i64 sa) (.int .i64 su) (.int .i64 nx) (.int .i64 gt) (.int .i64 sl) (.slice a' l.length c')
     replace hB := set6 (x0 := .int .i64 sa) (x1 := .int .i64 su) (x2 := .int .i64 nx) (x3 := .int .i64 gt) (x4 := .int .i64 sl) (x5 := .slice a' l.length c') hB (Nat.le_succ w.heap.size)
     replace hz := Nat.le_trans hz (Nat.le_of_eq hz2)
     clear hz2
     refine hK.out _ _ (by exact ⟨hX.2.2.1, hX.2.2.2.1, hX.2.2.2.2.1, hX.2.2.2.2.2.1, hX.2.2.2.2.2.2.1, hX.2.2.2.2.2.2.2.1⟩) (fun hHeld => ?_)
     clear hK K
     try simp only [Act.put, setIfInBounds_toArray, set_cons_zero, set_cons_succ]
     generalize (((((y2.setCell ⟨w.heap.size + 1, 0, none⟩ (.int .i64 sa)).setCell ⟨w.heap.size + 1, 1, none⟩ (.int .i64 su)).setCell ⟨w.heap.size + 1, 2, none⟩ (.int .i64 nx)).setCell ⟨w.heap.size + 1, 3, none⟩ (.int .i64 gt)).setCell ⟨w.heap.size + 1, 4, none⟩ (.int .i64 sl)).setCell ⟨w.heap.size + 1, 5, none⟩ (.slice a' l.length c') = y5 at *
     refine wpAnyH_ready (rs := [8]) (by kernel_rfl) (by simp) ?_
     refine AllReadyH.cons (o := { dst := some 12, op := Op.convert 49 9 (Operand.tmp 11), type := 9, pos := "control.go:104", after := #[{ on := 7, ground := Ground.data }, { on := 9, ground := Ground.gcOnly Departure.lateStores }], guard := none }) rfl (fun K hK => ?_) ?_
     ·
      have hcv := one_text hL.2 h0 h1
      go_simp
      refine hK.out _ _ (by exact ⟨hX.2.2.1, hX.2.2.2.1, hX.2.2.2.2.1, hX.2.2.2.2.2.1, hX.2.2.2.2.2.2.1, hX.2.2.2.2.2.2.2.1⟩) (fun hHeld => ?_)
      clear hcv hK K
      try simp only [Act.put, setIfInBounds_toArray, set_cons_zero, set_cons_succ]
      refine wpAnyH_take (i := 10) (oi := { dst := some 3, op := Op.assign (Operand.tmp 12), type := 9, pos := "control.go:104", after := #[{ on := 8, ground := Ground.data }, { on := 9, ground := Ground.chain }, { on := 0, ground := Ground.phase }, { on := 1, ground := Ground.phase }, { on := 2, ground := Ground.phase }, { on := 3, ground := Ground.phase }, { on := 4, ground := Ground.phase }, { on := 5, ground := Ground.phase }, { on := 6, ground := Ground.phase }, { on := 7, ground := Ground.phase }, { on := 8, ground := Ground.phase }, { on := 9, ground := Ground.phase }], guard := none }) (v := ?_) rfl (by kernel_rfl) (by kernel_rfl) (by kernel_rfl) (fun _ _ _ h => h) (Or.inl ⟨by rfl, ?_⟩) (by assumption) ?_
      rotate_left
      · (intro w hSw; (try dsimp only at hSw); go_simp; all_goals with_reducible rfl)
      try simp only [Act.put, setIfInBounds_toArray, set_cons_zero, set_cons_succ]
      refine wpAnyH_done (by kernel_rfl) ?_ _
      refine NoPanic.normal ?_
      go_wp2_with fail
      exact bodyPost_ret (v := .tuple #[.agg #[.int .i64 sa, .int .i64 su, .int .i64 nx, .int .i64 gt, .int .i64 sl, .slice a' l.length c'], .string (byteS sa)]) (by simp [results, Tryz.results60, go_sem, hR]) rfl ⟨_, rfl, hO.mono (by omega), hB⟩
     exact AllReadyH.nil
    exact AllReadyH.nil
   refine AllReadyH.cons (o := { dst := none, op := Op.store 24 (Operand.tmp 2) (Operand.tmp 6), type := 0, pos := "control.go:104", after := #[{ on := 2, ground := Ground.data }, { on := 2, ground := Ground.chain }, { on := 0, ground := Ground.phase }, { on := 1, ground := Ground.phase }, { on := 2, ground := Ground.phase }, { on := 3, ground := Ground.textOnly Departure.lateStores }, { on := 4, ground := Ground.textOnly Departure.lateStores }, { on := 5, ground := Ground.textOnly Departure.lateStores }, { on := 6, ground := Ground.textOnly Departure.lateStores }, { on := 7, ground := Ground.textOnly Departure.lateStores }, { on := 8, ground := Ground.textOnly Departure.lateStores }], guard := none }) rfl (fun K hK => ?_) ?_
   ·
    go_simp
    have hz2 : y1.heap.size = ((((((y1.setCell ⟨w.heap.size + 1, 0, none⟩ (.int .i64 sa)).setCell ⟨w.heap.size + 1, 1, none⟩ (.int .i64 su)).setCell ⟨w.heap.size + 1, 2, none⟩ (.int .i64 nx)).setCell ⟨w.heap.size + 1, 3, none⟩ (.int .i64 gt)).setCell ⟨w.heap.size + 1, 4, none⟩ (.int .i64 sl)).setCell ⟨w.heap.size + 1, 5, none⟩ (.slice a' l.length c')).heap.size := by simp only [size_set]
    replace hR := res6 hR (.int .i64 sa) (.int .i64 su) (.int .i64 nx) (.int .i64 gt) (.int .i64 sl) (.slice a' l.length c')
    replace hX := askO6 hX (show w.heap.size + 1 ≠ w.heap.size by omega) (.int .i64 sa) (.int .i64 su) (.int .i64 nx) (.int .i64 gt) (.int .i64 sl) (.slice a' l.length c')
    replace hO := hO.set6 (show w.heap.size + 1 < w.heap.size + 1 + 1 by omega) (.int .i64 sa) (.int .i64 su) (.int .i64 nx) (.int .i64 gt) (.int .i64 sl) (.slice a' l.length c')
    replace hB := set6 (x0 := .int .i64 sa) (x1 := .int .i64 su) (x2 := .int .i64 nx) (x3 := .int .i64 gt) (x4 := .int .i64 sl) (x5 := .slice a' l.length c') hB (Nat.le_succ w.heap.size)
    replace hz := Nat.le_trans hz (Nat.le_of_eq hz2)
    clear hz2
    refine hK.out _ _ (by exact ⟨hX.2.2.1, hX.2.2.2.1, hX.2.2.2.2.1, hX.2.2.2.2.2.1, hX.2.2.2.2.2.2.1, hX.2.2.2.2.2.2.2.1⟩) (fun hHeld => ?_)
    clear hK K
    try simp only [Act.put, setIfInBounds_toArray, set_cons_zero, set_cons_succ]
    generalize (((((y1.setCell ⟨w.heap.size + 1, 0, none⟩ (.int .i64 sa)).setCell ⟨w.heap.size + 1, 1, none⟩ (.int .i64 su)).setCell ⟨w.heap.size + 1, 2, none⟩ (.int .i64 nx)).setCell ⟨w.heap.size + 1, 3, none⟩ (.int .i64 gt)).setCell ⟨w.heap.size + 1, 4, none⟩ (.int .i64 sl)).setCell ⟨w.heap.size + 1, 5, none⟩ (.slice a' l.length c') = y7 at *
    refine wpAnyH_ready (rs := [7]) (by kernel_rfl) (by simp) ?_
    refine AllReadyH.cons (o := { dst := some 11, op := Op.buildSlice 49 1 #[(0, Operand.tmp 10)], type := 49, pos := "control.go:104", after := #[{ on := 6, ground := Ground.data }, { on := 9, ground := Ground.gcOnly Departure.lateStores }], guard := none }) rfl (fun K hK => ?_) ?_
    ·
     go_simp
     have hn := hal y7 (.cells #[.int .u8 sa] 5)
     have hL := one_new y7 (.int .u8 sa) 5
     replace hB := thenB hB hn
     replace hR := resB hR hn
     replace hX := askB hX hn
     have hzG : w.heap.size + 1 + 1 ≤ y7.heap.size := hz
     replace hz := Nat.le_trans hz hn.size
     replace hO := hO.below hn
     clear hn
     refine hK.out _ _ (by exact ⟨hX.2.2.1, hX.2.2.2.1, hX.2.2.2.2.1, hX.2.2.2.2.2.1, hX.2.2.2.2.2.2.1, hX.2.2.2.2.2.2.2.1⟩) (fun hHeld => ?_)
     clear hK K
     try simp only [Act.put, setIfInBounds_toArray, set_cons_zero, set_cons_succ]
     generalize y7.alloc (.cells #[.int .u8 sa] 5) = y8 at *
     generalize y7.heap.size = G at *
     refine wpAnyH_ready (rs := [8]) (by kernel_rfl) (by simp) ?_
     refine AllReadyH.cons (o := { dst := some 12, op := Op.convert 49 9 (Operand.tmp 11), type := 9, pos := "control.go:104", after := #[{ on := 7, ground := Ground.data }, { on := 9, ground := Ground.gcOnly Departure.lateStores }], guard := none }) rfl (fun K hK => ?_) ?_
     ·
      have hcv := one_text hL.2 h0 h1
      go_simp
      refine hK.out _ _ (by exact ⟨hX.2.2.1, hX.2.2.2.1, hX.2.2.2.2.1, hX.2.2.2.2.2.1, hX.2.2.2.2.2.2.1, hX.2.2.2.2.2.2.2.1⟩) (fun hHeld => ?_)
      clear hcv hK K
      try simp only [Act.put, setIfInBounds_toArray, set_cons_zero, set_cons_succ]
      refine wpAnyH_take (i := 10) (oi := { dst := some 3, op := Op.assign (Operand.tmp 12), type := 9, pos := "control.go:104", after := #[{ on := 8, ground := Ground.data }, { on := 9, ground := Ground.chain }, { on := 0, ground := Ground.phase }, { on := 1, ground := Ground.phase }, { on := 2, ground := Ground.phase }, { on := 3, ground := Ground.phase }, { on := 4, ground := Ground.phase }, { on := 5, ground := Ground.phase }, { on := 6, ground := Ground.phase }, { on := 7, ground := Ground.phase }, { on := 8, ground := Ground.phase }, { on := 9, ground := Ground.phase }], guard := none }) (v := ?_) rfl (by kernel_rfl) (by kernel_rfl) (by kernel_rfl) (fun _ _ _ h => h) (Or.inl ⟨by rfl, ?_⟩) (by assumption) ?_
      rotate_left
      · (intro w hSw; (try dsimp only at hSw); go_simp; all_goals with_reducible rfl)
      try simp only [Act.put, setIfInBounds_toArray, set_cons_zero, set_cons_succ]
      refine wpAnyH_done (by kernel_rfl) ?_ _
      refine NoPanic.normal ?_
      go_wp2_with fail
      exact bodyPost_ret (v := .tuple #[.agg #[.int .i64 sa, .int .i64 su, .int .i64 nx, .int .i64 gt, .int .i64 sl, .slice a' l.length c'], .string (byteS sa)]) (by simp [results, Tryz.results60, go_sem, hR]) rfl ⟨_, rfl, hO.mono (by omega), hB⟩
     exact AllReadyH.nil
    exact AllReadyH.nil
   exact AllReadyH.nil
  refine AllReadyH.cons (o := { dst := some 11, op := Op.buildSlice 49 1 #[(0, Operand.tmp 10)], type := 49, pos := "control.go:104", after := #[{ on := 6, ground := Ground.data }, { on := 9, ground := Ground.gcOnly Departure.lateStores }], guard := none }) rfl (fun K hK => ?_) ?_
  ·
   go_simp
   have hn := hal W (.cells #[.int .u8 sa] 5)
   have hL := one_new W (.int .u8 sa) 5
   replace hB := thenB hB hn
   replace hR := resB hR hn
   replace hX := askB hX hn
   have hzG : w.heap.size + 1 + 1 ≤ W.heap.size := hz
   replace hz := Nat.le_trans hz hn.size
   clear hn
   refine hK.out _ _ (by exact ⟨hX.2.2.1, hX.2.2.2.1, hX.2.2.2.2.1, hX.2.2.2.2.2.1, hX.2.2.2.2.2.2.1, hX.2.2.2.2.2.2.2.1⟩) (fun hHeld => ?_)
   clear hK K
   try simp only [Act.put, setIfInBounds_toArray, set_cons_zero, set_cons_succ]
   generalize W.alloc (.cells #[.int .u8 sa] 5) = y10 at *
   generalize W.heap.size = G at *
   refine wpAnyH_ready (rs := [2, 8]) (by kernel_rfl) (by simp) ?_
   refine AllReadyH.cons (o := { dst := some 6, op := Op.call { callee := Callee.value (Operand.func 92), args := #[Operand.tmp 5], argTypes := #[24] }, type := 24, pos := "control.go:104", after := #[{ on := 1, ground := Ground.data }], guard := none }) rfl (fun K hK => ?_) ?_
   ·
    go_simp
    go_at_call 92
    refine (HT.out _ (by first | exact hB | exact StsGet.bD hB)).mono ?_
    rintro e y11 ⟨u, rfl, hown, hb⟩
    obtain ⟨a', c', rfl⟩ := owns_form hown
    replace hb : Below y10.heap.size y10 y11 := ⟨hb.os, hb.tape, hb.output, hb.size, hb.block⟩
    have hO : OwnSt y11 (w.heap.size + 1 + 1) (.slice a' l.length c') l := (own_of hown).mono hz
    replace hL := one_below hL hb
    replace hB := thenB hB hb
    replace hR := resB hR hb
    replace hX := askB hX hb
    replace hz := Nat.le_trans hz hb.size
    clear hb hown
    refine hK.out _ _ (by exact ⟨hX.2.2.1, hX.2.2.2.1, hX.2.2.2.2.1, hX.2.2.2.2.2.1, hX.2.2.2.2.2.2.1, hX.2.2.2.2.2.2.2.1⟩) (fun hHeld => ?_)
    clear hK K
    try simp only [Act.put, setIfInBounds_toArray, set_cons_zero, set_cons_succ]
    refine wpAnyH_ready (rs := [8, 9]) (by kernel_rfl) (by simp) ?_
    refine AllReadyH.cons (o := { dst := some 12, op := Op.convert 49 9 (Operand.tmp 11), type := 9, pos := "control.go:104", after := #[{ on := 7, ground := Ground.data }, { on := 9, ground := Ground.gcOnly Departure.lateStores }], guard := none }) rfl (fun K hK => ?_) ?_
    ·
     have hcv := one_text hL.2 h0 h1
     go_simp
     refine hK.out _ _ (by exact ⟨hX.2.2.1, hX.2.2.2.1, hX.2.2.2.2.1, hX.2.2.2.2.2.1, hX.2.2.2.2.2.2.1, hX.2.2.2.2.2.2.2.1⟩) (fun hHeld => ?_)
     clear hcv hK K
     try simp only [Act.put, setIfInBounds_toArray, set_cons_zero, set_cons_succ]
     refine wpAnyH_ready (rs := [9]) (by kernel_rfl) (by simp) ?_
     refine AllReadyH.cons (o := { dst := none, op := Op.store 24 (Operand.tmp 2) (Operand.tmp 6), type := 0, pos := "control.go:104", after := #[{ on := 2, ground := Ground.data }, { on := 2, ground := Ground.chain }, { on := 0, ground := Ground.phase }, { on := 1, ground := Ground.phase }, { on := 2, ground := Ground.phase }, { on := 3, ground := Ground.textOnly Departure.lateStores }, { on := 4, ground := Ground.textOnly Departure.lateStores }, { on := 5, ground := Ground.textOnly Departure.lateStores }, { on := 6, ground := Ground.textOnly Departure.lateStores }, { on := 7, ground := Ground.textOnly Departure.lateStores }, { on := 8, ground := Ground.textOnly Departure.lateStores }], guard := none }) rfl (fun K hK => ?_) ?_
     ·
      go_simp
      have hz2 : y11.heap.size = ((((((y11.setCell ⟨w.heap.size + 1, 0, none⟩ (.int .i64 sa)).setCell ⟨w.heap.size + 1, 1, none⟩ (.int .i64 su)).setCell ⟨w.heap.size + 1, 2, none⟩ (.int .i64 nx)).setCell ⟨w.heap.size + 1, 3, none⟩ (.int .i64 gt)).setCell ⟨w.heap.size + 1, 4, none⟩ (.int .i64 sl)).setCell ⟨w.heap.size + 1, 5, none⟩ (.slice a' l.length c')).heap.size := by simp only [size_set]
      replace hL := one_other6 hL (show w.heap.size + 1 ≠ G by omega) (.int .i64 sa) (.int .i64 su) (.int .i64 nx) (.int .i64 gt) (.int .i64 sl) (.slice a' l.length c')
      replace hR := res6 hR (.int .i64 sa) (.int .i64 su) (.int .i64 nx) (.int .i64 gt) (.int .i64 sl) (.slice a' l.length c')
      replace hX := askO6 hX (show w.heap.size + 1 ≠ w.heap.size by omega) (.int .i64 sa) (.int .i64 su) (.int .i64 nx) (.int .i64 gt) (.int .i64 sl) (.slice a' l.length c')
      replace hO := hO.set6 (show w.heap.size + 1 < w.heap.size + 1 + 1 by omega) (.int .i64 sa) (.int .i64 su) (.int .i64 nx) (.int .i64 gt) (.int .i64 sl) (.slice a' l.length c')
      replace hB := set6 (x0 := .int .i64 sa) (x1 := .int .i64 su) (x2 := .int .i64 nx) (x3 := .int .i64 gt) (x4 := .int .i64 sl) (x5 := .slice a' l.length c') hB (Nat.le_succ w.heap.size)
      replace hz := Nat.le_trans hz (Nat.le_of_eq hz2)
      clear hz2
      refine hK.out _ _ (by exact ⟨hX.2.2.1, hX.2.2.2.1, hX.2.2.2.2.1, hX.2.2.2.2.2.1, hX.2.2.2.2.2.2.1, hX.2.2.2.2.2.2.2.1⟩) (fun hHeld => ?_)
      clear hK K
      try simp only [Act.put, setIfInBounds_toArray, set_cons_zero, set_cons_succ]
      generalize (((((y11.setCell ⟨w.heap.size + 1, 0, none⟩ (.int .i64 sa)).setCell ⟨w.heap.size + 1, 1, none⟩ (.int .i64 su)).setCell ⟨w.heap.size + 1, 2, none⟩ (.int .i64 nx)).setCell ⟨w.heap.size + 1, 3, none⟩ (.int .i64 gt)).setCell ⟨w.heap.size + 1, 4, none⟩ (.int .i64 sl)).setCell ⟨w.heap.size + 1, 5, none⟩ (.slice a' l.length c') = y13 at *
      refine wpAnyH_take (i := 10) (oi := { dst := some 3, op := Op.assign (Operand.tmp 12), type := 9, pos := "control.go:104", after := #[{ on := 8, ground := Ground.data }, { on := 9, ground := Ground.chain }, { on := 0, ground := Ground.phase }, { on := 1, ground := Ground.phase }, { on := 2, ground := Ground.phase }, { on := 3, ground := Ground.phase }, { on := 4, ground := Ground.phase }, { on := 5, ground := Ground.phase }, { on := 6, ground := Ground.phase }, { on := 7, ground := Ground.phase }, { on := 8, ground := Ground.phase }, { on := 9, ground := Ground.phase }], guard := none }) (v := ?_) rfl (by kernel_rfl) (by kernel_rfl) (by kernel_rfl) (fun _ _ _ h => h) (Or.inl ⟨by rfl, ?_⟩) (by assumption) ?_
      rotate_left
      · (intro w hSw; (try dsimp only at hSw); go_simp; all_goals with_reducible rfl)
      try simp only [Act.put, setIfInBounds_toArray, set_cons_zero, set_cons_succ]
      refine wpAnyH_done (by kernel_rfl) ?_ _
      refine NoPanic.normal ?_
      go_wp2_with fail
      exact bodyPost_ret (v := .tuple #[.agg #[.int .i64 sa, .int .i64 su, .int .i64 nx, .int .i64 gt, .int .i64 sl, .slice a' l.length c'], .string (byteS sa)]) (by simp [results, Tryz.results60, go_sem, hR]) rfl ⟨_, rfl, hO.mono (by omega), hB⟩
     exact AllReadyH.nil
    refine AllReadyH.cons (o := { dst := none, op := Op.store 24 (Operand.tmp 2) (Operand.tmp 6), type := 0, pos := "control.go:104", after := #[{ on := 2, ground := Ground.data }, { on := 2, ground := Ground.chain }, { on := 0, ground := Ground.phase }, { on := 1, ground := Ground.phase }, { on := 2, ground := Ground.phase }, { on := 3, ground := Ground.textOnly Departure.lateStores }, { on := 4, ground := Ground.textOnly Departure.lateStores }, { on := 5, ground := Ground.textOnly Departure.lateStores }, { on := 6, ground := Ground.textOnly Departure.lateStores }, { on := 7, ground := Ground.textOnly Departure.lateStores }, { on := 8, ground := Ground.textOnly Departure.lateStores }], guard := none }) rfl (fun K hK => ?_) ?_
    ·
     go_simp
     have hz2 : y11.heap.size = ((((((y11.setCell ⟨w.heap.size + 1, 0, none⟩ (.int .i64 sa)).setCell ⟨w.heap.size + 1, 1, none⟩ (.int .i64 su)).setCell ⟨w.heap.size + 1, 2, none⟩ (.int .i64 nx)).setCell ⟨w.heap.size + 1, 3, none⟩ (.int .i64 gt)).setCell ⟨w.heap.size + 1, 4, none⟩ (.int .i64 sl)).setCell ⟨w.heap.size + 1, 5, none⟩ (.slice a' l.length c')).heap.size := by simp only [size_set]
     replace hL := one_other6 hL (show w.heap.size + 1 ≠ G by omega) (.int .i64 sa) (.int .i64 su) (.int .i64 nx) (.int .i64 gt) (.int .i64 sl) (.slice a' l.length c')
     replace hR := res6 hR (.int .i64 sa) (.int .i64 su) (.int .i64 nx) (.int .i64 gt) (.int .i64 sl) (.slice a' l.length c')
     replace hX := askO6 hX (show w.heap.size + 1 ≠ w.heap.size by omega) (.int .i64 sa) (.int .i64 su) (.int .i64 nx) (.int .i64 gt) (.int .i64 sl) (.slice a' l.length c')
     replace hO := hO.set6 (show w.heap.size + 1 < w.heap.size + 1 + 1 by omega) (.int .i64 sa) (.int .i64 su) (.int .i64 nx) (.int .i64 gt) (.int .i64 sl) (.slice a' l.length c')
     replace hB := set6 (x0 := .int .i64 sa) (x1 := .int .i64 su) (x2 := .int .i64 nx) (x3 := .int .i64 gt) (x4 := .int .i64 sl) (x5 := .slice a' l.length c') hB (Nat.le_succ w.heap.size)
     replace hz := Nat.le_trans hz (Nat.le_of_eq hz2)
     clear hz2
     refine hK.out _ _ (by exact ⟨hX.2.2.1, hX.2.2.2.1, hX.2.2.2.2.1, hX.2.2.2.2.2.1, hX.2.2.2.2.2.2.1, hX.2.2.2.2.2.2.2.1⟩) (fun hHeld => ?_)
     clear hK K
     try simp only [Act.put, setIfInBounds_toArray, set_cons_zero, set_cons_succ]
     generalize (((((y11.setCell ⟨w.heap.size + 1, 0, none⟩ (.int .i64 sa)).setCell ⟨w.heap.size + 1, 1, none⟩ (.int .i64 su)).setCell ⟨w.heap.size + 1, 2, none⟩ (.int .i64 nx)).setCell ⟨w.heap.size + 1, 3, none⟩ (.int .i64 gt)).setCell ⟨w.heap.size + 1, 4, none⟩ (.int .i64 sl)).setCell ⟨w.heap.size + 1, 5, none⟩ (.slice a' l.length c') = y14 at *
     refine wpAnyH_ready (rs := [8]) (by kernel_rfl) (by simp) ?_
     refine AllReadyH.cons (o := { dst := some 12, op := Op.convert 49 9 (Operand.tmp 11), type := 9, pos := "control.go:104", after := #[{ on := 7, ground := Ground.data }, { on := 9, ground := Ground.gcOnly Departure.lateStores }], guard := none }) rfl (fun K hK => ?_) ?_
     ·
      have hcv := one_text hL.2 h0 h1
      go_simp
      refine hK.out _ _ (by exact ⟨hX.2.2.1, hX.2.2.2.1, hX.2.2.2.2.1, hX.2.2.2.2.2.1, hX.2.2.2.2.2.2.1, hX.2.2.2.2.2.2.2.1⟩) (fun hHeld => ?_)
      clear hcv hK K
      try simp only [Act.put, setIfInBounds_toArray, set_cons_zero, set_cons_succ]
      refine wpAnyH_take (i := 10) (oi := { dst := some 3, op := Op.assign (Operand.tmp 12), type := 9, pos := "control.go:104", after := #[{ on := 8, ground := Ground.data }, { on := 9, ground := Ground.chain }, { on := 0, ground := Ground.phase }, { on := 1, ground := Ground.phase }, { on := 2, ground := Ground.phase }, { on := 3, ground := Ground.phase }, { on := 4, ground := Ground.phase }, { on := 5, ground := Ground.phase }, { on := 6, ground := Ground.phase }, { on := 7, ground := Ground.phase }, { on := 8, ground := Ground.phase }, { on := 9, ground := Ground.phase }], guard := none }) (v := ?_) rfl (by kernel_rfl) (by kernel_rfl) (by kernel_rfl) (fun _ _ _ h => h) (Or.inl ⟨by rfl, ?_⟩) (by assumption) ?_
      rotate_left
      · (intro w hSw; (try dsimp only at hSw); go_simp; all_goals with_reducible rfl)
      try simp only [Act.put, setIfInBounds_toArray, set_cons_zero, set_cons_succ]
      refine wpAnyH_done (by kernel_rfl) ?_ _
      refine NoPanic.normal ?_
      go_wp2_with fail
      exact bodyPost_ret (v := .tuple #[.agg #[.int .i64 sa, .int .i64 su, .int .i64 nx, .int .i64 gt, .int .i64 sl, .slice a' l.length c'], .string (byteS sa)]) (by simp [results, Tryz.results60, go_sem, hR]) rfl ⟨_, rfl, hO.mono (by omega), hB⟩
     exact AllReadyH.nil
    exact AllReadyH.nil
   refine AllReadyH.cons (o := { dst := some 12, op := Op.convert 49 9 (Operand.tmp 11), type := 9, pos := "control.go:104", after := #[{ on := 7, ground := Ground.data }, { on := 9, ground := Ground.gcOnly Departure.lateStores }], guard := none }) rfl (fun K hK => ?_) ?_
   ·
    have hcv := one_text (w := y10.drew) hL.2 h0 h1
    go_simp
    refine hK.out _ _ (by exact ⟨hX.2.2.1, hX.2.2.2.1, hX.2.2.2.2.1, hX.2.2.2.2.2.1, hX.2.2.2.2.2.2.1, hX.2.2.2.2.2.2.2.1⟩) (fun hHeld => ?_)
    clear hcv hK K
    try simp only [Act.put, setIfInBounds_toArray, set_cons_zero, set_cons_succ]
    refine wpAnyH_ready (rs := [2]) (by kernel_rfl) (by simp) ?_
    refine AllReadyH.cons (o := { dst := some 6, op := Op.call { callee := Callee.value (Operand.func 92), args := #[Operand.tmp 5], argTypes := #[24] }, type := 24, pos := "control.go:104", after := #[{ on := 1, ground := Ground.data }], guard := none }) rfl (fun K hK => ?_) ?_
    ·
     go_simp
     go_at_call 92
     refine (HT.out _ (by first | exact hB | exact StsGet.bD hB)).mono ?_
     rintro e y17 ⟨u, rfl, hown, hb⟩
     obtain ⟨a', c', rfl⟩ := owns_form hown
     replace hb : Below y10.heap.size y10 y17 := ⟨hb.os, hb.tape, hb.output, hb.size, hb.block⟩
     have hO : OwnSt y17 (w.heap.size + 1 + 1) (.slice a' l.length c') l := (own_of hown).mono hz
     replace hL := one_below hL hb
     replace hB := thenB hB hb
     replace hR := resB hR hb
     replace hX := askB hX hb
     replace hz := Nat.le_trans hz hb.size
     clear hb hown
     refine hK.out _ _ (by exact ⟨hX.2.2.1, hX.2.2.2.1, hX.2.2.2.2.1, hX.2.2.2.2.2.1, hX.2.2.2.2.2.2.1, hX.2.2.2.2.2.2.2.1⟩) (fun hHeld => ?_)
     clear hK K
     try simp only [Act.put, setIfInBounds_toArray, set_cons_zero, set_cons_succ]
     refine wpAnyH_ready (rs := [9]) (by kernel_rfl) (by simp) ?_
     refine AllReadyH.cons (o := { dst := none, op := Op.store 24 (Operand.tmp 2) (Operand.tmp 6), type := 0, pos := "control.go:104", after := #[{ on := 2, ground := Ground.data }, { on := 2, ground := Ground.chain }, { on := 0, ground := Ground.phase }, { on := 1, ground := Ground.phase }, { on := 2, ground := Ground.phase }, { on := 3, ground := Ground.textOnly Departure.lateStores }, { on := 4, ground := Ground.textOnly Departure.lateStores }, { on := 5, ground := Ground.textOnly Departure.lateStores }, { on := 6, ground := Ground.textOnly Departure.lateStores }, { on := 7, ground := Ground.textOnly Departure.lateStores }, { on := 8, ground := Ground.textOnly Departure.lateStores }], guard := none }) rfl (fun K hK => ?_) ?_
     ·
      go_simp
      have hz2 : y17.heap.size = ((((((y17.setCell ⟨w.heap.size + 1, 0, none⟩ (.int .i64 sa)).setCell ⟨w.heap.size + 1, 1, none⟩ (.int .i64 su)).setCell ⟨w.heap.size + 1, 2, none⟩ (.int .i64 nx)).setCell ⟨w.heap.size + 1, 3, none⟩ (.int .i64 gt)).setCell ⟨w.heap.size + 1, 4, none⟩ (.int .i64 sl)).setCell ⟨w.heap.size + 1, 5, none⟩ (.slice a' l.length c')).heap.size := by simp only [size_set]
      replace hL := one_other6 hL (show w.heap.size + 1 ≠ G by omega) (.int .i64 sa) (.int .i64 su) (.int .i64 nx) (.int .i64 gt) (.int .i64 sl) (.slice a' l.length c')
      replace hR := res6 hR (.int .i64 sa) (.int .i64 su) (.int .i64 nx) (.int .i64 gt) (.int .i64 sl) (.slice a' l.length c')
      replace hX := askO6 hX (show w.heap.size + 1 ≠ w.heap.size by omega) (.int .i64 sa) (.int .i64 su) (.int .i64 nx) (.int .i64 gt) (.int .i64 sl) (.slice a' l.length c')
      replace hO := hO.set6 (show w.heap.size + 1 < w.heap.size + 1 + 1 by omega) (.int .i64 sa) (.int .i64 su) (.int .i64 nx) (.int .i64 gt) (.int .i64 sl) (.slice a' l.length c')
      replace hB := set6 (x0 := .int .i64 sa) (x1 := .int .i64 su) (x2 := .int .i64 nx) (x3 := .int .i64 gt) (x4 := .int .i64 sl) (x5 := .slice a' l.length c') hB (Nat.le_succ w.heap.size)
      replace hz := Nat.le_trans hz (Nat.le_of_eq hz2)
      clear hz2
      refine hK.out _ _ (by exact ⟨hX.2.2.1, hX.2.2.2.1, hX.2.2.2.2.1, hX.2.2.2.2.2.1, hX.2.2.2.2.2.2.1, hX.2.2.2.2.2.2.2.1⟩) (fun hHeld => ?_)
      clear hK K
      try simp only [Act.put, setIfInBounds_toArray, set_cons_zero, set_cons_succ]
      generalize (((((y17.setCell ⟨w.heap.size + 1, 0, none⟩ (.int .i64 sa)).setCell ⟨w.heap.size + 1, 1, none⟩ (.int .i64 su)).setCell ⟨w.heap.size + 1, 2, none⟩ (.int .i64 nx)).setCell ⟨w.heap.size + 1, 3, none⟩ (.int .i64 gt)).setCell ⟨w.heap.size + 1, 4, none⟩ (.int .i64 sl)).setCell ⟨w.heap.size + 1, 5, none⟩ (.slice a' l.length c') = y18 at *
      refine wpAnyH_take (i := 10) (oi := { dst := some 3, op := Op.assign (Operand.tmp 12), type := 9, pos := "control.go:104", after := #[{ on := 8, ground := Ground.data }, { on := 9, ground := Ground.chain }, { on := 0, ground := Ground.phase }, { on := 1, ground := Ground.phase }, { on := 2, ground := Ground.phase }, { on := 3, ground := Ground.phase }, { on := 4, ground := Ground.phase }, { on := 5, ground := Ground.phase }, { on := 6, ground := Ground.phase }, { on := 7, ground := Ground.phase }, { on := 8, ground := Ground.phase }, { on := 9, ground := Ground.phase }], guard := none }) (v := ?_) rfl (by kernel_rfl) (by kernel_rfl) (by kernel_rfl) (fun _ _ _ h => h) (Or.inl ⟨by rfl, ?_⟩) (by assumption) ?_
      rotate_left
      · (intro w hSw; (try dsimp only at hSw); go_simp; all_goals with_reducible rfl)
      try simp only [Act.put, setIfInBounds_toArray, set_cons_zero, set_cons_succ]
      refine wpAnyH_done (by kernel_rfl) ?_ _
      refine NoPanic.normal ?_
      go_wp2_with fail
      exact bodyPost_ret (v := .tuple #[.agg #[.int .i64 sa, .int .i64 su, .int .i64 nx, .int .i64 gt, .int .i64 sl, .slice a' l.length c'], .string (byteS sa)]) (by simp [results, Tryz.results60, go_sem, hR]) rfl ⟨_, rfl, hO.mono (by omega), hB⟩
     exact AllReadyH.nil
    exact AllReadyH.nil
   exact AllReadyH.nil
  exact AllReadyH.nil
end Go.Proofs.YtmlfkbkpkgaefaaGreatDoor.CtlAsk

/- The contract of control.Handle: whatever it is asked, the device, the reply and the error that the plain functions give. -/
namespace Go.Proofs.YtmlfkbkpkgaefaaGreatDoor.CtlHand
open Go.Proofs.YtmlfkbkpkgaefaaGreatDoor Go.RowKit Go.Proofs.YtmlfkbkpkgaefaaGreatDoor.Bytes Go.Proofs.YtmlfkbkpkgaefaaGreatDoor.Ops Go.Proofs.YtmlfkbkpkgaefaaGreatDoor.OpsRow Go.Proofs.YtmlfkbkpkgaefaaGreatDoor.Jou Go.Proofs.YtmlfkbkpkgaefaaGreatDoor.Act Go.Proofs.YtmlfkbkpkgaefaaGreatDoor.Dev Go.Proofs.YtmlfkbkpkgaefaaGreatDoor.DevRow Go.Proofs.YtmlfkbkpkgaefaaGreatDoor.DevSet Go.Proofs.YtmlfkbkpkgaefaaGreatDoor.Dnl Go.Proofs.YtmlfkbkpkgaefaaGreatDoor.DnlCopy Go.Proofs.YtmlfkbkpkgaefaaGreatDoor.Tic Go.Proofs.YtmlfkbkpkgaefaaGreatDoor.TicRow Go.Proofs.YtmlfkbkpkgaefaaGreatDoor.Sts Go.Proofs.YtmlfkbkpkgaefaaGreatDoor.Upl Go.Proofs.YtmlfkbkpkgaefaaGreatDoor.Sup Go.Proofs.YtmlfkbkpkgaefaaGreatDoor.Tab Go.Proofs.YtmlfkbkpkgaefaaGreatDoor.TabLaid Go.Proofs.YtmlfkbkpkgaefaaGreatDoor.Ctl Go.Proofs.YtmlfkbkpkgaefaaGreatDoor.CtlWalk Go.Proofs.YtmlfkbkpkgaefaaGreatDoor.CtlAsk
open Go.Proofs.YtmlfkbkpkgaefaaGreatDoor.NorWalk (ret_bool)
open Go.Proofs.YtmlfkbkpkgaefaaGreatDoor.DevWalk (build_d0)
open Go.Proofs.YtmlfkbkpkgaefaaGreatDoor.UplWalk (hal)
open List (setIfInBounds_toArray set_cons_zero set_cons_succ)
attribute [local go_sem ↓] Go.wp_at_zero Go.wp_at_succ
/-- What a call to Handle gives: a device whose steps lie in memory made since and may be written, a reply, an error. -/
def Handed (w : World) (d : FDev) (b : Bool) (s : ByteArray) (e : Int) (r : Ending) (w' : World) : Prop := ∃ u, r = .returned (.tuple #[.agg #[.int .i64 d.sa, .int .i64 d.su, .int .i64 d.nx, .int .i64 d.gt, .int .i64 d.sl, u], .agg #[.bool false, .bool b, .string s], .int .i64 e]) ∧ OwnSt w' w.heap.size u d.ops ∧ Below w.heap.size w w'
set_option maxRecDepth 100000 in
set_option maxHeartbeats 2000000 in
theorem hand_none (f : ByteArray) (d : FDev) (v : Value) (s t : ByteArray) (w : World) (hv : IsSt w v d.ops) (h : bothB f d = false) : Calls Tryz.prog 8 #[.string f, .agg #[.int .i64 d.sa, .int .i64 d.su, .int .i64 d.nx, .int .i64 d.gt, .int .i64 d.sl, v], .string s, .string t] w (Handed w newD false ⟨#[]⟩ 2100) := by
  have HM := hide (fun w => NorWalk.may_any f w)
  have HD : Hid (∀ (w' : World), Below w.heap.size w w' → _) := fun w' hb => DevWalk.dmay_any d v w' (hv.below hb)
  obtain ⟨W, hW, hX, hR, hA, hB, hs⟩ := reply_boxes w (.int .i64 d.sa) (.int .i64 d.su) (.int .i64 d.nx) (.int .i64 d.gt) (.int .i64 d.sl) v (.int .i64 0) (.int .i64 0) (.int .i64 0) (.int .i64 0) (.int .i64 0) (.slice none 0 0)
  have b1 := build_d0
  have b2 := build_p0
  have hmm : NorWalk.mayB f = mayF f := rfl
  rw [hmm] at HM
  clear hmm
  unfold newD
  unfold Handed
  obtain ⟨a, ca, rfl, _, _⟩ := hv
  subst hW
  rcases StsGet.both_no h with h1 | ⟨h1, h2⟩
  · rw [h1] at HM
    clear h1 h
    go_enter Tryz.func8, Tryz.ntmps8
    go_wp2_with (go_at_call 21; refine (HM.out _).mono ?_; rintro e w' ⟨rfl, rfl⟩)
    exact bodyPost_ret (v := .tuple #[.agg #[.int .i64 0, .int .i64 0, .int .i64 0, .int .i64 0, .int .i64 0, .slice none 0 0], .agg #[.bool false, .bool false, .string ⟨#[]⟩], .int .i64 2100]) (by simp [results, Tryz.results8, go_sem, hR, hA]) rfl ⟨_, rfl, own_none _ _, hB⟩
  · rw [h1] at HM
    rw [h2] at HD
    clear h1 h2 h
    go_enter Tryz.func8, Tryz.ntmps8
    go_wp2_with (first | (go_at_call 21; refine (HM.out _).mono ?_; rintro e w' ⟨rfl, rfl⟩) | (go_at_call 22; refine (HD.out _ hB).mono ?_; rintro e w' ⟨rfl, hb⟩; replace hB := thenB hB hb; replace hX := resB hX hb; replace hR := resB hR hb; replace hA := AnsWalk.resB hA hb; clear hb))
    exact bodyPost_ret (v := .tuple #[.agg #[.int .i64 0, .int .i64 0, .int .i64 0, .int .i64 0, .int .i64 0, .slice none 0 0], .agg #[.bool false, .bool false, .string ⟨#[]⟩], .int .i64 2100]) (by simp [results, Tryz.results8, go_sem, hR, hA]) rfl ⟨_, rfl, own_none _ _, AnsWalk.set3 (set6 hB (Nat.le_succ _)) (by omega)⟩
theorem read_no {s t : ByteArray} (w : World) (h : gotB s = false ∨ (gotB s = true ∧ ¬ (t.size : Int) = carI (gc s) (gn s))) : Calls Tryz.prog 23 #[.string s, .string t] w fun r w' => r = .returned (.tuple #[.agg #[.int .i64 0, .int .i64 0, .int .i64 0], .bool false]) ∧ Below w.heap.size w w' := by
  rcases h with h | ⟨h, g⟩
  · exact read_none s t w h
  · exact read_more s t w h g
set_option maxRecDepth 100000 in
set_option maxHeartbeats 4000000 in
theorem hand_unread (f : ByteArray) (d : FDev) (v : Value) (s t : ByteArray) (w : World) (hv : IsSt w v d.ops) (h : bothB f d = true) (g : gotB s = false ∨ (gotB s = true ∧ ¬ (t.size : Int) = carI (gc s) (gn s))) : Calls Tryz.prog 8 #[.string f, .agg #[.int .i64 d.sa, .int .i64 d.su, .int .i64 d.nx, .int .i64 d.gt, .int .i64 d.sl, v], .string s, .string t] w (Handed w (failedD 6) true ⟨#[]⟩ 0) := by
  obtain ⟨h1, h2⟩ := both_parts.1 h
  have HM := hide (fun w => NorWalk.may_any f w)
  have HD : Hid (∀ (w' : World), Below w.heap.size w w' → _) := fun w' hb => DevWalk.dmay_any d v w' (hv.below hb)
  have HR := hide (fun w => read_no w g)
  have HF : Hid (∀ (w' : World), Below w.heap.size w w' → _) := fun w' hb => refused_any d v w' (hv.below hb) h2
  obtain ⟨W, hW, hX, hR, hA, hB, hs⟩ := reply_boxes w (.int .i64 d.sa) (.int .i64 d.su) (.int .i64 d.nx) (.int .i64 d.gt) (.int .i64 d.sl) v (.int .i64 0) (.int .i64 0) (.int .i64 0) (.int .i64 0) (.int .i64 0) (.slice none 0 0)
  have hmm : NorWalk.mayB f = mayF f := rfl
  rw [hmm, h1] at HM
  rw [h2] at HD
  clear hmm h h1 h2 g hs
  unfold failedD
  unfold Handed
  obtain ⟨a, ca, rfl, _, _⟩ := hv
  subst hW
  go_enter Tryz.func8, Tryz.ntmps8
  go_upto_region 3 with (first | (go_at_call 21; refine (HM.out _).mono ?_; rintro e w' ⟨rfl, rfl⟩) | (go_at_call 22; refine (HD.out _ hB).mono ?_; rintro e w' ⟨rfl, hb⟩; replace hB := thenB hB hb; replace hX := resB hX hb; replace hR := resB hR hb; replace hA := AnsWalk.resB hA hb; clear hb))
  clear HM HD
  go_wp2_with fail
  refine (HR.out _).mono ?_
  rintro e w2 ⟨rfl, hb⟩
  replace hB := thenB hB hb
  replace hX := resB hX hb
  replace hR := resB hR hb
  replace hA := AnsWalk.resB hA hb
  clear hb HR
  have hn := hal w2 (.cells #[.int .i64 0, .int .i64 0, .int .i64 0] 42)
  replace hB := thenB hB hn
  replace hX := resB hX hn
  replace hR := resB hR hn
  replace hA := AnsWalk.resB hA hn
  clear hn
  go_upto_region 5 with fail
  generalize w2.alloc _ = W2 at *
  generalize w2.heap.size = G2 at *
  go_wp2_with (go_at_call 25; refine (HF.out _ hB).mono ?_; rintro e w' ⟨rfl, hb⟩; replace hB := thenB hB hb; replace hX := resB hX hb; replace hR := resB hR hb; replace hA := AnsWalk.resB hA hb; clear hb)
  exact bodyPost_ret (v := .tuple #[.agg #[.int .i64 7, .int .i64 6, .int .i64 0, .int .i64 0, .int .i64 0, .slice none 0 0], .agg #[.bool false, .bool true, .string ⟨#[]⟩], .int .i64 0]) (by simp [results, Tryz.results8, go_sem, hR, hA]) rfl ⟨_, rfl, own_none _ _, AnsWalk.set3 (set6 hB (Nat.le_succ _)) (by omega)⟩
set_option maxRecDepth 100000 in
set_option maxHeartbeats 4000000 in
theorem hand_barred (f : ByteArray) (d : FDev) (v : Value) (s t : ByteArray) (w : World) (hv : IsSt w v d.ops) (hT : TabAt w) (h : bothB f d = true) (g1 : gotB s = true) (g2 : (t.size : Int) = carI (gc s) (gn s)) (g3 : tabB d.sa (gc s) = false) : Calls Tryz.prog 8 #[.string f, .agg #[.int .i64 d.sa, .int .i64 d.su, .int .i64 d.nx, .int .i64 d.gt, .int .i64 d.sl, v], .string s, .string t] w (Handed w (failedD 6) true ⟨#[]⟩ 0) := by
  obtain ⟨h1, h2⟩ := both_parts.1 h
  have HM := hide (fun w => NorWalk.may_any f w)
  have HD : Hid (∀ (w' : World), Below w.heap.size w w' → _) := fun w' hb => DevWalk.dmay_any d v w' (hv.below hb)
  have HR := hide (fun w => read_yes s t w g1 g2)
  have HC : Hid (∀ (w' : World), Below w.heap.size w w' → _) := fun w' hb => can_any d.sa (gc s) w' (hT.below hb)
  have HF : Hid (∀ (w' : World), Below w.heap.size w w' → _) := fun w' hb => refused_any d v w' (hv.below hb) h2
  obtain ⟨W, hW, hX, hR, hA, hB, hs⟩ := reply_boxes w (.int .i64 d.sa) (.int .i64 d.su) (.int .i64 d.nx) (.int .i64 d.gt) (.int .i64 d.sl) v (.int .i64 0) (.int .i64 0) (.int .i64 0) (.int .i64 0) (.int .i64 0) (.slice none 0 0)
  have hmm : NorWalk.mayB f = mayF f := rfl
  rw [hmm, h1] at HM
  rw [h2] at HD
  rw [g3] at HC
  clear hmm h h1 h2 g1 g2 g3 hs hT
  unfold failedD
  unfold Handed
  generalize gc s = c at *
  generalize gv s = b at *
  generalize gn s = n at *
  obtain ⟨a, ca, rfl, _, _⟩ := hv
  obtain ⟨sa, su, nx, gt, sl, l⟩ := d
  dsimp only at *
  subst hW
  go_enter Tryz.func8, Tryz.ntmps8
  go_upto_region 3 with (first | (go_at_call 21; refine (HM.out _).mono ?_; rintro e w' ⟨rfl, rfl⟩) | (go_at_call 22; refine (HD.out _ hB).mono ?_; rintro e w' ⟨rfl, hb⟩; replace hB := thenB hB hb; replace hX := resB hX hb; replace hR := resB hR hb; replace hA := AnsWalk.resB hA hb; clear hb))
  clear HM HD
  go_wp2_with fail
  refine (HR.out _).mono ?_
  rintro e w2 ⟨rfl, hb⟩
  replace hB := thenB hB hb
  replace hX := resB hX hb
  replace hR := resB hR hb
  replace hA := AnsWalk.resB hA hb
  clear hb HR
  have hS := SetWalk.resM w2 (.int .i64 c) (.int .i64 b) (.int .i64 n) 42
  have hn := hal w2 (.cells #[.int .i64 c, .int .i64 b, .int .i64 n] 42)
  replace hB := thenB hB hn
  replace hX := resB hX hn
  replace hR := resB hR hn
  replace hA := AnsWalk.resB hA hn
  clear hn
  go_upto_region 4 with fail
  generalize w2.alloc _ = W2 at *
  generalize w2.heap.size = G2 at *
  go_wp2_with (first | (go_at_call 24; refine (HC.out _ hB).mono ?_; rintro e w' ⟨rfl, hb⟩; replace hB := thenB hB hb; replace hX := resB hX hb; replace hR := resB hR hb; replace hA := AnsWalk.resB hA hb; clear hb) | (go_at_call 25; refine (HF.out _ hB).mono ?_; rintro e w' ⟨rfl, hb⟩; replace hB := thenB hB hb; replace hX := resB hX hb; replace hR := resB hR hb; replace hA := AnsWalk.resB hA hb; clear hb))
  exact bodyPost_ret (v := .tuple #[.agg #[.int .i64 7, .int .i64 6, .int .i64 0, .int .i64 0, .int .i64 0, .slice none 0 0], .agg #[.bool false, .bool true, .string ⟨#[]⟩], .int .i64 0]) (by simp [results, Tryz.results8, go_sem, hR, hA]) rfl ⟨_, rfl, own_none _ _, AnsWalk.set3 (set6 hB (Nat.le_succ _)) (by omega)⟩
/-- Behind a handler's call, where the result's box was made ahead of it. -/
theorem pre1 {w wr u2 : World} {B1 B2 B3 : Nat} {x0 x1 x2 x3 x4 x5 y0 y1 y2 y3 y4 y5 z0 z1 z2 v : Value} {l : List FOp} (hb : Below ((wr.alloc (.cells #[.int .i64 0, .int .i64 0, .int .i64 0, .int .i64 0, .int .i64 0, .slice none 0 0] 24)).drew).heap.size ((wr.alloc (.cells #[.int .i64 0, .int .i64 0, .int .i64 0, .int .i64 0, .int .i64 0, .slice none 0 0] 24)).drew) u2) (hX : Res wr B1 x0 x1 x2 x3 x4 x5) (hR : Res wr B2 y0 y1 y2 y3 y4 y5) (hA : B3 < wr.heap.size ∧ wr.cell? ⟨B3, 0, none⟩ = some z0 ∧ wr.cell? ⟨B3, 1, none⟩ = some z1 ∧ wr.cell? ⟨B3, 2, none⟩ = some z2 ∧ ∀ i, wr.frozen? ⟨B3, i, none⟩ = false) (hB : Below w.heap.size w wr) (hO : OwnSt u2 ((wr.alloc (.cells #[.int .i64 0, .int .i64 0, .int .i64 0, .int .i64 0, .int .i64 0, .slice none 0 0] 24)).drew).heap.size v l) : Res u2 wr.heap.size (.int .i64 0) (.int .i64 0) (.int .i64 0) (.int .i64 0) (.int .i64 0) (.slice none 0 0) ∧ Res u2 B1 x0 x1 x2 x3 x4 x5 ∧ Res u2 B2 y0 y1 y2 y3 y4 y5 ∧ (B3 < u2.heap.size ∧ u2.cell? ⟨B3, 0, none⟩ = some z0 ∧ u2.cell? ⟨B3, 1, none⟩ = some z1 ∧ u2.cell? ⟨B3, 2, none⟩ = some z2 ∧ ∀ i, u2.frozen? ⟨B3, i, none⟩ = false) ∧ Below w.heap.size w u2 ∧ OwnSt u2 (wr.heap.size + 1) v l := by
  have hb' : Below (wr.alloc (.cells #[.int .i64 0, .int .i64 0, .int .i64 0, .int .i64 0, .int .i64 0, .slice none 0 0] 24)).heap.size (wr.alloc (.cells #[.int .i64 0, .int .i64 0, .int .i64 0, .int .i64 0, .int .i64 0, .slice none 0 0] 24)) u2 := ⟨hb.os, hb.tape, hb.output, hb.size, hb.block⟩
  have hn := hal wr (.cells #[.int .i64 0, .int .i64 0, .int .i64 0, .int .i64 0, .int .i64 0, .slice none 0 0] 24)
  refine ⟨resB (resM wr (.int .i64 0) (.int .i64 0) (.int .i64 0) (.int .i64 0) (.int .i64 0) (.slice none 0 0) 24) hb', resB (resB hX hn) hb', resB (resB hR hn) hb', AnsWalk.resB (AnsWalk.resB hA hn) hb', thenB (thenB hB hn) hb', ?_⟩
  have e : ((wr.alloc (.cells #[.int .i64 0, .int .i64 0, .int .i64 0, .int .i64 0, .int .i64 0, .slice none 0 0] 24)).drew).heap.size = wr.heap.size + 1 := by show (wr.alloc (.cells #[.int .i64 0, .int .i64 0, .int .i64 0, .int .i64 0, .int .i64 0, .slice none 0 0] 24)).heap.size = _; simp
  rw [e] at hO
  exact hO
theorem pre2 {w wr u2 : World} {B1 B2 B3 : Nat} {x0 x1 x2 x3 x4 x5 y0 y1 y2 y3 y4 y5 z0 z1 z2 v : Value} {l : List FOp} (hb : Below wr.drew.heap.size wr.drew u2) (hX : Res wr B1 x0 x1 x2 x3 x4 x5) (hR : Res wr B2 y0 y1 y2 y3 y4 y5) (hA : B3 < wr.heap.size ∧ wr.cell? ⟨B3, 0, none⟩ = some z0 ∧ wr.cell? ⟨B3, 1, none⟩ = some z1 ∧ wr.cell? ⟨B3, 2, none⟩ = some z2 ∧ ∀ i, wr.frozen? ⟨B3, i, none⟩ = false) (hB : Below w.heap.size w wr) (hO : OwnSt u2 wr.drew.heap.size v l) : Res u2 B1 x0 x1 x2 x3 x4 x5 ∧ Res u2 B2 y0 y1 y2 y3 y4 y5 ∧ (B3 < u2.heap.size ∧ u2.cell? ⟨B3, 0, none⟩ = some z0 ∧ u2.cell? ⟨B3, 1, none⟩ = some z1 ∧ u2.cell? ⟨B3, 2, none⟩ = some z2 ∧ ∀ i, u2.frozen? ⟨B3, i, none⟩ = false) ∧ Below w.heap.size w u2 ∧ OwnSt u2 wr.heap.size v l ∧ wr.heap.size ≤ u2.heap.size := by
  have hb' : Below wr.heap.size wr u2 := ⟨hb.os, hb.tape, hb.output, hb.size, hb.block⟩
  exact ⟨resB hX hb', resB hR hb', AnsWalk.resB hA hb', thenB hB hb', hO, hb'.size⟩
/-- A store into a block made behind the row's. -/
theorem in_other {w : World} {base n : Nat} {v : Value} {l : List FOp} (h : OwnIn w base n v l) {B : Nat} (hB : n ≤ B) (i : Nat) (y : Value) : OwnIn (w.setCell ⟨B, i, none⟩ y) base n v l := by
  obtain ⟨a, cap, rfl, h0, h⟩ := h
  refine ⟨a, cap, rfl, h0, ?_⟩
  rcases h with h | ⟨b, o, rfl, h1, h2, h3, h7, h4, h5, h6⟩
  · exact .inl h
  · have hne : ∀ j, (w.setCell ⟨B, i, none⟩ y).cell? ⟨b, j, none⟩ = w.cell? ⟨b, j, none⟩ := fun j => World.cell?_setCell_other w _ _ _ (ne_blk (by omega))
    exact .inr ⟨b, o, rfl, h1, h2, h3, h7, by rw [size_set]; exact h4, ⟨fun i hi => by rw [hne]; exact h5.er i hi, fun i hi => by rw [hne]; exact h5.pl i hi, fun i hi => by rw [hne]; exact h5.tx i hi⟩, fun i => by rw [World.frozen?_setCell]; exact h6 i⟩
theorem in_other6 {w : World} {base n : Nat} {v : Value} {l : List FOp} (h : OwnIn w base n v l) {B : Nat} (hB : n ≤ B) (y0 y1 y2 y3 y4 y5 : Value) : OwnIn ((((((w.setCell ⟨B, 0, none⟩ y0).setCell ⟨B, 1, none⟩ y1).setCell ⟨B, 2, none⟩ y2).setCell ⟨B, 3, none⟩ y3).setCell ⟨B, 4, none⟩ y4).setCell ⟨B, 5, none⟩ y5) base n v l := in_other (in_other (in_other (in_other (in_other (in_other h hB 0 y0) hB 1 y1) hB 2 y2) hB 3 y3) hB 4 y4) hB 5 y5
set_option maxRecDepth 100000 in
set_option maxHeartbeats 8000000 in
theorem hand_run (F : Nat) (f : ByteArray) (d : FDev) (v : Value) (s t : ByteArray) (D : FDev) (S : ByteArray) (w : World) (hv : IsSt w v d.ops) (hT : TabAt w) (h : bothB f d = true) (g1 : gotB s = true) (g2 : (t.size : Int) = carI (gc s) (gn s)) (g3 : tabB d.sa (gc s) = true) (hN : ∀ args w, (callFunc F args).run Tryz.prog w = .ok (.enter F args) w) (hH : ∀ w, Calls Tryz.prog 26 #[.int .i64 (gc s)] w fun e w' => e = .returned (.func (.func F) #[] #[]) ∧ w' = w) (hF : ∀ w, IsSt w v d.ops → Calls Tryz.prog F #[.agg #[.string f, .int .i64 d.sa, .int .i64 d.su, .int .i64 d.nx, .int .i64 d.gt, .int .i64 d.sl, v, .int .i64 (gc s), .int .i64 (gv s), .int .i64 (gn s), .string t]] w (Made w D S)) : Calls Tryz.prog 8 #[.string f, .agg #[.int .i64 d.sa, .int .i64 d.su, .int .i64 d.nx, .int .i64 d.gt, .int .i64 d.sl, v], .string s, .string t] w (Handed w D (stallB d D) (textS (stallB d D) S) 0) := by
  obtain ⟨h1, h2⟩ := both_parts.1 h
  have HM := hide (fun w => NorWalk.may_any f w)
  have HD : Hid (∀ (w' : World), Below w.heap.size w w' → _) := fun w' hb => DevWalk.dmay_any d v w' (hv.below hb)
  have HR := hide (fun w => read_yes s t w g1 g2)
  have HC : Hid (∀ (w' : World), Below w.heap.size w w' → _) := fun w' hb => can_any d.sa (gc s) w' (hT.below hb)
  have HN := hide hN
  have HH := hide hH
  have HF : Hid (∀ (w' : World), Below w.heap.size w w' → _) := fun w' hb => hF w' (hv.below hb)
  have HP := hide (fun u w => replied_any d D v u S w)
  obtain ⟨W, hW, hX, hR, hA, hB, hs⟩ := reply_boxes w (.int .i64 d.sa) (.int .i64 d.su) (.int .i64 d.nx) (.int .i64 d.gt) (.int .i64 d.sl) v (.int .i64 0) (.int .i64 0) (.int .i64 0) (.int .i64 0) (.int .i64 0) (.slice none 0 0)
  have hmm : NorWalk.mayB f = mayF f := rfl
  rw [hmm, h1] at HM
  rw [h2] at HD
  rw [g3] at HC
  clear hmm h h1 h2 g1 g2 g3 hT hN hH hF
  unfold Handed
  unfold Made at HF
  generalize textS (stallB d D) S = Z at *
  generalize stallB d D = ST at *
  generalize gc s = c at *
  generalize gv s = b at *
  generalize gn s = n at *
  have b1 := build_ask f t d.sa d.su d.nx d.gt d.sl c b n v
  obtain ⟨a, ca, rfl, _, _⟩ := hv
  obtain ⟨sa, su, nx, gt, sl, l⟩ := d
  obtain ⟨xa, xu, xn, xg, xl, xo⟩ := D
  dsimp only at *
  subst hW
  have hs' := hs
  generalize hWW : ((w.alloc _).alloc _).alloc _ = W0 at hs'
  clear hs
  subst hWW
  go_enter Tryz.func8, Tryz.ntmps8
  go_upto_region 3 with (first | (go_at_call 21; refine (HM.out _).mono ?_; rintro e w' ⟨rfl, rfl⟩) | (go_at_call 22; refine (HD.out _ hB).mono ?_; rintro e w' ⟨rfl, hb⟩; replace hs' := Nat.le_trans (Nat.le_of_eq hs') hb.size; replace hB := thenB hB hb; replace hX := resB hX hb; replace hR := resB hR hb; replace hA := AnsWalk.resB hA hb; clear hb))
  clear HM HD
  go_wp2_with fail
  refine (HR.out _).mono ?_
  rintro e w2 ⟨rfl, hb⟩
  replace hs' := Nat.le_trans hs' hb.size
  replace hB := thenB hB hb
  replace hX := resB hX hb
  replace hR := resB hR hb
  replace hA := AnsWalk.resB hA hb
  clear hb HR
  have hS := SetWalk.resM w2 (.int .i64 c) (.int .i64 b) (.int .i64 n) 42
  have hn := hal w2 (.cells #[.int .i64 c, .int .i64 b, .int .i64 n] 42)
  replace hs' := Nat.le_trans hs' hn.size
  replace hB := thenB hB hn
  replace hX := resB hX hn
  replace hR := resB hR hn
  replace hA := AnsWalk.resB hA hn
  clear hn
  go_upto_region 4 with fail
  generalize w2.alloc _ = W2 at *
  generalize w2.heap.size = G2 at *
  go_upto_region 6 with (go_at_call 24; refine (HC.out _ hB).mono ?_; rintro e w3 ⟨rfl, hb⟩; replace hs' := Nat.le_trans hs' hb.size; replace hB := thenB hB hb; replace hX := resB hX hb; replace hR := resB hR hb; replace hA := AnsWalk.resB hA hb; replace hS := SetWalk.resB hS hb; clear hb)
  clear HC
  go_cut [13, 14] from 46 to 57 (fun s13 s14 wx => s14 = .string S ∧ ∃ G a' c', s13 = .pointer (some ⟨G, 0, none⟩) ∧ w.heap.size + 1 + 1 + 1 ≤ G ∧ Res wx G (.int .i64 xa) (.int .i64 xu) (.int .i64 xn) (.int .i64 xg) (.int .i64 xl) (.slice a' xo.length c') ∧ OwnSt wx (w.heap.size + 1 + 1 + 1) (.slice a' xo.length c') xo ∧ Res wx w.heap.size (.int .i64 sa) (.int .i64 su) (.int .i64 nx) (.int .i64 gt) (.int .i64 sl) (.slice a l.length ca) ∧ Res wx (w.heap.size + 1) (.int .i64 0) (.int .i64 0) (.int .i64 0) (.int .i64 0) (.int .i64 0) (.slice none 0 0) ∧ (w.heap.size + 1 + 1 < wx.heap.size ∧ wx.cell? ⟨w.heap.size + 1 + 1, 0, none⟩ = some (.bool false) ∧ wx.cell? ⟨w.heap.size + 1 + 1, 1, none⟩ = some (.bool false) ∧ wx.cell? ⟨w.heap.size + 1 + 1, 2, none⟩ = some (.string ⟨#[]⟩) ∧ ∀ i, wx.frozen? ⟨w.heap.size + 1 + 1, i, none⟩ = false) ∧ Below w.heap.size w wx)
  case first =>
    -- REGION6
    refine wp_region_noPanic ?_
    refine wp_region_held_drew (S := fun X => (X.cell? ⟨w.heap.size, 0, none⟩ = some (.int .i64 sa) ∧ X.cell? ⟨w.heap.size, 1, none⟩ = some (.int .i64 su) ∧ X.cell? ⟨w.heap.size, 2, none⟩ = some (.int .i64 nx) ∧ X.cell? ⟨w.heap.size, 3, none⟩ = some (.int .i64 gt) ∧ X.cell? ⟨w.heap.size, 4, none⟩ = some (.int .i64 sl) ∧ X.cell? ⟨w.heap.size, 5, none⟩ = some (.slice a l.length ca)) ∧ X.cell? ⟨G2, 0, none⟩ = some (.int .i64 c) ∧ X.cell? ⟨G2, 1, none⟩ = some (.int .i64 b) ∧ X.cell? ⟨G2, 2, none⟩ = some (.int .i64 n)) (by kernel_rfl) (by exact ⟨⟨hX.2.1, hX.2.2.1, hX.2.2.2.1, hX.2.2.2.2.1, hX.2.2.2.2.2.1, hX.2.2.2.2.2.2.1⟩, hS.2.1, hS.2.2.1, hS.2.2.2.1⟩) (fun hHeld => ?_)
    refine wpAnyH_take (i := 0) (oi := { dst := some 47, op := Op.fieldAddr 42 (Operand.tmp 11) 0, type := 0, pos := "control.go:34", after := #[], guard := none }) (v := ?_) rfl (by kernel_rfl) (by kernel_rfl) (by kernel_rfl) (fun _ _ _ h => h) (Or.inl ⟨by rfl, ?_⟩) (by assumption) ?_
    rotate_left
    · (intro w hSw; (try dsimp only at hSw); go_simp; all_goals with_reducible rfl)
    try simp only [Act.put, setIfInBounds_toArray, set_cons_zero, set_cons_succ]
    refine wpAnyH_take (i := 1) (oi := { dst := some 48, op := Op.load 3 (Operand.tmp 47), type := 3, pos := "control.go:34", after := #[{ on := 0, ground := Ground.data }], guard := none }) (v := ?_) rfl (by kernel_rfl) (by kernel_rfl) (by kernel_rfl) (fun _ _ _ h => h) (Or.inl ⟨by rfl, ?_⟩) (by assumption) ?_
    rotate_left
    · (intro w hSw; (try dsimp only at hSw); go_simp; all_goals with_reducible rfl)
    try simp only [Act.put, setIfInBounds_toArray, set_cons_zero, set_cons_succ]
    refine wpAnyH_take (i := 3) (oi := { dst := some 50, op := Op.move (Operand.tmp 0), type := 9, pos := "control.go:34", after := #[], guard := none }) (v := ?_) rfl (by kernel_rfl) (by kernel_rfl) (by kernel_rfl) (fun _ _ _ h => h) (Or.inl ⟨by rfl, ?_⟩) (by assumption) ?_
    rotate_left
    · (intro w hSw; (try dsimp only at hSw); go_simp; all_goals with_reducible rfl)
    try simp only [Act.put, setIfInBounds_toArray, set_cons_zero, set_cons_succ]
    refine wpAnyH_take (i := 4) (oi := { dst := some 51, op := Op.load 24 (Operand.tmp 5), type := 24, pos := "control.go:34", after := #[], guard := none }) (v := ?_) rfl (by kernel_rfl) (by kernel_rfl) (by kernel_rfl) (fun _ _ _ h => h) (Or.inl ⟨by rfl, ?_⟩) (by assumption) ?_
    rotate_left
    · (intro w hSw; (try dsimp only at hSw); go_simp; all_goals with_reducible rfl)
    try simp only [Act.put, setIfInBounds_toArray, set_cons_zero, set_cons_succ]
    refine wpAnyH_take (i := 5) (oi := { dst := some 52, op := Op.load 42 (Operand.tmp 11), type := 42, pos := "control.go:34", after := #[], guard := none }) (v := ?_) rfl (by kernel_rfl) (by kernel_rfl) (by kernel_rfl) (fun _ _ _ h => h) (Or.inl ⟨by rfl, ?_⟩) (by assumption) ?_
    rotate_left
    · (intro w hSw; (try dsimp only at hSw); go_simp; all_goals with_reducible rfl)
    try simp only [Act.put, setIfInBounds_toArray, set_cons_zero, set_cons_succ]
    refine wpAnyH_take (i := 6) (oi := { dst := some 53, op := Op.move (Operand.tmp 3), type := 9, pos := "control.go:34", after := #[], guard := none }) (v := ?_) rfl (by kernel_rfl) (by kernel_rfl) (by kernel_rfl) (fun _ _ _ h => h) (Or.inl ⟨by rfl, ?_⟩) (by assumption) ?_
    rotate_left
    · (intro w hSw; (try dsimp only at hSw); go_simp; all_goals with_reducible rfl)
    try simp only [Act.put, setIfInBounds_toArray, set_cons_zero, set_cons_succ]
    refine wpAnyH_take (i := 7) (oi := { dst := some 54, op := Op.build 68 #[(0, Operand.tmp 50), (1, Operand.tmp 51), (2, Operand.tmp 52), (3, Operand.tmp 53)], type := 68, pos := "control.go:34", after := #[{ on := 3, ground := Ground.data }, { on := 4, ground := Ground.data }, { on := 5, ground := Ground.data }, { on := 6, ground := Ground.data }], guard := none }) (v := ?_) rfl (by kernel_rfl) (by kernel_rfl) (by kernel_rfl) (fun _ _ _ h => h) (Or.inl ⟨by rfl, ?_⟩) (by assumption) ?_
    rotate_left
    · (intro w hSw; (try dsimp only at hSw); go_simp; all_goals with_reducible rfl)
    try simp only [Act.put, setIfInBounds_toArray, set_cons_zero, set_cons_succ]
    refine wpAnyH_ready (rs := [2, 12]) (by kernel_rfl) (by simp) ?_
    refine AllReadyH.cons (o := { dst := some 49, op := Op.call { callee := Callee.value (Operand.func 26), args := #[Operand.tmp 48], argTypes := #[3] }, type := 65, pos := "control.go:34", after := #[{ on := 1, ground := Ground.data }], guard := none }) rfl (fun K hK => ?_) ?_
    ·
     go_simp
     go_at_call 26
     refine (HH.out _).mono ?_
     rintro e y1 ⟨rfl, hy⟩
     have hbx : Below w3.heap.size w3 y1 := by rw [hy]; exact StsGet.bD (Below.refl _ _)
     replace hs' := Nat.le_trans hs' hbx.size
     replace hB := thenB hB hbx
     replace hX := resB hX hbx
     replace hR := resB hR hbx
     replace hA := AnsWalk.resB hA hbx
     replace hS := SetWalk.resB hS hbx
     clear hy hbx
     refine hK.out _ _ (by exact ⟨⟨hX.2.1, hX.2.2.1, hX.2.2.2.1, hX.2.2.2.2.1, hX.2.2.2.2.2.1, hX.2.2.2.2.2.2.1⟩, hS.2.1, hS.2.2.1, hS.2.2.2.1⟩) (fun hHeld => ?_)
     clear hK K
     try simp only [Act.put, setIfInBounds_toArray, set_cons_zero, set_cons_succ]
     refine wpAnyH_ready (rs := [8, 12]) (by kernel_rfl) (by simp) ?_
     refine AllReadyH.cons (o := { dst := some 55, op := Op.call { callee := Callee.value (Operand.tmp 49), args := #[Operand.tmp 54], argTypes := #[68] }, type := 64, pos := "control.go:34", after := #[{ on := 2, ground := Ground.data }, { on := 7, ground := Ground.data }, { on := 2, ground := Ground.chain }], guard := none }) rfl (fun K hK => ?_) ?_
     ·
      go_simp
      rw [HN.out, Oper.upon_enter]
      refine (HF.out _ hB).mono ?_
      rintro e y2 ⟨u, rfl, hO, hb⟩
      obtain ⟨a', c', rfl⟩ := hO.form
      replace hO := hO.mono hs'
      replace hs' := Nat.le_trans hs' hb.size
      replace hB := thenB hB hb
      replace hX := resB hX hb
      replace hR := resB hR hb
      replace hA := AnsWalk.resB hA hb
      replace hS := SetWalk.resB hS hb
      clear hb
      refine hK.out _ _ (by exact ⟨⟨hX.2.1, hX.2.2.1, hX.2.2.2.1, hX.2.2.2.2.1, hX.2.2.2.2.2.1, hX.2.2.2.2.2.2.1⟩, hS.2.1, hS.2.2.1, hS.2.2.2.1⟩) (fun hHeld => ?_)
      clear hK K
      try simp only [Act.put, setIfInBounds_toArray, set_cons_zero, set_cons_succ]
      refine wpAnyH_take (i := 9) (oi := { dst := some 46, op := Op.move (Operand.tmp 55), type := 64, pos := "control.go:34", after := #[{ on := 8, ground := Ground.data }], guard := none }) (v := ?_) rfl (by kernel_rfl) (by kernel_rfl) (by kernel_rfl) (fun _ _ _ h => h) (Or.inl ⟨by rfl, ?_⟩) (by assumption) ?_
      rotate_left
      · (intro w hSw; (try dsimp only at hSw); go_simp; all_goals with_reducible rfl)
      try simp only [Act.put, setIfInBounds_toArray, set_cons_zero, set_cons_succ]
      refine wpAnyH_take (i := 10) (oi := { dst := some 56, op := Op.extract (Operand.tmp 46) 0, type := 24, pos := "control.go:34", after := #[{ on := 9, ground := Ground.data }], guard := none }) (v := ?_) rfl (by kernel_rfl) (by kernel_rfl) (by kernel_rfl) (fun _ _ _ h => h) (Or.inl ⟨by rfl, ?_⟩) (by assumption) ?_
      rotate_left
      · (intro w hSw; (try dsimp only at hSw); go_simp; all_goals with_reducible rfl)
      try simp only [Act.put, setIfInBounds_toArray, set_cons_zero, set_cons_succ]
      refine wpAnyH_take (i := 11) (oi := { dst := some 57, op := Op.extract (Operand.tmp 46) 1, type := 9, pos := "control.go:34", after := #[{ on := 9, ground := Ground.data }, { on := 13, ground := Ground.gcOnly Departure.lateStores }], guard := none }) (v := ?_) rfl (by kernel_rfl) (by kernel_rfl) (by kernel_rfl) (fun _ _ _ h => h) (Or.inl ⟨by rfl, ?_⟩) (by assumption) ?_
      rotate_left
      · (intro w hSw; (try dsimp only at hSw); go_simp; all_goals with_reducible rfl)
      try simp only [Act.put, setIfInBounds_toArray, set_cons_zero, set_cons_succ]
      refine wpAnyH_ready (rs := [12]) (by kernel_rfl) (by simp) ?_
      refine AllReadyH.cons (o := { dst := some 13, op := Op.alloc 24, type := 0, pos := "control.go:34", after := #[], guard := none }) rfl (fun K hK => ?_) ?_
      ·
       have hG2 : G2 < y2.heap.size := hS.1
       go_simp
       have hn := hal y2 (.cells #[.int .i64 0, .int .i64 0, .int .i64 0, .int .i64 0, .int .i64 0, .slice none 0 0] 24)
       have hG := resM y2 (.int .i64 0) (.int .i64 0) (.int .i64 0) (.int .i64 0) (.int .i64 0) (.slice none 0 0) 24
       have hzG : w.heap.size + 1 + 1 + 1 ≤ y2.heap.size := hs'
       replace hs' := Nat.le_trans hs' hn.size
       replace hB := thenB hB hn
       replace hX := resB hX hn
       replace hR := resB hR hn
       replace hA := AnsWalk.resB hA hn
       replace hS := SetWalk.resB hS hn
       have hI := hO.lt.below hn
       clear hn
       refine hK.out _ _ (by exact ⟨⟨hX.2.1, hX.2.2.1, hX.2.2.2.1, hX.2.2.2.2.1, hX.2.2.2.2.2.1, hX.2.2.2.2.2.2.1⟩, hS.2.1, hS.2.2.1, hS.2.2.2.1⟩) (fun hHeld => ?_)
       clear hK K
       try simp only [Act.put, setIfInBounds_toArray, set_cons_zero, set_cons_succ]
       generalize y2.alloc (.cells #[.int .i64 0, .int .i64 0, .int .i64 0, .int .i64 0, .int .i64 0, .slice none 0 0] 24) = y3 at *
       generalize y2.heap.size = G at *
       refine wpAnyH_ready (rs := [13]) (by kernel_rfl) (by simp) ?_
       refine AllReadyH.cons (o := { dst := none, op := Op.store 24 (Operand.tmp 13) (Operand.tmp 56), type := 0, pos := "control.go:34", after := #[{ on := 12, ground := Ground.data }, { on := 10, ground := Ground.data }, { on := 8, ground := Ground.chain }, { on := 0, ground := Ground.phase }, { on := 1, ground := Ground.phase }, { on := 2, ground := Ground.phase }, { on := 3, ground := Ground.phase }, { on := 4, ground := Ground.phase }, { on := 5, ground := Ground.phase }, { on := 6, ground := Ground.phase }, { on := 7, ground := Ground.phase }, { on := 8, ground := Ground.phase }, { on := 9, ground := Ground.phase }, { on := 10, ground := Ground.phase }, { on := 11, ground := Ground.textOnly Departure.lateStores }, { on := 12, ground := Ground.phase }], guard := none }) rfl (fun K hK => ?_) ?_
       ·
        go_simp
        replace hO := (in_other6 hI (Nat.le_refl G) (.int .i64 xa) (.int .i64 xu) (.int .i64 xn) (.int .i64 xg) (.int .i64 xl) (.slice a' xo.length c')).st
        replace hG := res6 hG (.int .i64 xa) (.int .i64 xu) (.int .i64 xn) (.int .i64 xg) (.int .i64 xl) (.slice a' xo.length c')
        replace hX := resO6 hX (show G ≠ w.heap.size by omega) (.int .i64 xa) (.int .i64 xu) (.int .i64 xn) (.int .i64 xg) (.int .i64 xl) (.slice a' xo.length c')
        replace hR := resO6 hR (show G ≠ w.heap.size + 1 by omega) (.int .i64 xa) (.int .i64 xu) (.int .i64 xn) (.int .i64 xg) (.int .i64 xl) (.slice a' xo.length c')
        replace hA := StsGet.ansO6 hA (show G ≠ w.heap.size + 1 + 1 by omega) (.int .i64 xa) (.int .i64 xu) (.int .i64 xn) (.int .i64 xg) (.int .i64 xl) (.slice a' xo.length c')
        replace hS := StsGet.ansO6 hS (show G ≠ G2 by omega) (.int .i64 xa) (.int .i64 xu) (.int .i64 xn) (.int .i64 xg) (.int .i64 xl) (.slice a' xo.length c')
        replace hB := set6 (x0 := .int .i64 xa) (x1 := .int .i64 xu) (x2 := .int .i64 xn) (x3 := .int .i64 xg) (x4 := .int .i64 xl) (x5 := .slice a' xo.length c') hB (show w.heap.size ≤ G by omega)
        refine hK.out _ _ (by exact ⟨⟨hX.2.1, hX.2.2.1, hX.2.2.2.1, hX.2.2.2.2.1, hX.2.2.2.2.2.1, hX.2.2.2.2.2.2.1⟩, hS.2.1, hS.2.2.1, hS.2.2.2.1⟩) (fun hHeld => ?_)
        clear hK K
        try simp only [Act.put, setIfInBounds_toArray, set_cons_zero, set_cons_succ]
        generalize (((((y3.setCell ⟨G, 0, none⟩ (.int .i64 xa)).setCell ⟨G, 1, none⟩ (.int .i64 xu)).setCell ⟨G, 2, none⟩ (.int .i64 xn)).setCell ⟨G, 3, none⟩ (.int .i64 xg)).setCell ⟨G, 4, none⟩ (.int .i64 xl)).setCell ⟨G, 5, none⟩ (.slice a' xo.length c') = y4 at *
        refine wpAnyH_take (i := 14) (oi := { dst := some 14, op := Op.assign (Operand.tmp 57), type := 9, pos := "control.go:34", after := #[{ on := 11, ground := Ground.data }, { on := 13, ground := Ground.chain }, { on := 0, ground := Ground.phase }, { on := 1, ground := Ground.phase }, { on := 2, ground := Ground.phase }, { on := 3, ground := Ground.phase }, { on := 4, ground := Ground.phase }, { on := 5, ground := Ground.phase }, { on := 6, ground := Ground.phase }, { on := 7, ground := Ground.phase }, { on := 8, ground := Ground.phase }, { on := 9, ground := Ground.phase }, { on := 10, ground := Ground.phase }, { on := 11, ground := Ground.phase }, { on := 12, ground := Ground.phase }, { on := 13, ground := Ground.phase }], guard := none }) (v := ?_) rfl (by kernel_rfl) (by kernel_rfl) (by kernel_rfl) (fun _ _ _ h => h) (Or.inl ⟨by rfl, ?_⟩) (by assumption) ?_
        rotate_left
        · (intro w hSw; (try dsimp only at hSw); go_simp; all_goals with_reducible rfl)
        try simp only [Act.put, setIfInBounds_toArray, set_cons_zero, set_cons_succ]
        refine wpAnyH_done (by kernel_rfl) ?_ _
        refine NoPanic.normal ?_
        go_wp2_with fail
        go_meet
        exact ⟨rfl, G, a', c', rfl, hzG, hG, hO.mono (by omega), hX, hR, hA, hB⟩
       exact AllReadyH.nil
      exact AllReadyH.nil
     refine AllReadyH.cons (o := { dst := some 13, op := Op.alloc 24, type := 0, pos := "control.go:34", after := #[], guard := none }) rfl (fun K hK => ?_) ?_
     ·
      have hG2 : G2 < y1.heap.size := hS.1
      go_simp
      have hn := hal y1 (.cells #[.int .i64 0, .int .i64 0, .int .i64 0, .int .i64 0, .int .i64 0, .slice none 0 0] 24)
      have hG := resM y1 (.int .i64 0) (.int .i64 0) (.int .i64 0) (.int .i64 0) (.int .i64 0) (.slice none 0 0) 24
      have hzG : w.heap.size + 1 + 1 + 1 ≤ y1.heap.size := hs'
      replace hs' := Nat.le_trans hs' hn.size
      replace hB := thenB hB hn
      replace hX := resB hX hn
      replace hR := resB hR hn
      replace hA := AnsWalk.resB hA hn
      replace hS := SetWalk.resB hS hn
      clear hn
      refine hK.out _ _ (by exact ⟨⟨hX.2.1, hX.2.2.1, hX.2.2.2.1, hX.2.2.2.2.1, hX.2.2.2.2.2.1, hX.2.2.2.2.2.2.1⟩, hS.2.1, hS.2.2.1, hS.2.2.2.1⟩) (fun hHeld => ?_)
      clear hK K
      try simp only [Act.put, setIfInBounds_toArray, set_cons_zero, set_cons_succ]
      generalize y1.alloc (.cells #[.int .i64 0, .int .i64 0, .int .i64 0, .int .i64 0, .int .i64 0, .slice none 0 0] 24) = y5 at *
      generalize y1.heap.size = G at *
      refine wpAnyH_ready (rs := [8]) (by kernel_rfl) (by simp) ?_
      refine AllReadyH.cons (o := { dst := some 55, op := Op.call { callee := Callee.value (Operand.tmp 49), args := #[Operand.tmp 54], argTypes := #[68] }, type := 64, pos := "control.go:34", after := #[{ on := 2, ground := Ground.data }, { on := 7, ground := Ground.data }, { on := 2, ground := Ground.chain }], guard := none }) rfl (fun K hK => ?_) ?_
      ·
       go_simp
       rw [HN.out, Oper.upon_enter]
       refine (HF.out _ hB).mono ?_
       rintro e y6 ⟨u, rfl, hO, hb⟩
       obtain ⟨a', c', rfl⟩ := hO.form
       have hGx : G < y5.heap.size := hG.1
       have hOz : w.heap.size + 1 + 1 + 1 ≤ y5.heap.size := hs'
       replace hG := resB hG hb
       replace hs' := Nat.le_trans hs' hb.size
       replace hB := thenB hB hb
       replace hX := resB hX hb
       replace hR := resB hR hb
       replace hA := AnsWalk.resB hA hb
       replace hS := SetWalk.resB hS hb
       clear hb
       refine hK.out _ _ (by exact ⟨⟨hX.2.1, hX.2.2.1, hX.2.2.2.1, hX.2.2.2.2.1, hX.2.2.2.2.2.1, hX.2.2.2.2.2.2.1⟩, hS.2.1, hS.2.2.1, hS.2.2.2.1⟩) (fun hHeld => ?_)
       clear hK K
       try simp only [Act.put, setIfInBounds_toArray, set_cons_zero, set_cons_succ]
       refine wpAnyH_take (i := 9) (oi := { dst := some 46, op := Op.move (Operand.tmp 55), type := 64, pos := "control.go:34", after := #[{ on := 8, ground := Ground.data }], guard := none }) (v := ?_) rfl (by kernel_rfl) (by kernel_rfl) (by kernel_rfl) (fun _ _ _ h => h) (Or.inl ⟨by rfl, ?_⟩) (by assumption) ?_
       rotate_left
       · (intro w hSw; (try dsimp only at hSw); go_simp; all_goals with_reducible rfl)
       try simp only [Act.put, setIfInBounds_toArray, set_cons_zero, set_cons_succ]
       refine wpAnyH_take (i := 10) (oi := { dst := some 56, op := Op.extract (Operand.tmp 46) 0, type := 24, pos := "control.go:34", after := #[{ on := 9, ground := Ground.data }], guard := none }) (v := ?_) rfl (by kernel_rfl) (by kernel_rfl) (by kernel_rfl) (fun _ _ _ h => h) (Or.inl ⟨by rfl, ?_⟩) (by assumption) ?_
       rotate_left
       · (intro w hSw; (try dsimp only at hSw); go_simp; all_goals with_reducible rfl)
       try simp only [Act.put, setIfInBounds_toArray, set_cons_zero, set_cons_succ]
       refine wpAnyH_take (i := 11) (oi := { dst := some 57, op := Op.extract (Operand.tmp 46) 1, type := 9, pos := "control.go:34", after := #[{ on := 9, ground := Ground.data }, { on := 13, ground := Ground.gcOnly Departure.lateStores }], guard := none }) (v := ?_) rfl (by kernel_rfl) (by kernel_rfl) (by kernel_rfl) (fun _ _ _ h => h) (Or.inl ⟨by rfl, ?_⟩) (by assumption) ?_
       rotate_left
       · (intro w hSw; (try dsimp only at hSw); go_simp; all_goals with_reducible rfl)
       try simp only [Act.put, setIfInBounds_toArray, set_cons_zero, set_cons_succ]
       refine wpAnyH_ready (rs := [13]) (by kernel_rfl) (by simp) ?_
       refine AllReadyH.cons (o := { dst := none, op := Op.store 24 (Operand.tmp 13) (Operand.tmp 56), type := 0, pos := "control.go:34", after := #[{ on := 12, ground := Ground.data }, { on := 10, ground := Ground.data }, { on := 8, ground := Ground.chain }, { on := 0, ground := Ground.phase }, { on := 1, ground := Ground.phase }, { on := 2, ground := Ground.phase }, { on := 3, ground := Ground.phase }, { on := 4, ground := Ground.phase }, { on := 5, ground := Ground.phase }, { on := 6, ground := Ground.phase }, { on := 7, ground := Ground.phase }, { on := 8, ground := Ground.phase }, { on := 9, ground := Ground.phase }, { on := 10, ground := Ground.phase }, { on := 11, ground := Ground.textOnly Departure.lateStores }, { on := 12, ground := Ground.phase }], guard := none }) rfl (fun K hK => ?_) ?_
       ·
        go_simp
        replace hO := (hO.set6 hGx (.int .i64 xa) (.int .i64 xu) (.int .i64 xn) (.int .i64 xg) (.int .i64 xl) (.slice a' xo.length c')).mono hOz
        replace hG := res6 hG (.int .i64 xa) (.int .i64 xu) (.int .i64 xn) (.int .i64 xg) (.int .i64 xl) (.slice a' xo.length c')
        replace hX := resO6 hX (show G ≠ w.heap.size by omega) (.int .i64 xa) (.int .i64 xu) (.int .i64 xn) (.int .i64 xg) (.int .i64 xl) (.slice a' xo.length c')
        replace hR := resO6 hR (show G ≠ w.heap.size + 1 by omega) (.int .i64 xa) (.int .i64 xu) (.int .i64 xn) (.int .i64 xg) (.int .i64 xl) (.slice a' xo.length c')
        replace hA := StsGet.ansO6 hA (show G ≠ w.heap.size + 1 + 1 by omega) (.int .i64 xa) (.int .i64 xu) (.int .i64 xn) (.int .i64 xg) (.int .i64 xl) (.slice a' xo.length c')
        replace hS := StsGet.ansO6 hS (show G ≠ G2 by omega) (.int .i64 xa) (.int .i64 xu) (.int .i64 xn) (.int .i64 xg) (.int .i64 xl) (.slice a' xo.length c')
        replace hB := set6 (x0 := .int .i64 xa) (x1 := .int .i64 xu) (x2 := .int .i64 xn) (x3 := .int .i64 xg) (x4 := .int .i64 xl) (x5 := .slice a' xo.length c') hB (show w.heap.size ≤ G by omega)
        refine hK.out _ _ (by exact ⟨⟨hX.2.1, hX.2.2.1, hX.2.2.2.1, hX.2.2.2.2.1, hX.2.2.2.2.2.1, hX.2.2.2.2.2.2.1⟩, hS.2.1, hS.2.2.1, hS.2.2.2.1⟩) (fun hHeld => ?_)
        clear hK K
        try simp only [Act.put, setIfInBounds_toArray, set_cons_zero, set_cons_succ]
        generalize (((((y6.setCell ⟨G, 0, none⟩ (.int .i64 xa)).setCell ⟨G, 1, none⟩ (.int .i64 xu)).setCell ⟨G, 2, none⟩ (.int .i64 xn)).setCell ⟨G, 3, none⟩ (.int .i64 xg)).setCell ⟨G, 4, none⟩ (.int .i64 xl)).setCell ⟨G, 5, none⟩ (.slice a' xo.length c') = y7 at *
        refine wpAnyH_take (i := 14) (oi := { dst := some 14, op := Op.assign (Operand.tmp 57), type := 9, pos := "control.go:34", after := #[{ on := 11, ground := Ground.data }, { on := 13, ground := Ground.chain }, { on := 0, ground := Ground.phase }, { on := 1, ground := Ground.phase }, { on := 2, ground := Ground.phase }, { on := 3, ground := Ground.phase }, { on := 4, ground := Ground.phase }, { on := 5, ground := Ground.phase }, { on := 6, ground := Ground.phase }, { on := 7, ground := Ground.phase }, { on := 8, ground := Ground.phase }, { on := 9, ground := Ground.phase }, { on := 10, ground := Ground.phase }, { on := 11, ground := Ground.phase }, { on := 12, ground := Ground.phase }, { on := 13, ground := Ground.phase }], guard := none }) (v := ?_) rfl (by kernel_rfl) (by kernel_rfl) (by kernel_rfl) (fun _ _ _ h => h) (Or.inl ⟨by rfl, ?_⟩) (by assumption) ?_
        rotate_left
        · (intro w hSw; (try dsimp only at hSw); go_simp; all_goals with_reducible rfl)
        try simp only [Act.put, setIfInBounds_toArray, set_cons_zero, set_cons_succ]
        refine wpAnyH_done (by kernel_rfl) ?_ _
        refine NoPanic.normal ?_
        go_wp2_with fail
        go_meet
        exact ⟨rfl, G, a', c', rfl, hzG, hG, hO.mono (by omega), hX, hR, hA, hB⟩
       exact AllReadyH.nil
      exact AllReadyH.nil
     exact AllReadyH.nil
    refine AllReadyH.cons (o := { dst := some 13, op := Op.alloc 24, type := 0, pos := "control.go:34", after := #[], guard := none }) rfl (fun K hK => ?_) ?_
    ·
     have hG2 : G2 < w3.heap.size := hS.1
     go_simp
     have hn := hal w3 (.cells #[.int .i64 0, .int .i64 0, .int .i64 0, .int .i64 0, .int .i64 0, .slice none 0 0] 24)
     have hG := resM w3 (.int .i64 0) (.int .i64 0) (.int .i64 0) (.int .i64 0) (.int .i64 0) (.slice none 0 0) 24
     have hzG : w.heap.size + 1 + 1 + 1 ≤ w3.heap.size := hs'
     replace hs' := Nat.le_trans hs' hn.size
     replace hB := thenB hB hn
     replace hX := resB hX hn
     replace hR := resB hR hn
     replace hA := AnsWalk.resB hA hn
     replace hS := SetWalk.resB hS hn
     clear hn
     refine hK.out _ _ (by exact ⟨⟨hX.2.1, hX.2.2.1, hX.2.2.2.1, hX.2.2.2.2.1, hX.2.2.2.2.2.1, hX.2.2.2.2.2.2.1⟩, hS.2.1, hS.2.2.1, hS.2.2.2.1⟩) (fun hHeld => ?_)
     clear hK K
     try simp only [Act.put, setIfInBounds_toArray, set_cons_zero, set_cons_succ]
     generalize w3.alloc (.cells #[.int .i64 0, .int .i64 0, .int .i64 0, .int .i64 0, .int .i64 0, .slice none 0 0] 24) = y8 at *
     generalize w3.heap.size = G at *
     refine wpAnyH_ready (rs := [2]) (by kernel_rfl) (by simp) ?_
     refine AllReadyH.cons (o := { dst := some 49, op := Op.call { callee := Callee.value (Operand.func 26), args := #[Operand.tmp 48], argTypes := #[3] }, type := 65, pos := "control.go:34", after := #[{ on := 1, ground := Ground.data }], guard := none }) rfl (fun K hK => ?_) ?_
     ·
      go_simp
      go_at_call 26
      refine (HH.out _).mono ?_
      rintro e y9 ⟨rfl, hy⟩
      have hbx : Below y8.heap.size y8 y9 := by rw [hy]; exact StsGet.bD (Below.refl _ _)
      replace hs' := Nat.le_trans hs' hbx.size
      replace hB := thenB hB hbx
      replace hX := resB hX hbx
      replace hR := resB hR hbx
      replace hA := AnsWalk.resB hA hbx
      replace hS := SetWalk.resB hS hbx
      replace hG := resB hG hbx
      clear hy hbx
      refine hK.out _ _ (by exact ⟨⟨hX.2.1, hX.2.2.1, hX.2.2.2.1, hX.2.2.2.2.1, hX.2.2.2.2.2.1, hX.2.2.2.2.2.2.1⟩, hS.2.1, hS.2.2.1, hS.2.2.2.1⟩) (fun hHeld => ?_)
      clear hK K
      try simp only [Act.put, setIfInBounds_toArray, set_cons_zero, set_cons_succ]
      refine wpAnyH_ready (rs := [8]) (by kernel_rfl) (by simp) ?_
      refine AllReadyH.cons (o := { dst := some 55, op := Op.call { callee := Callee.value (Operand.tmp 49), args := #[Operand.tmp 54], argTypes := #[68] }, type := 64, pos := "control.go:34", after := #[{ on := 2, ground := Ground.data }, { on := 7, ground := Ground.data }, { on := 2, ground := Ground.chain }], guard := none }) rfl (fun K hK => ?_) ?_
      ·
       go_simp
       rw [HN.out, Oper.upon_enter]
       refine (HF.out _ hB).mono ?_
       rintro e y10 ⟨u, rfl, hO, hb⟩
       obtain ⟨a', c', rfl⟩ := hO.form
       have hGx : G < y9.heap.size := hG.1
       have hOz : w.heap.size + 1 + 1 + 1 ≤ y9.heap.size := hs'
       replace hG := resB hG hb
       replace hs' := Nat.le_trans hs' hb.size
       replace hB := thenB hB hb
       replace hX := resB hX hb
       replace hR := resB hR hb
       replace hA := AnsWalk.resB hA hb
       replace hS := SetWalk.resB hS hb
       clear hb
       refine hK.out _ _ (by exact ⟨⟨hX.2.1, hX.2.2.1, hX.2.2.2.1, hX.2.2.2.2.1, hX.2.2.2.2.2.1, hX.2.2.2.2.2.2.1⟩, hS.2.1, hS.2.2.1, hS.2.2.2.1⟩) (fun hHeld => ?_)
       clear hK K
       try simp only [Act.put, setIfInBounds_toArray, set_cons_zero, set_cons_succ]
       refine wpAnyH_take (i := 9) (oi := { dst := some 46, op := Op.move (Operand.tmp 55), type := 64, pos := "control.go:34", after := #[{ on := 8, ground := Ground.data }], guard := none }) (v := ?_) rfl (by kernel_rfl) (by kernel_rfl) (by kernel_rfl) (fun _ _ _ h => h) (Or.inl ⟨by rfl, ?_⟩) (by assumption) ?_
       rotate_left
       · (intro w hSw; (try dsimp only at hSw); go_simp; all_goals with_reducible rfl)
       try simp only [Act.put, setIfInBounds_toArray, set_cons_zero, set_cons_succ]
       refine wpAnyH_take (i := 10) (oi := { dst := some 56, op := Op.extract (Operand.tmp 46) 0, type := 24, pos := "control.go:34", after := #[{ on := 9, ground := Ground.data }], guard := none }) (v := ?_) rfl (by kernel_rfl) (by kernel_rfl) (by kernel_rfl) (fun _ _ _ h => h) (Or.inl ⟨by rfl, ?_⟩) (by assumption) ?_
       rotate_left
       · (intro w hSw; (try dsimp only at hSw); go_simp; all_goals with_reducible rfl)
       try simp only [Act.put, setIfInBounds_toArray, set_cons_zero, set_cons_succ]
       refine wpAnyH_take (i := 11) (oi := { dst := some 57, op := Op.extract (Operand.tmp 46) 1, type := 9, pos := "control.go:34", after := #[{ on := 9, ground := Ground.data }, { on := 13, ground := Ground.gcOnly Departure.lateStores }], guard := none }) (v := ?_) rfl (by kernel_rfl) (by kernel_rfl) (by kernel_rfl) (fun _ _ _ h => h) (Or.inl ⟨by rfl, ?_⟩) (by assumption) ?_
       rotate_left
       · (intro w hSw; (try dsimp only at hSw); go_simp; all_goals with_reducible rfl)
       try simp only [Act.put, setIfInBounds_toArray, set_cons_zero, set_cons_succ]
       refine wpAnyH_ready (rs := [13]) (by kernel_rfl) (by simp) ?_
       refine AllReadyH.cons (o := { dst := none, op := Op.store 24 (Operand.tmp 13) (Operand.tmp 56), type := 0, pos := "control.go:34", after := #[{ on := 12, ground := Ground.data }, { on := 10, ground := Ground.data }, { on := 8, ground := Ground.chain }, { on := 0, ground := Ground.phase }, { on := 1, ground := Ground.phase }, { on := 2, ground := Ground.phase }, { on := 3, ground := Ground.phase }, { on := 4, ground := Ground.phase }, { on := 5, ground := Ground.phase }, { on := 6, ground := Ground.phase }, { on := 7, ground := Ground.phase }, { on := 8, ground := Ground.phase }, { on := 9, ground := Ground.phase }, { on := 10, ground := Ground.phase }, { on := 11, ground := Ground.textOnly Departure.lateStores }, { on := 12, ground := Ground.phase }], guard := none }) rfl (fun K hK => ?_) ?_
       ·
        go_simp
        replace hO := (hO.set6 hGx (.int .i64 xa) (.int .i64 xu) (.int .i64 xn) (.int .i64 xg) (.int .i64 xl) (.slice a' xo.length c')).mono hOz
        replace hG := res6 hG (.int .i64 xa) (.int .i64 xu) (.int .i64 xn) (.int .i64 xg) (.int .i64 xl) (.slice a' xo.length c')
        replace hX := resO6 hX (show G ≠ w.heap.size by omega) (.int .i64 xa) (.int .i64 xu) (.int .i64 xn) (.int .i64 xg) (.int .i64 xl) (.slice a' xo.length c')
        replace hR := resO6 hR (show G ≠ w.heap.size + 1 by omega) (.int .i64 xa) (.int .i64 xu) (.int .i64 xn) (.int .i64 xg) (.int .i64 xl) (.slice a' xo.length c')
        replace hA := StsGet.ansO6 hA (show G ≠ w.heap.size + 1 + 1 by omega) (.int .i64 xa) (.int .i64 xu) (.int .i64 xn) (.int .i64 xg) (.int .i64 xl) (.slice a' xo.length c')
        replace hS := StsGet.ansO6 hS (show G ≠ G2 by omega) (.int .i64 xa) (.int .i64 xu) (.int .i64 xn) (.int .i64 xg) (.int .i64 xl) (.slice a' xo.length c')
        replace hB := set6 (x0 := .int .i64 xa) (x1 := .int .i64 xu) (x2 := .int .i64 xn) (x3 := .int .i64 xg) (x4 := .int .i64 xl) (x5 := .slice a' xo.length c') hB (show w.heap.size ≤ G by omega)
        refine hK.out _ _ (by exact ⟨⟨hX.2.1, hX.2.2.1, hX.2.2.2.1, hX.2.2.2.2.1, hX.2.2.2.2.2.1, hX.2.2.2.2.2.2.1⟩, hS.2.1, hS.2.2.1, hS.2.2.2.1⟩) (fun hHeld => ?_)
        clear hK K
        try simp only [Act.put, setIfInBounds_toArray, set_cons_zero, set_cons_succ]
        generalize (((((y10.setCell ⟨G, 0, none⟩ (.int .i64 xa)).setCell ⟨G, 1, none⟩ (.int .i64 xu)).setCell ⟨G, 2, none⟩ (.int .i64 xn)).setCell ⟨G, 3, none⟩ (.int .i64 xg)).setCell ⟨G, 4, none⟩ (.int .i64 xl)).setCell ⟨G, 5, none⟩ (.slice a' xo.length c') = y11 at *
        refine wpAnyH_take (i := 14) (oi := { dst := some 14, op := Op.assign (Operand.tmp 57), type := 9, pos := "control.go:34", after := #[{ on := 11, ground := Ground.data }, { on := 13, ground := Ground.chain }, { on := 0, ground := Ground.phase }, { on := 1, ground := Ground.phase }, { on := 2, ground := Ground.phase }, { on := 3, ground := Ground.phase }, { on := 4, ground := Ground.phase }, { on := 5, ground := Ground.phase }, { on := 6, ground := Ground.phase }, { on := 7, ground := Ground.phase }, { on := 8, ground := Ground.phase }, { on := 9, ground := Ground.phase }, { on := 10, ground := Ground.phase }, { on := 11, ground := Ground.phase }, { on := 12, ground := Ground.phase }, { on := 13, ground := Ground.phase }], guard := none }) (v := ?_) rfl (by kernel_rfl) (by kernel_rfl) (by kernel_rfl) (fun _ _ _ h => h) (Or.inl ⟨by rfl, ?_⟩) (by assumption) ?_
        rotate_left
        · (intro w hSw; (try dsimp only at hSw); go_simp; all_goals with_reducible rfl)
        try simp only [Act.put, setIfInBounds_toArray, set_cons_zero, set_cons_succ]
        refine wpAnyH_done (by kernel_rfl) ?_ _
        refine NoPanic.normal ?_
        go_wp2_with fail
        go_meet
        exact ⟨rfl, G, a', c', rfl, hzG, hG, hO.mono (by omega), hX, hR, hA, hB⟩
       exact AllReadyH.nil
      exact AllReadyH.nil
     exact AllReadyH.nil
    exact AllReadyH.nil
    -- END6
  case rest =>
    clear hX hB hR hA hS hs' HH HF HN
    obtain ⟨rfl, G, a', c', rfl, hG, hDD, hO, hX, hR, hA, hB⟩ := hcut
    go_upto_region 7 with fail
    go_region_with (go_at_call 27; refine (HP.out _ _).mono ?_; rintro e w5 ⟨rfl, hb⟩; replace hO := hO.below (w' := w5) ⟨hb.os, hb.tape, hb.output, hb.size, hb.block⟩; replace hB := thenD hb hB rfl rfl rfl rfl; replace hDD := resD hb hDD; replace hR := resD hb hR; replace hA := StsGet.ansD hb hA; clear hb)
    all_goals
      go_wp2_with fail
      exact bodyPost_ret (v := .tuple #[.agg #[.int .i64 xa, .int .i64 xu, .int .i64 xn, .int .i64 xg, .int .i64 xl, .slice a' xo.length c'], .agg #[.bool false, .bool ST, .string Z], .int .i64 0]) (by simp [results, Tryz.results8, go_sem, hR, hA]) rfl ⟨_, rfl, ((((hO.set6 (Nat.lt_succ_of_lt (Nat.lt_succ_self _)) _ _ _ _ _ _).set (Nat.lt_succ_self _) 0 _).set (Nat.lt_succ_self _) 1 _).set (Nat.lt_succ_self _) 2 _).mono (by omega), AnsWalk.set3 (set6 hB (Nat.le_succ _)) (by omega)⟩
theorem enter1 (args : Array Value) (w : World) : (callFunc 57 args).run Tryz.prog w = .ok (.enter 57 args) w := by kernel_rfl
theorem enter2 (args : Array Value) (w : World) : (callFunc 58 args).run Tryz.prog w = .ok (.enter 58 args) w := by kernel_rfl
theorem enter3 (args : Array Value) (w : World) : (callFunc 59 args).run Tryz.prog w = .ok (.enter 59 args) w := by kernel_rfl
theorem enter5 (args : Array Value) (w : World) : (callFunc 60 args).run Tryz.prog w = .ok (.enter 60 args) w := by kernel_rfl
theorem enter6 (args : Array Value) (w : World) : (callFunc 61 args).run Tryz.prog w = .ok (.enter 61 args) w := by kernel_rfl
theorem hand_go (f : ByteArray) (d : FDev) (v : Value) (s t : ByteArray) (w : World) (hv : IsSt w v d.ops) (hT : TabAt w) (h : bothB f d = true) (g : goB d s t = true) : Calls Tryz.prog 8 #[.string f, .agg #[.int .i64 d.sa, .int .i64 d.su, .int .i64 d.nx, .int .i64 d.gt, .int .i64 d.sl, v], .string s, .string t] w (Handed w (doD f d s t) (stallB d (doD f d s t)) (textS (stallB d (doD f d s t)) (doS f d s)) 0) := by
  obtain ⟨g1, g2, g3⟩ := go_parts.1 g
  have hd := (both_parts.1 h).2
  have hc : gc s = 1 ∨ gc s = 2 ∨ gc s = 3 ∨ gc s = 5 ∨ gc s = 4 ∨ gc s = 6 := by
    rcases tab_codes g3 with ⟨h, _⟩ | ⟨h, _⟩ | h | ⟨h, _⟩ | h | ⟨h, _⟩ <;> omega
  rcases hc with hc | hc | hc | hc | hc | hc
  · have e1 : doD f d s t = takeD f d (gv s) t := by unfold doD; rw [hc]; rfl
    have e2 : doS f d s = ⟨#[]⟩ := by unfold doS; rw [hc]; rfl
    rw [e1, e2]
    exact hand_run _ f d v s t _ _ w hv hT h g1 g2 g3 enter1 (fun w => handler_any (gc s) _ (.inl ⟨hc, rfl⟩) w) (fun w hw => taken_any f t d v (gc s) (gv s) (gn s) w hw)
  · have e1 : doD f d s t = giveD f d (gv s) (gn s) := by unfold doD; rw [hc]; rfl
    have e2 : doS f d s = giveS f d (gv s) (gn s) := by unfold doS; rw [hc]; rfl
    rw [e1, e2]
    exact hand_run _ f d v s t _ _ w hv hT h g1 g2 g3 enter2 (fun w => handler_any (gc s) _ (.inr (.inl ⟨hc, rfl⟩)) w) (fun w hw => given_any f t d v (gc s) (gv s) (gn s) w hw)
  · have e1 : doD f d s t = getD f d := by unfold doD; rw [hc]; rfl
    have e2 : doS f d s = Ans.ansS (getD f d).su (tkI (getD f d)) (getD f d).sa := by unfold doS; rw [hc]; rfl
    rw [e1, e2]
    exact hand_run _ f d v s t _ _ w hv hT h g1 g2 g3 enter3 (fun w => handler_any (gc s) _ (.inr (.inr (.inl ⟨hc, rfl⟩))) w) (fun w hw => told_any f t d v (gc s) (gv s) (gn s) w hw)
  · have e1 : doD f d s t = d := by unfold doD; rw [hc]; rfl
    have e2 : doS f d s = byteS d.sa := by unfold doS; rw [hc]; rfl
    rw [e1, e2]
    exact hand_run _ f d v s t _ _ w hv hT h g1 g2 g3 enter5 (fun w => handler_any (gc s) _ (.inr (.inr (.inr (.inl ⟨hc, rfl⟩)))) w) (fun w hw => named_any f t d v (gc s) (gv s) (gn s) w hw hd)
  · have e1 : doD f d s t = newD := by unfold doD; rw [hc]; rfl
    have e2 : doS f d s = ⟨#[]⟩ := by unfold doS; rw [hc]; rfl
    rw [e1, e2]
    exact hand_run _ f d v s t _ _ w hv hT h g1 g2 g3 enter6 (fun w => handler_any (gc s) _ (.inr (.inr (.inr (.inr (.inl ⟨hc, rfl⟩))))) w) (fun w hw => renewed_any f t d v (gc s) (gv s) (gn s) w hw)
  · have e1 : doD f d s t = newD := by unfold doD; rw [hc]; rfl
    have e2 : doS f d s = ⟨#[]⟩ := by unfold doS; rw [hc]; rfl
    rw [e1, e2]
    exact hand_run _ f d v s t _ _ w hv hT h g1 g2 g3 enter6 (fun w => handler_any (gc s) _ (.inr (.inr (.inr (.inr (.inr ⟨hc, rfl⟩))))) w) (fun w hw => renewed_any f t d v (gc s) (gv s) (gn s) w hw)
theorem hand_any (f : ByteArray) (d : FDev) (v : Value) (s t : ByteArray) (w : World) (hv : IsSt w v d.ops) (hT : TabAt w) : Calls Tryz.prog 8 #[.string f, .agg #[.int .i64 d.sa, .int .i64 d.su, .int .i64 d.nx, .int .i64 d.gt, .int .i64 d.sl, v], .string s, .string t] w (Handed w (handD f d s t) (handB f d s t) (handS f d s t) (errC (bothB f d))) := by
  cases h : bothB f d with
  | false =>
    obtain ⟨e1, e2, e3⟩ := hand_no s t h
    rw [e1, e2, e3]
    exact hand_none f d v s t w hv h
  | true =>
    cases g : goB d s t with
    | false =>
      obtain ⟨e1, e2, e3⟩ := hand_stall h g
      rw [e1, e2, e3]
      rcases go_no g with g1 | ⟨g1, g2⟩ | ⟨g1, g2, g3⟩
      · exact hand_unread f d v s t w hv h (.inl g1)
      · exact hand_unread f d v s t w hv h (.inr ⟨g1, g2⟩)
      · exact hand_barred f d v s t w hv hT h g1 g2 g3
    | true =>
      obtain ⟨e1, e2, e3⟩ := hand_ok h g
      rw [e1, e2, e3]
      exact hand_go f d v s t w hv hT h g
end Go.Proofs.YtmlfkbkpkgaefaaGreatDoor.CtlHand
