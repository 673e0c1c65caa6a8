/- The contracts of package upload, part for part: each call answers what the plain functions give, whatever its arguments; the device's steps lie in memory of their own. -/
import Derived.Test.YthcknngmpcepfaaUplMath
import Derived.Test.YthcknngmpcepfaaBagTim
import Derived.Test.YthcknngmpcepfaaBagDnl
import Derived.Test.YthcknngmpcepfaaBagCho
import Derived.Test.YthcknngmpcepfaaSetWalk
namespace Go.Proofs.Ythcknngmpcepfaa.UplWalk
open Go.Proofs.Ythcknngmpcepfaa Go.RowKit Go.Proofs.Ythcknngmpcepfaa.Bytes Go.Proofs.Ythcknngmpcepfaa.Ops Go.Proofs.Ythcknngmpcepfaa.OpsRow Go.Proofs.Ythcknngmpcepfaa.Jou Go.Proofs.Ythcknngmpcepfaa.JouRow Go.Proofs.Ythcknngmpcepfaa.Act Go.Proofs.Ythcknngmpcepfaa.Dev Go.Proofs.Ythcknngmpcepfaa.DevRow Go.Proofs.Ythcknngmpcepfaa.DevSet Go.Proofs.Ythcknngmpcepfaa.Dnl Go.Proofs.Ythcknngmpcepfaa.DnlCopy Go.Proofs.Ythcknngmpcepfaa.Tic Go.Proofs.Ythcknngmpcepfaa.TicRow Go.Proofs.Ythcknngmpcepfaa.Upl
open Go.Proofs.Ythcknngmpcepfaa.NorWalk (ret_bool)
open Go.Proofs.Ythcknngmpcepfaa.JouWalk (ret_str)
open Go.Proofs.Ythcknngmpcepfaa.DevWalk (build_d0)
open Go.Proofs.Ythcknngmpcepfaa.DnlWalk (fail_is ne_t eq_f)
attribute [local go_sem ↓] Go.wp_at_zero Go.wp_at_succ
theorem hal (w : World) (o : Obj) : Below w.heap.size w (w.alloc o) := (Below.refl _ _).alloc (Nat.le_refl _) _
theorem run_min2 {P : Program} (a b k : Int) (h : k = min a b) (ts : Array TypeId) (t : TypeId) (w : World) : (Builtin.min_ ts t #[.int .i64 a, .int .i64 b]).run P w = .ok (.int .i64 k) w := by
  simp [Builtin.min_, Builtin.min2]
  subst h
  repeat split
  all_goals omega
set_option maxRecDepth 100000 in
theorem reads_any (s : Int) (w : World) : Calls Try.prog 23 #[.int .i64 s] w fun e w' => e = .returned (.bool (readsB s)) ∧ w' = w := by
  go_enter Try.func23, Try.ntmps23
  go_wp2
  all_goals
    go_ret
    exact ⟨ret_bool (by unfold readsB; rw [Bool.eq_iff_iff]; simp; try omega), rfl⟩
set_option maxRecDepth 100000 in
theorem umay_any (b n : Int) (w : World) : Calls Try.prog 24 #[.int .i64 b, .int .i64 n] w fun e w' => e = .returned (.bool (askB b n)) ∧ Below w.heap.size w w' := by
  have b1 := SetWalk.build_set
  have hs : Sup.supB 2 b n = askB b n := by unfold askB upB; rw [Bool.eq_iff_iff, Sup.supB_parts]; simp; omega
  have C := hide (fun w => SetWalk.smay_any 2 b n w)
  rw [hs] at C
  clear hs
  generalize askB b n = R at *
  go_enter Try.func24, Try.ntmps24
  go_wp2_with fail
  refine (C.out _).mono ?_
  rintro e w' ⟨rfl, hb⟩
  go_wp2_with fail
  go_ret
  exact ⟨rfl, hb⟩
set_option maxRecDepth 100000 in
set_option maxHeartbeats 1000000 in
theorem active_no (f : ByteArray) (w : World) (h : ¬ errA f = 0) : Calls Try.prog 25 #[.string f] w fun e w' => e = .returned (.tuple #[.string ⟨#[]⟩, .bool false]) ∧ Below w.heap.size w w' := by
  have C := hide (fun w => ChoWalk.active_any f w)
  have h1 := ne_t h
  clear h
  generalize errA f = E at *
  generalize actV f = p at *
  go_enter Try.func25, Try.ntmps25
  go_wp2_with fail
  refine (C.out _).mono ?_
  rintro e w' ⟨rfl, hb⟩
  go_wp2_with fail
  go_ret2
  exact ⟨rfl, thenB hb (hal _ _)⟩
set_option maxRecDepth 100000 in
set_option maxHeartbeats 1000000 in
theorem active_yes (f : ByteArray) (w : World) (h : errA f = 0) : Calls Try.prog 25 #[.string f] w fun e w' => e = .returned (.tuple #[.string (actS f), .bool true]) ∧ Below w.heap.size w w' := by
  have C := hide (fun w => ChoWalk.active_any f w)
  have D := hide (fun w => ImgWalk.of_any f (actV f).pq (actV f).pt (actV f).pz (actV f).pm w)
  have hi := act_img h
  rw [hi, show errI true = 0 from rfl] at D
  rw [h] at C
  have hS : imgS f (actV f).pq (actV f).pt (actV f).pz (actV f).pm = actS f := rfl
  rw [hS] at D
  clear h hi hS
  generalize actS f = S at *
  generalize actV f = p at *
  obtain ⟨pa, pq, pt, pz, pm⟩ := p
  dsimp only at *
  go_enter Try.func25, Try.ntmps25
  go_wp2_with fail
  refine (C.out _).mono ?_
  rintro e w1 ⟨rfl, hb⟩
  have hX := box5M w1 (.int .i64 pa) (.int .i64 pq) (.int .i64 pt) (.int .i64 pz) (.int .i64 pm) 43
  replace hb := thenB hb (hal w1 (.cells #[.int .i64 pa, .int .i64 pq, .int .i64 pt, .int .i64 pz, .int .i64 pm] 43))
  unfold Box5 at hX
  clear C
  go_wp2_with fail
  refine (D.out _).mono ?_
  rintro e w2 ⟨rfl, hb2⟩
  go_wp2_with fail
  go_ret2
  exact ⟨rfl, thenB hb hb2⟩
set_option maxRecDepth 100000 in
set_option maxHeartbeats 1000000 in
theorem begun_any (d : FDev) (v : Value) (w : World) (hv : IsSt w v d.ops) : Calls Try.prog 27 #[.agg #[.int .i64 d.sa, .int .i64 d.su, .int .i64 d.nx, .int .i64 d.gt, .int .i64 d.sl, v]] w fun e w' => e = .returned (.agg #[.int .i64 d.sa, .int .i64 d.su, .int .i64 (nextU d), .int .i64 d.gt, .int .i64 d.sl, v]) ∧ Below w.heap.size w w' := by
  obtain ⟨hX, hR, hB, hs⟩ := two_boxes w (.int .i64 d.sa) (.int .i64 d.su) (.int .i64 d.nx) (.int .i64 d.gt) (.int .i64 d.sl) v
  have hne : w.heap.size ≠ w.heap.size + 1 := Nat.ne_of_lt (Nat.lt_succ_self _)
  obtain ⟨a, ca, rfl, _, _⟩ := hv
  by_cases h : d.sa = 0
  · have hn : nextU d = 0 := by unfold nextU; rw [if_pos h]
    rw [hn]
    clear hn
    obtain ⟨sa, su, nx, gt, sl, l⟩ := d
    dsimp only at *
    subst h
    go_enter Try.func27, Try.ntmps27
    go_upto_region 1 with fail
    generalize (w.alloc _).alloc _ = W at *
    have HB := hide hB
    have HR := hide hR
    clear hB hR
    go_upto_region 3 with fail
    replace hX := res2 hX (.int .i64 0)
    have hR := resO HR.out hne 2 (.int .i64 0)
    have hB := HB.out.setCell (p := ⟨w.heap.size, 2, none⟩) (Nat.le_refl _) (.int .i64 0)
    clear HB HR
    generalize World.setCell _ _ _ = W2 at *
    go_wp2_with fail
    exact bodyPost_ret (v := .agg #[.int .i64 0, .int .i64 su, .int .i64 0, .int .i64 gt, .int .i64 sl, .slice a l.length ca]) (by simp [results, Try.results27, go_sem, hR]) rfl ⟨rfl, set6 hB (Nat.le_succ _)⟩
  · have hn : nextU d = d.nx := by unfold nextU; rw [if_neg h]
    rw [hn]
    clear hn
    have h1 := eq_f h
    obtain ⟨sa, su, nx, gt, sl, l⟩ := d
    dsimp only at *
    go_enter Try.func27, Try.ntmps27
    go_upto_region 1 with fail
    generalize (w.alloc _).alloc _ = W at *
    go_wp2_with fail
    exact bodyPost_ret (v := .agg #[.int .i64 sa, .int .i64 su, .int .i64 nx, .int .i64 gt, .int .i64 sl, .slice a l.length ca]) (by simp [results, Try.results27, go_sem, hR]) rfl ⟨rfl, set6 hB (Nat.le_succ _)⟩
set_option maxRecDepth 100000 in
set_option maxHeartbeats 1000000 in
theorem failed_any (d : FDev) (v : Value) (s : Int) (w : World) (hv : IsSt w v d.ops) (hd : devB d = true) (hs : flB s = true) : Calls Try.prog 26 #[.agg #[.int .i64 d.sa, .int .i64 d.su, .int .i64 d.nx, .int .i64 d.gt, .int .i64 d.sl, v], .int .i64 s] w fun e w' => e = .returned (.tuple #[.agg #[.int .i64 7, .int .i64 s, .int .i64 0, .int .i64 0, .int .i64 0, .slice none 0 0], .string ⟨#[]⟩, .int .i64 0]) ∧ Below w.heap.size w w' := by
  have HF : Hid (∀ (w' : World), Below w.heap.size w w' → _) := fun w' hb => fail_is d v s w' (hv.below hb) hd hs
  obtain ⟨hX, hR, hB, _⟩ := two_boxes w (.int .i64 d.sa) (.int .i64 d.su) (.int .i64 d.nx) (.int .i64 d.gt) (.int .i64 d.sl) v
  have hne : w.heap.size ≠ w.heap.size + 1 := Nat.ne_of_lt (Nat.lt_succ_self _)
  clear hd hs
  obtain ⟨a, ca, rfl, _, _⟩ := hv
  obtain ⟨sa, su, nx, gt, sl, l⟩ := d
  dsimp only at *
  go_enter Try.func26, Try.ntmps26
  go_wp2_with fail
  refine (HF.out _ hB).mono ?_
  generalize (w.alloc _).alloc _ = W at *
  rintro e w2 ⟨rfl, hb⟩
  replace hB := thenB hB hb
  replace hX := resB hX hb
  replace hR := resB hR hb
  clear hb HF
  have HB := hide hB
  have HR := hide hR
  clear hB hR
  go_upto_region 2 with fail
  replace hX := res6 hX (.int .i64 7) (.int .i64 s) (.int .i64 0) (.int .i64 0) (.int .i64 0) (.slice none 0 0)
  have hR := resO6 HR.out hne (.int .i64 7) (.int .i64 s) (.int .i64 0) (.int .i64 0) (.int .i64 0) (.slice none 0 0)
  have hB := set6 (x0 := .int .i64 7) (x1 := .int .i64 s) (x2 := .int .i64 0) (x3 := .int .i64 0) (x4 := .int .i64 0) (x5 := .slice none 0 0) HB.out (Nat.le_refl w.heap.size)
  clear HB HR
  generalize (((((w2.setCell _ _).setCell _ _).setCell _ _).setCell _ _).setCell _ _).setCell _ _ = W4 at *
  go_wp2_with fail
  exact bodyPost_ret (v := .tuple #[.agg #[.int .i64 7, .int .i64 s, .int .i64 0, .int .i64 0, .int .i64 0, .slice none 0 0], .string ⟨#[]⟩, .int .i64 0]) (by simp [results, Try.results26, go_sem, hR]) rfl ⟨rfl, set6 hB (Nat.le_succ _)⟩
set_option maxRecDepth 100000 in
set_option maxHeartbeats 1000000 in
theorem piece_any (t : ByteArray) (b n : Nat) (w : World) (ht : t.size ≤ 288) (hb : b ≤ 16) (hn : n ≤ 32) : Calls Try.prog 28 #[.string t, .int .i64 (b : Int), .int .i64 (n : Int)] w fun e w' => e = .returned (.string (pieceN t b n)) ∧ w' = w := by
  obtain ⟨p, hp⟩ : ∃ p : Nat, p = fromN t b := ⟨_, rfl⟩
  obtain ⟨q, hq⟩ : ∃ q : Nat, q = endN t b n := ⟨_, rfl⟩
  have hp1 : p ≤ t.size := by rw [hp]; exact from_le _ _
  have hq1 : q ≤ t.size := by rw [hq]; exact end_le _ _ _
  have hpq : p ≤ q := by rw [hp, hq]; exact from_end _ _ _
  have m1 := fun ts t' w => run_min2 (P := Try.prog) ((b : Int) * 32) (t.size : Int) (p : Int) (by rw [hp]; unfold fromN; omega) ts t' w
  have m2 := fun ts t' w => run_min2 (P := Try.prog) ((p : Int) + (n : Int)) (t.size : Int) (q : Int) (by rw [hq]; unfold endN; rw [← hp]; omega) ts t' w
  have HX : Hid (t.extract p q = pieceN t b n) := by subst hp hq; rfl
  clear hp hq
  go_enter Try.func28, Try.ntmps28
  go_wp2_with fail
  go_ret
  exact ⟨ret_str HX.out, rfl⟩
set_option maxRecDepth 100000 in
set_option maxHeartbeats 2000000 in
theorem behind_any (d : FDev) (v : Value) (k : Nat) (w : World) (hv : IsSt w v d.ops) (hd : devB d = true) : Calls Try.prog 29 #[.agg #[.int .i64 d.sa, .int .i64 d.su, .int .i64 d.nx, .int .i64 d.gt, .int .i64 d.sl, v], .int .i64 (k : Int)] w fun e w' => ∃ u, e = .returned (.agg #[.int .i64 (behindD d k).sa, .int .i64 (behindD d k).su, .int .i64 (behindD d k).nx, .int .i64 (behindD d k).gt, .int .i64 (behindD d k).sl, u]) ∧ OwnSt w' w.heap.size u (behindD d k).ops ∧ Below w.heap.size w w' := by
  have hl := (dev_parts hd).2.2.2
  have hx := (dev_parts hd).1
  have hm := DnlWalk.dev_steps hd
  have HF : Hid (∀ (w' : World), Below w.heap.size w w' → _) := fun w' hb => fresh_any d v w' (hv.below hb) hm hl
  obtain ⟨hX, hR, hB, hs⟩ := two_boxes w (.int .i64 d.sa) (.int .i64 d.su) (.int .i64 d.nx) (.int .i64 d.gt) (.int .i64 d.sl) v
  have hne : w.heap.size ≠ w.heap.size + 1 := Nat.ne_of_lt (Nat.lt_succ_self _)
  clear hd hm hl
  by_cases h : k < 32
  · have hn : behindD d k = newD := by unfold behindD; rw [if_pos h]
    rw [hn]
    clear hn HF hx
    have C := hide (fun w => DevWalk.new_any w)
    obtain ⟨a, ca, rfl, _, _⟩ := hv
    go_enter Try.func29, Try.ntmps29
    go_wp2_with fail
    refine (C.out _).mono ?_
    generalize (w.alloc _).alloc _ = W at *
    rintro e w2 ⟨rfl, hb⟩
    replace hB := thenB hB hb
    replace hR := resB hR hb
    go_wp2_with fail
    exact bodyPost_ret (v := .agg #[.int .i64 0, .int .i64 0, .int .i64 0, .int .i64 0, .int .i64 0, .slice none 0 0]) (by simp [results, Try.results29, go_sem, hR]) rfl ⟨_, rfl, own_none _ _, set6 hB (Nat.le_succ _)⟩
  · have hn : behindD d k = ⟨6, d.su, min (d.nx + 1) 16, d.gt, d.sl, d.ops⟩ := by unfold behindD; rw [if_neg h]
    rw [hn]
    clear hn
    obtain ⟨a, ca, rfl, _, _⟩ := hv
    obtain ⟨sa, su, nx, gt, sl, l⟩ := d
    dsimp only at *
    have hmn := fun ts t w => run_min2 (P := Try.prog) (nx + 1) 16 (min (nx + 1) 16) rfl ts t w
    generalize min (nx + 1) 16 = K at *
    go_enter Try.func29, Try.ntmps29
    go_wp2_with fail
    refine (HF.out _ hB).mono ?_
    generalize (w.alloc _).alloc _ = W at *
    rintro e w2 ⟨u, rfl, hown, hb⟩
    obtain ⟨a', c', rfl⟩ := owns_form hown
    have hO := (own_of hown).mono (Nat.le_of_eq hs)
    replace hB := thenB hB hb
    replace hX := resB hX hb
    replace hR := resB hR hb
    clear hb hown HF
    have HB := hide hB
    have HR := hide hR
    have HO := hide hO
    clear hB hR hO
    go_upto_region 4 with fail
    replace hX := res6 hX (.int .i64 sa) (.int .i64 su) (.int .i64 nx) (.int .i64 gt) (.int .i64 sl) (.slice a' l.length c')
    have hR := resO6 HR.out hne (.int .i64 sa) (.int .i64 su) (.int .i64 nx) (.int .i64 gt) (.int .i64 sl) (.slice a' l.length c')
    have hB := set6 (x0 := .int .i64 sa) (x1 := .int .i64 su) (x2 := .int .i64 nx) (x3 := .int .i64 gt) (x4 := .int .i64 sl) (x5 := .slice a' l.length c') HB.out (Nat.le_refl w.heap.size)
    have hO := HO.out.set6 (show w.heap.size < w.heap.size + 1 + 1 by omega) (.int .i64 sa) (.int .i64 su) (.int .i64 nx) (.int .i64 gt) (.int .i64 sl) (.slice a' l.length c')
    clear HB HR HO
    generalize (((((w2.setCell _ _).setCell _ _).setCell _ _).setCell _ _).setCell _ _).setCell _ _ = W4 at *
    have HB := hide hB
    have HR := hide hR
    have HO := hide hO
    clear hB hR hO
    go_upto_region 5 with fail
    replace hX := res2 (res0 hX (.int .i64 6)) (.int .i64 K)
    have hR := resO (resO HR.out hne 0 (.int .i64 6)) hne 2 (.int .i64 K)
    have hB := (HB.out.setCell (p := ⟨w.heap.size, 0, none⟩) (Nat.le_refl _) (.int .i64 6)).setCell (p := ⟨w.heap.size, 2, none⟩) (Nat.le_refl _) (.int .i64 K)
    have hO := (HO.out.set (show w.heap.size < w.heap.size + 1 + 1 by omega) 0 (.int .i64 6)).set (show w.heap.size < w.heap.size + 1 + 1 by omega) 2 (.int .i64 K)
    clear HB HR HO
    generalize (World.setCell _ _ _).setCell _ _ = W5 at *
    go_wp2_with fail
    exact bodyPost_ret (v := .agg #[.int .i64 6, .int .i64 su, .int .i64 K, .int .i64 gt, .int .i64 sl, .slice a' l.length c']) (by simp [results, Try.results29, go_sem, hR]) rfl ⟨_, rfl, (hO.set6 (show w.heap.size + 1 < w.heap.size + 1 + 1 by omega) _ _ _ _ _ _).mono (by omega), set6 hB (Nat.le_succ _)⟩
end Go.Proofs.Ythcknngmpcepfaa.UplWalk
