/- The contracts of package tick: each call answers what the plain functions give, whatever its arguments; the device's steps lie in memory of their own. -/
import Derived.Test.YtmbgdidelbkdgaaTicMath
import Derived.Test.YtmbgdidelbkdgaaTicRow
import Derived.Test.YtmbgdidelbkdgaaBagDnl
import Derived.Test.YtmbgdidelbkdgaaBagOps
import Derived.Deep.CutRange
import Derived.Deep.RegionWith
namespace Go.Proofs.Ytmbgdidelbkdgaa.TicWalk
open Go.Proofs.Ytmbgdidelbkdgaa Go.RowKit Go.Proofs.Ytmbgdidelbkdgaa.Bytes Go.Proofs.Ytmbgdidelbkdgaa.Ops Go.Proofs.Ytmbgdidelbkdgaa.OpsRow Go.Proofs.Ytmbgdidelbkdgaa.Jou Go.Proofs.Ytmbgdidelbkdgaa.Dev Go.Proofs.Ytmbgdidelbkdgaa.DevRow Go.Proofs.Ytmbgdidelbkdgaa.DevSet Go.Proofs.Ytmbgdidelbkdgaa.Dnl Go.Proofs.Ytmbgdidelbkdgaa.DnlCopy Go.Proofs.Ytmbgdidelbkdgaa.Tic Go.Proofs.Ytmbgdidelbkdgaa.TicRow
open Go.Proofs.Ytmbgdidelbkdgaa.OpsWalk (size_alloc1 info_op)
open Go.Proofs.Ytmbgdidelbkdgaa.DevWalk (build_d0)
open Go.Proofs.Ytmbgdidelbkdgaa.NorWalk (ret_bool)
open Go.Proofs.Ytmbgdidelbkdgaa.ImgClone (clone_any)
attribute [local go_sem ↓] Go.wp_at_zero Go.wp_at_succ
theorem hal (w : World) (o : Obj) : Below w.heap.size w (w.alloc o) := (Below.refl _ _).alloc (Nat.le_refl _) _
theorem build_op (w : World) : (Instr.build 40 #[]).run Try.prog w = .ok (.agg #[.bool false, .int .i64 0, .string ⟨#[]⟩]) w := run_build w 40 _ _ (by kernel_rfl)
theorem works_any (s : Int) (w : World) : Calls Try.prog 54 #[.int .i64 s] w fun r w' => r = .returned (.bool (workB s)) ∧ w' = w := by
  go_enter Try.func54, Try.ntmps54
  go_wp2
  all_goals
    go_ret
    exact ⟨ret_bool (by unfold workB; rw [Bool.eq_iff_iff]; simp; try omega), rfl⟩
/-- A device in memory and the zero step that is the result's. -/
theorem step_boxes (w : World) (x0 x1 x2 x3 x4 x5 : Value) : Res ((w.alloc (.cells #[x0, x1, x2, x3, x4, x5] 24)).alloc (.cells #[.bool false, .int .i64 0, .string ⟨#[]⟩] 40)) w.heap.size x0 x1 x2 x3 x4 x5 ∧ (w.heap.size + 1 < ((w.alloc (.cells #[x0, x1, x2, x3, x4, x5] 24)).alloc (.cells #[.bool false, .int .i64 0, .string ⟨#[]⟩] 40)).heap.size ∧ ((w.alloc (.cells #[x0, x1, x2, x3, x4, x5] 24)).alloc (.cells #[.bool false, .int .i64 0, .string ⟨#[]⟩] 40)).cell? ⟨w.heap.size + 1, 0, none⟩ = some (.bool false) ∧ ((w.alloc (.cells #[x0, x1, x2, x3, x4, x5] 24)).alloc (.cells #[.bool false, .int .i64 0, .string ⟨#[]⟩] 40)).cell? ⟨w.heap.size + 1, 1, none⟩ = some (.int .i64 0) ∧ ((w.alloc (.cells #[x0, x1, x2, x3, x4, x5] 24)).alloc (.cells #[.bool false, .int .i64 0, .string ⟨#[]⟩] 40)).cell? ⟨w.heap.size + 1, 2, none⟩ = some (.string ⟨#[]⟩) ∧ ∀ i, ((w.alloc (.cells #[x0, x1, x2, x3, x4, x5] 24)).alloc (.cells #[.bool false, .int .i64 0, .string ⟨#[]⟩] 40)).frozen? ⟨w.heap.size + 1, i, none⟩ = false) ∧ Below w.heap.size w ((w.alloc (.cells #[x0, x1, x2, x3, x4, x5] 24)).alloc (.cells #[.bool false, .int .i64 0, .string ⟨#[]⟩] 40)) := by
  have hR := AnsWalk.resM (w.alloc (.cells #[x0, x1, x2, x3, x4, x5] 24)) (.bool false) (.int .i64 0) (.string ⟨#[]⟩) 40
  rw [show (w.alloc (.cells #[x0, x1, x2, x3, x4, x5] 24)).heap.size = w.heap.size + 1 from by simp] at hR
  exact ⟨resB (resM w x0 x1 x2 x3 x4 x5 24) (hal _ _), hR, thenB (hal _ _) (hal _ _)⟩
set_option maxRecDepth 100000 in
set_option maxHeartbeats 1000000 in
/-- No step is due. -/
theorem dueN_any (d : FDev) (v : Value) (w : World) (hv : IsSt w v d.ops) (h : dueB d = false) : Calls Try.prog 29 #[.agg #[.int .i64 d.sa, .int .i64 d.su, .int .i64 d.nx, .int .i64 d.gt, .int .i64 d.sl, v]] w fun r w' => r = .returned (.tuple #[.agg #[.bool false, .int .i64 0, .string ⟨#[]⟩], .bool false]) ∧ Below w.heap.size w w' := by
  have HW := hide (fun w => works_any d.sa w)
  obtain ⟨hX, hR, hB⟩ := step_boxes w (.int .i64 d.sa) (.int .i64 d.su) (.int .i64 d.nx) (.int .i64 d.gt) (.int .i64 d.sl) v
  have b1 := build_op
  have hD := due_no h
  clear h
  obtain ⟨a, ca, rfl, _, _⟩ := hv
  rcases hD with h | ⟨h, h2⟩
  · rw [h] at HW
    clear h
    go_enter Try.func29, Try.ntmps29
    go_wp2_with (go_at_call 54; refine (HW.out _).mono ?_; rintro e w' ⟨rfl, rfl⟩)
    exact bodyPost_ret (v := .tuple #[.agg #[.bool false, .int .i64 0, .string ⟨#[]⟩], .bool false]) (by simp [results, Try.results29, go_sem, hR]) rfl ⟨rfl, thenB (hal _ _) (hal _ _)⟩
  · rw [h] at HW
    have h3 : d.ops.length = 0 := by rw [h2]; rfl
    rw [h3] at hX hR hB ⊢
    clear h h2 h3
    go_enter Try.func29, Try.ntmps29
    go_wp2_with (go_at_call 54; refine (HW.out _).mono ?_; rintro e w' ⟨rfl, rfl⟩)
    exact bodyPost_ret (v := .tuple #[.agg #[.bool false, .int .i64 0, .string ⟨#[]⟩], .bool false]) (by simp [results, Try.results29, go_sem, hR]) rfl ⟨rfl, thenB (hal _ _) (hal _ _)⟩
set_option maxRecDepth 100000 in
set_option maxHeartbeats 1000000 in
/-- The step that is due. -/
theorem dueY_any (d : FDev) (v : Value) (w : World) (o : FOp) (l : List FOp) (hv : IsSt w v (o :: l)) (h : workB d.sa = true) : Calls Try.prog 29 #[.agg #[.int .i64 d.sa, .int .i64 d.su, .int .i64 d.nx, .int .i64 d.gt, .int .i64 d.sl, v]] w fun r w' => r = .returned (.tuple #[.agg #[.bool o.er, .int .i64 o.pl, .string o.tx], .bool true]) ∧ Below w.heap.size w w' := by
  have HW := hide (fun w => works_any d.sa w)
  obtain ⟨hX, hR, hB⟩ := step_boxes w (.int .i64 d.sa) (.int .i64 d.su) (.int .i64 d.nx) (.int .i64 d.gt) (.int .i64 d.sl) v
  rw [h] at HW
  have hv2 := hv.below hB
  obtain ⟨b, of, cap, rfl, h1, h2, h3, _, c0, c1, c2⟩ := is_first hv2
  clear hv hv2 h
  obtain ⟨er, pl, tx⟩ := o
  dsimp only at *
  have h4 : (0 : Int) < ((l.length + 1 : Nat) : Int) := by omega
  go_enter Try.func29, Try.ntmps29
  go_wp2_with (go_at_call 54; refine (HW.out _).mono ?_; rintro e w' ⟨rfl, rfl⟩)
  exact bodyPost_ret (v := .tuple #[.agg #[.bool er, .int .i64 pl, .string tx], .bool true]) (by simp [results, Try.results29, go_sem]) rfl ⟨rfl, thenB (hal _ _) (hal _ _)⟩
set_option maxRecDepth 100000 in
set_option maxHeartbeats 1000000 in
theorem settled_any (d : FDev) (v : Value) (w : World) (base : Nat) (hv : OwnSt w base v d.ops) : Calls Try.prog 31 #[.agg #[.int .i64 d.sa, .int .i64 d.su, .int .i64 d.nx, .int .i64 d.gt, .int .i64 d.sl, v]] w fun r w' => ∃ u, r = .returned (.agg #[.int .i64 (setD d).sa, .int .i64 (setD d).su, .int .i64 (setD d).nx, .int .i64 (setD d).gt, .int .i64 (setD d).sl, u]) ∧ OwnSt w' base u (setD d).ops ∧ Below w.heap.size w w' := by
  have HW := hide (fun w => works_any d.sa w)
  obtain ⟨hX, hR, hB, hs⟩ := two_boxes w (.int .i64 d.sa) (.int .i64 d.su) (.int .i64 d.nx) (.int .i64 d.gt) (.int .i64 d.sl) v
  obtain ⟨a, c, rfl⟩ := hv.form
  have HV := hide hv
  clear hv
  have HS := hide (set_ways d)
  generalize setD d = D at *
  obtain ⟨sa, su, nx, gt, sl, l⟩ := d
  dsimp only at *
  rcases HS.out with ⟨h, rfl⟩ | ⟨rfl, rfl, rfl⟩ | ⟨rfl, rfl, rfl⟩
  · have hw : workB sa = false ∨ (workB sa = true ∧ (0 : Int) < (l.length : Int)) := by
      cases h2 : workB sa with
      | false => exact .inl rfl
      | true => rw [h2] at h; exact .inr ⟨rfl, by rcases h with h | h; cases h; omega⟩
    clear h HS
    rcases hw with h | ⟨h, h2⟩
    all_goals
      rw [h] at HW
      clear h
      go_enter Try.func31, Try.ntmps31
      go_wp2_with (go_at_call 54; refine (HW.out _).mono ?_; rintro e w' ⟨rfl, rfl⟩)
      refine bodyPost_ret (v := .agg #[.int .i64 sa, .int .i64 su, .int .i64 nx, .int .i64 gt, .int .i64 sl, .slice a l.length c]) (by simp [results, Try.results31, go_sem]) rfl ⟨_, rfl, HV.out.below ?_, ?_⟩ <;> exact thenB (hal _ _) (hal _ _)
  · rw [show workB 5 = true from rfl] at HW
    clear HS
    go_enter Try.func31, Try.ntmps31
    go_wp2_with (first | (go_at_call 54; refine (HW.out _).mono ?_; rintro e w' ⟨rfl, rfl⟩) | (go_at_call 37; refine (DevWalk.new_any _).mono ?_; rintro e w' ⟨rfl, hb⟩; replace hB := thenB hB hb; replace hX := resB hX hb; replace hR := resB hR hb; clear hb))
    unfold newD
    exact bodyPost_ret (v := .agg #[.int .i64 0, .int .i64 0, .int .i64 0, .int .i64 0, .int .i64 0, .slice none 0 0]) (by simp [results, Try.results31, go_sem, hR]) rfl ⟨_, rfl, own_none _ _, set6 hB (Nat.le_succ _)⟩
  · rw [show workB 2 = true from rfl] at HW
    clear HS
    have hz : ([] : List FOp).length = 0 := rfl
    rw [hz] at hX hR hB HV ⊢
    clear hz
    go_enter Try.func31, Try.ntmps31
    go_wp2_with (go_at_call 54; refine (HW.out _).mono ?_; rintro e w' ⟨rfl, rfl⟩)
    refine bodyPost_ret (v := .agg #[.int .i64 1, .int .i64 su, .int .i64 nx, .int .i64 gt, .int .i64 sl, .slice a 0 c]) (by simp [results, Try.results31, go_sem]) rfl ⟨_, rfl, HV.out.below ?_, ?_⟩ <;> exact thenB (hal _ _) (hal _ _)
end Go.Proofs.Ytmbgdidelbkdgaa.TicWalk
