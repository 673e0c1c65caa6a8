/- The contracts of package status, part for part: each call answers what the plain functions give, whatever its arguments; the device's steps lie in memory of their own. -/
import Derived.Test.YthdnpgkoanfijaaStsMath
import Derived.Test.YthdnpgkoanfijaaTicRow
import Derived.Test.YthdnpgkoanfijaaBagDnl
import Derived.Test.YthdnpgkoanfijaaBagPla
namespace Go.Proofs.Ythdnpgkoanfijaa.StsWalk
open Go.Proofs.Ythdnpgkoanfijaa Go.RowKit Go.Proofs.Ythdnpgkoanfijaa.Bytes Go.Proofs.Ythdnpgkoanfijaa.Ops Go.Proofs.Ythdnpgkoanfijaa.OpsRow Go.Proofs.Ythdnpgkoanfijaa.Jou Go.Proofs.Ythdnpgkoanfijaa.Act Go.Proofs.Ythdnpgkoanfijaa.Dev Go.Proofs.Ythdnpgkoanfijaa.DevRow Go.Proofs.Ythdnpgkoanfijaa.DevSet Go.Proofs.Ythdnpgkoanfijaa.Dnl Go.Proofs.Ythdnpgkoanfijaa.DnlCopy Go.Proofs.Ythdnpgkoanfijaa.Tic Go.Proofs.Ythdnpgkoanfijaa.TicRow Go.Proofs.Ythdnpgkoanfijaa.Sts
open Go.Proofs.Ythdnpgkoanfijaa.OpsWalk (size_alloc1 info_op)
open Go.Proofs.Ythdnpgkoanfijaa.DevWalk (build_d0)
open Go.Proofs.Ythdnpgkoanfijaa.DnlWalk (fail_is ne_t eq_f)
attribute [local go_sem ↓] Go.wp_at_zero Go.wp_at_succ
theorem hal (w : World) (o : Obj) : Below w.heap.size w (w.alloc o) := (Below.refl _ _).alloc (Nat.le_refl _) _
theorem run_min255 {P : Program} (n : Nat) (ts : Array TypeId) (t : TypeId) (w : World) : (Builtin.min_ ts t #[.int .i64 (n : Int), .int .i64 255]).run P w = .ok (.int .i64 (min (n : Int) 255)) w := by
  simp [Builtin.min_, Builtin.min2]
  repeat split
  all_goals omega
set_option maxRecDepth 100000 in
set_option maxHeartbeats 1000000 in
theorem synced_any (d : FDev) (v : Value) (w : World) (hv : IsSt w v d.ops) : Calls Try.prog 44 #[.agg #[.int .i64 d.sa, .int .i64 d.su, .int .i64 d.nx, .int .i64 d.gt, .int .i64 d.sl, v]] w fun r w' => r = .returned (.int .i64 (syncI d)) ∧ Below w.heap.size w w' := by
  obtain ⟨a, ca, rfl, _, _⟩ := hv
  have HS := hide (show syncI d = if d.ops.length = 0 then 3 else 2 from rfl)
  generalize syncI d = S at *
  obtain ⟨sa, su, nx, gt, sl, l⟩ := d
  dsimp only at *
  by_cases h : l.length = 0
  · have h1 := HS.out
    rw [if_pos h] at h1
    subst h1
    have h2 : ¬ (0 : Int) < (l.length : Int) := by omega
    go_enter Try.func44, Try.ntmps44
    go_wp2_with fail
    go_ret
    exact ⟨rfl, hal _ _⟩
  · have h1 := HS.out
    rw [if_neg h] at h1
    subst h1
    have h2 : (0 : Int) < (l.length : Int) := by omega
    go_enter Try.func44, Try.ntmps44
    go_wp2_with fail
    go_ret
    exact ⟨rfl, hal _ _⟩
/-- A device in memory and the zero answer that is the result's. -/
theorem answer_boxes (w : World) (x0 x1 x2 x3 x4 x5 : Value) : Res ((w.alloc (.cells #[x0, x1, x2, x3, x4, x5] 24)).alloc (.cells #[.int .i64 0, .int .i64 0, .int .i64 0] 27)) w.heap.size x0 x1 x2 x3 x4 x5 ∧ (w.heap.size + 1 < ((w.alloc (.cells #[x0, x1, x2, x3, x4, x5] 24)).alloc (.cells #[.int .i64 0, .int .i64 0, .int .i64 0] 27)).heap.size ∧ ((w.alloc (.cells #[x0, x1, x2, x3, x4, x5] 24)).alloc (.cells #[.int .i64 0, .int .i64 0, .int .i64 0] 27)).cell? ⟨w.heap.size + 1, 0, none⟩ = some (.int .i64 0) ∧ ((w.alloc (.cells #[x0, x1, x2, x3, x4, x5] 24)).alloc (.cells #[.int .i64 0, .int .i64 0, .int .i64 0] 27)).cell? ⟨w.heap.size + 1, 1, none⟩ = some (.int .i64 0) ∧ ((w.alloc (.cells #[x0, x1, x2, x3, x4, x5] 24)).alloc (.cells #[.int .i64 0, .int .i64 0, .int .i64 0] 27)).cell? ⟨w.heap.size + 1, 2, none⟩ = some (.int .i64 0) ∧ ∀ i, ((w.alloc (.cells #[x0, x1, x2, x3, x4, x5] 24)).alloc (.cells #[.int .i64 0, .int .i64 0, .int .i64 0] 27)).frozen? ⟨w.heap.size + 1, i, none⟩ = false) ∧ Below w.heap.size w ((w.alloc (.cells #[x0, x1, x2, x3, x4, x5] 24)).alloc (.cells #[.int .i64 0, .int .i64 0, .int .i64 0] 27)) := by
  have hR := AnsWalk.resM (w.alloc (.cells #[x0, x1, x2, x3, x4, x5] 24)) (.int .i64 0) (.int .i64 0) (.int .i64 0) 27
  rw [show (w.alloc (.cells #[x0, x1, x2, x3, x4, x5] 24)).heap.size = w.heap.size + 1 from by simp] at hR
  exact ⟨resB (resM w x0 x1 x2 x3 x4 x5 24) (hal _ _), hR, thenB (hal _ _) (hal _ _)⟩
set_option maxRecDepth 100000 in
set_option maxHeartbeats 1000000 in
theorem answerOf_any (d : FDev) (v : Value) (w : World) (hv : IsSt w v d.ops) : Calls Try.prog 25 #[.agg #[.int .i64 d.sa, .int .i64 d.su, .int .i64 d.nx, .int .i64 d.gt, .int .i64 d.sl, v]] w fun r w' => r = .returned (.agg #[.int .i64 d.su, .int .i64 (tkI d), .int .i64 d.sa]) ∧ Below w.heap.size w w' := by
  obtain ⟨hX, hR, hB⟩ := answer_boxes w (.int .i64 d.sa) (.int .i64 d.su) (.int .i64 d.nx) (.int .i64 d.gt) (.int .i64 d.sl) v
  obtain ⟨a, ca, rfl, _, _⟩ := hv
  have b1 := AnsWalk.build_ans
  have hmn := fun ts t w => run_min255 (P := Try.prog) d.ops.length ts t w
  have hk : min (d.ops.length : Int) 255 = tkI d := rfl
  simp only [hk] at hmn
  clear hk
  generalize tkI d = K at *
  obtain ⟨sa, su, nx, gt, sl, l⟩ := d
  dsimp only at *
  go_enter Try.func25, Try.ntmps25
  go_wp2_with fail
  exact bodyPost_ret (v := .agg #[.int .i64 su, .int .i64 K, .int .i64 sa]) (by simp [results, Try.results25, go_sem]) rfl ⟨rfl, thenB (hal _ _) (hal _ _)⟩
set_option maxRecDepth 100000 in
set_option maxHeartbeats 1000000 in
theorem record_steps (f : ByteArray) (t z : Int) (w : World) : Calls Try.prog 60 #[.string f, .int .i64 t, .int .i64 z] w fun r w' => ∃ v, r = .returned (.tuple #[v, .int .i64 (errS f t z)]) ∧ w'.ownsRow w.heap.size 73 3 v (recL f t z).length (flat (recL f t z)) ∧ Below w.heap.size w w' := by
  have C1 := hide (fun w => StaWalk.record_any f t z w)
  rcases rec_ways f t z with ⟨h1, h2⟩ | ⟨h1, q1, q2, q3, q4, h2, h3⟩
  · have C2 := hide (fun w => PlaWalk.append_any f (rofQ f t z) (rofT f t z) (rofZ f t z) (rofM f t z) w)
    rw [h2, show errP true = 0 from rfl] at C2
    rw [h1] at C1 ⊢
    have hL : appL f (rofQ f t z) (rofT f t z) (rofZ f t z) (rofM f t z) = recL f t z := rfl
    rw [hL] at C2
    clear h1 h2 hL
    generalize recL f t z = L at *
    generalize rofQ f t z = Q at *
    generalize rofT f t z = T at *
    generalize rofZ f t z = Z at *
    generalize rofM f t z = M at *
    go_enter Try.func60, Try.ntmps60
    go_wp2_with fail
    refine (C1.out _).mono ?_
    rintro e w2 ⟨rfl, hb⟩
    have hn := hal w2 (.cells #[.int .i64 Q, .int .i64 T, .int .i64 Z, .int .i64 M] 43)
    replace hb := thenB hb hn
    clear hn
    go_wp2_with fail
    refine (C2.out _).mono ?_
    rintro e w3 ⟨v, rfl, hown, hb2⟩
    obtain ⟨a', c', rfl⟩ := owns_form hown
    go_wp2_with fail
    go_ret2
    exact ⟨_, rfl, owns_mono hown hb.size, thenB hb hb2⟩
  · rw [q1, q2, q3, q4] at C1
    rw [h3]
    clear q1 q2 q3 q4 h2 h3
    generalize errS f t z = E at *
    have h2 := ne_t h1
    go_enter Try.func60, Try.ntmps60
    go_wp2_with fail
    refine (C1.out _).mono ?_
    rintro e w2 ⟨rfl, hb⟩
    have hn := hal w2 (.cells #[.int .i64 0, .int .i64 0, .int .i64 0, .int .i64 0] 43)
    replace hb := thenB hb hn
    clear hn
    go_wp2_with fail
    go_ret2
    exact ⟨_, rfl, owns_nil _ _ _, hb⟩
end Go.Proofs.Ythdnpgkoanfijaa.StsWalk
