/- A device's steps spoilt by whoever holds it, wherever in their block they begin. -/
import Derived.Test.YthdnpgkoanfijaaTicRow
import Derived.Test.YthdnpgkoanfijaaBagDnl
import Derived.Test.YthdnpgkoanfijaaBagOps
namespace Go.Proofs.Ythdnpgkoanfijaa.TicSpoil
open Go.Proofs.Ythdnpgkoanfijaa Go.RowKit Go.Proofs.Ythdnpgkoanfijaa.Bytes Go.Proofs.Ythdnpgkoanfijaa.Ops Go.Proofs.Ythdnpgkoanfijaa.OpsRow Go.Proofs.Ythdnpgkoanfijaa.Dev Go.Proofs.Ythdnpgkoanfijaa.DevRow Go.Proofs.Ythdnpgkoanfijaa.DevSet Go.Proofs.Ythdnpgkoanfijaa.TicRow
attribute [local go_sem ↓] Go.wp_at_zero Go.wp_at_succ
theorem hal (w : World) (o : Obj) : Below w.heap.size w (w.alloc o) := (Below.refl _ _).alloc (Nat.le_refl _) _
set_option maxRecDepth 100000 in
set_option maxHeartbeats 1000000 in
theorem spoilSt_any (v : Value) (l : List FOp) (w : World) (base n : Nat) (hl : l.length ≤ 65536) (hv : OwnIn w base n v l) : Calls Try.prog 29 #[v] w fun e w' => e = .returned (.tuple #[]) ∧ Below base w w' ∧ Boxes n w w' := by
  obtain ⟨a, cap, rfl, h0, hv⟩ := hv
  rcases hv with rfl | ⟨g, o, rfl, h1, h2, hg, hgn, hlt0, hin, hfz⟩
  · have hz : ([] : List FOp).length = 0 := rfl
    rw [hz]
    clear hz hl
    go_enter Try.func29, Try.ntmps29
    go_wp2
    go_loopw [2] (fun i wr => i = .int .i64 0 ∧ wr = w) (fun _ _ => 0)
    case atStart => exact ⟨rfl, rfl⟩
    case round =>
      obtain ⟨rfl, rfl⟩ := hrel
      go_wp2
      go_end0
      exact ⟨rfl, Below.refl _ _, fun _ _ _ _ _ _ _ _ h => h⟩
  · go_enter Try.func29, Try.ntmps29
    go_wp2
    go_loopw [2] (fun i wr => ∃ j : Nat, j ≤ l.length ∧ i = .int .i64 j ∧ Below base w wr ∧ Boxes n w wr ∧ (∀ k, k < l.length → ∃ x, wr.cell? ⟨g, o + k * 3 + 1, none⟩ = some (.int .i64 x)) ∧ (∀ k, wr.frozen? ⟨g, k, none⟩ = false)) (fun i _ => l.length - (intOf i).toNat)
    case atStart => exact ⟨0, Nat.zero_le _, rfl, Below.refl _ _, fun _ _ _ _ _ _ _ _ h => h, fun k hk => ⟨_, hin.pl k hk⟩, hfz⟩
    case round =>
      obtain ⟨j, hj, rfl, hbel, hbox, hcell, hfr⟩ := hrel
      clear hfz hin
      have HX : Hid (Boxes n w wr) := hbox
      clear hbox
      by_cases hlt : j < l.length
      · obtain ⟨x, hx⟩ := hcell j hlt
        have hfj := hfr (o + j * 3 + 1)
        have HC : Hid (∀ k, k < l.length → ∃ x, wr.cell? ⟨g, o + k * 3 + 1, none⟩ = some (.int .i64 x)) := hcell
        have HF : Hid (∀ k, wr.frozen? ⟨g, k, none⟩ = false) := hfr
        clear hcell hfr
        go_wp2
        refine ⟨⟨j + 1, by omega, by go_num, hbel.setCell hg _, fun B x0 x1 x2 x3 x4 x5 hB h => resO (HX.out B x0 x1 x2 x3 x4 x5 hB h) (by omega) _ _, fun k hk => ?_, fun k => by rw [World.frozen?_setCell]; exact HF.out k⟩, by simp [intOf]; omega⟩
        by_cases e : k = j
        · subst e
          exact ⟨_, World.cell?_setCell_same wr _ _ hx⟩
        · obtain ⟨y, hy⟩ := HC.out k hk
          exact ⟨y, by rw [World.cell?_setCell_other wr _ _ _ (by intro hc; injection hc; omega)]; exact hy⟩
      · go_wp2
        go_end0
        exact ⟨rfl, hbel, HX.out⟩
set_option maxRecDepth 100000 in
set_option maxHeartbeats 1000000 in
theorem spoilDev_any (d : FDev) (v : Value) (w : World) (base n : Nat) (hl : d.ops.length ≤ 65536) (hbase : base ≤ w.heap.size) (hv : OwnIn w base n v d.ops) : Calls Try.prog 13 #[.agg #[.int .i64 d.sa, .int .i64 d.su, .int .i64 d.nx, .int .i64 d.gt, .int .i64 d.sl, v]] w fun e w' => e = .returned (.tuple #[]) ∧ Below base w w' ∧ Boxes n w w' := by
  have hB := (Below.refl base w).alloc hbase (.cells #[.int .i64 d.sa, .int .i64 d.su, .int .i64 d.nx, .int .i64 d.gt, .int .i64 d.sl, v] 24)
  have hv2 := hv.below (hal w (.cells #[.int .i64 d.sa, .int .i64 d.su, .int .i64 d.nx, .int .i64 d.gt, .int .i64 d.sl, v] 24))
  have HS := hide (spoilSt_any v d.ops _ base n hl hv2)
  obtain ⟨a, c, rfl⟩ := hv.st.form
  obtain ⟨sa, su, nx, gt, sl, l⟩ := d
  dsimp only at *
  go_enter Try.func13, Try.ntmps13
  go_wp2_with fail
  refine HS.out.mono ?_
  rintro e w2 ⟨rfl, hb, hX⟩
  go_wp2_with fail
  go_end0
  exact ⟨rfl, hB.trans hb, fun B x0 x1 x2 x3 x4 x5 h h2 => hX B x0 x1 x2 x3 x4 x5 h (resB h2 (hal _ _))⟩
end Go.Proofs.Ythdnpgkoanfijaa.TicSpoil
