/- The contracts of the laws' helpers on devices: whether two are the same, another one with the same steps, an error's number. -/
import Derived.Test.YthpoefaipmcceaaDevRow
import Derived.Test.YthpoefaipmcceaaOpsWalk
import Derived.Test.YthpoefaipmcceaaDevMath
import Derived.Laws.AppendOwnNone
import Derived.BigQuiet
namespace Go.Proofs.Ythpoefaipmcceaa.DevHelp
open Go.Proofs.Ythpoefaipmcceaa Go.RowKit Go.Proofs.Ythpoefaipmcceaa.Bytes Go.Proofs.Ythpoefaipmcceaa.Ops Go.Proofs.Ythpoefaipmcceaa.OpsRow Go.Proofs.Ythpoefaipmcceaa.Dev Go.Proofs.Ythpoefaipmcceaa.DevRow
theorem info_op : (Try.prog.info? 44).map (fun i => (i.zero, i.size, i.bytes)) = some (some (.agg #[.bool false, .int .i64 0, .string ⟨#[]⟩]), 3, 32) := by kernel_rfl
theorem num_any (n : Int) (w : World) : Calls Try.prog 12 #[.int .i64 n] w fun e w' => e = .returned (.int .i64 n) ∧ w' = w := by
  go_enter Try.func12, Try.ntmps12
  go_wp2
  go_ret
  exact ⟨rfl, rfl⟩
set_option maxRecDepth 100000 in
set_option maxHeartbeats 1000000 in
theorem sameSt_yes (u v : Value) (l : List FOp) (w : World) (hu : IsSt w u l) (hv : IsSt w v l) : Calls Try.prog 30 #[u, v] w fun e w' => e = .returned (.bool true) ∧ Below w.heap.size w w' := by
  have hl : l.length ≤ 9223372036854775807 := by have := hv.len; unfold maxLen at this; omega
  obtain ⟨a, ca, rfl, _, ha⟩ := hu
  obtain ⟨b, cb, rfl, _, hb⟩ := hv
  go_enter Try.func30, Try.ntmps30
  go_wp2
  go_loopw [5] (fun i wr => ∃ j : Nat, j ≤ l.length ∧ i = .int .i64 j ∧ ∃ n, wr = w.drewN n) (fun i _ => l.length - (intOf i).toNat)
  case atStart => exact ⟨0, Nat.zero_le _, rfl, 0, rfl⟩
  case round =>
    obtain ⟨j, hj, rfl, n, rfl⟩ := hrel
    by_cases hlt : j < l.length
    · rcases ha with ha | ⟨g, o, rfl, _, _, _, ha⟩
      · rw [ha] at hlt; simp at hlt
      rcases hb with hb | ⟨g', o', rfl, _, _, _, hb⟩
      · rw [hb] at hlt; simp at hlt
      have a1 := ha.er j hlt
      have a2 := ha.pl j hlt
      have a3 := ha.tx j hlt
      have b1 := hb.er j hlt
      have b2 := hb.pl j hlt
      have b3 := hb.tx j hlt
      generalize l[j].er = E at *
      generalize l[j].pl = A at *
      generalize l[j].tx = T at *
      clear ha hb
      go_wp2
      go_quiet (fail)
      go_wp2
      exact ⟨⟨j + 1, by omega, by go_num, n + nq, rfl⟩, by simp [intOf]; omega⟩
    · go_wp2
      go_ret
      exact ⟨rfl, bel_drewN (Below.refl _ _) _⟩
set_option maxRecDepth 100000 in
set_option maxHeartbeats 2000000 in
theorem sameDev_yes (d : FDev) (u v : Value) (w : World) (hu : IsSt w u d.ops) (hv : IsSt w v d.ops) : Calls Try.prog 11 #[.agg #[.int .i64 d.sa, .int .i64 d.su, .int .i64 d.nx, .int .i64 d.gt, .int .i64 d.sl, u], .agg #[.int .i64 d.sa, .int .i64 d.su, .int .i64 d.nx, .int .i64 d.gt, .int .i64 d.sl, v]] w fun e w' => e = .returned (.bool true) ∧ Below w.heap.size w w' := by
  have HS : Hid (∀ w', Below w.heap.size w w' → Calls Try.prog 30 #[u, v] w' fun e w'' => e = .returned (.bool true) ∧ Below w'.heap.size w' w'') := fun w' hb => sameSt_yes u v d.ops w' (hu.below hb) (hv.below hb)
  have hB := ((Below.refl w.heap.size w).alloc (Nat.le_refl _) (.cells #[.int .i64 d.sa, .int .i64 d.su, .int .i64 d.nx, .int .i64 d.gt, .int .i64 d.sl, u] 24)).alloc (by simp) (.cells #[.int .i64 d.sa, .int .i64 d.su, .int .i64 d.nx, .int .i64 d.gt, .int .i64 d.sl, v] 24)
  obtain ⟨a, ca, rfl, _, _⟩ := hu
  obtain ⟨b, cb, rfl, _, _⟩ := hv
  obtain ⟨sa, su, nx, gt, sl, l⟩ := d
  dsimp only at *
  go_enter Try.func11, Try.ntmps11
  go_wp2_with (go_at_call 30; refine (HS.out _ hB).mono ?_; rintro e w' ⟨rfl, hb⟩; replace hB := thenB hB hb; clear hb)
  go_ret
  exact ⟨rfl, hB⟩
theorem owns_form {w : World} {base : Nat} {e : TypeId} {size : Nat} {v : Value} {n : Nat} {xs : List Value} (h : w.ownsRow base e size v n xs) : ∃ a c, v = .slice a n c := by
  rcases h.2 with ⟨rfl, rfl⟩ | ⟨g, cap, cur, rfl, _⟩
  · exact ⟨none, 0, rfl⟩
  · exact ⟨_, _, rfl⟩
theorem third (w : World) (a b c : Obj) : (((w.alloc a).alloc b).alloc c).heap[w.heap.size + 1 + 1]? = some c := by
  have h := heap_alloc_new ((w.alloc a).alloc b) c
  rwa [show ((w.alloc a).alloc b).heap.size = w.heap.size + 1 + 1 from by simp] at h
set_option maxRecDepth 100000 in
set_option maxHeartbeats 1000000 in
theorem copyDev_any (d : FDev) (v : Value) (w : World) (hl : (d.ops.length + 2) * 32 ≤ 140737488355328) (hv : IsSt w v d.ops) : Calls Try.prog 8 #[.agg #[.int .i64 d.sa, .int .i64 d.su, .int .i64 d.nx, .int .i64 d.gt, .int .i64 d.sl, v]] w fun e w' => (∃ u, e = .returned (.agg #[.int .i64 d.sa, .int .i64 d.su, .int .i64 d.nx, .int .i64 d.gt, .int .i64 d.sl, u]) ∧ w'.ownsRow w.heap.size 44 3 u d.ops.length (flat d.ops)) ∧ Below w.heap.size w w' := by
  obtain ⟨i, hi, hz0, hz1, hz2⟩ := info_parts info_op
  obtain ⟨a, ca, rfl, h0, ha⟩ := hv
  obtain ⟨sa, su, nx, gt, sl, l⟩ := d
  dsimp only at *
  cases a with
  | none =>
    obtain rfl := h0 rfl
    obtain rfl : l = [] := by
      rcases ha with ha | ⟨_, _, ha, _⟩
      · exact ha
      · cases ha
    clear ha h0
    go_enter Try.func8, Try.ntmps8
    go_wp2
    refine bodyPost_ret (v := .agg #[.int .i64 sa, .int .i64 su, .int .i64 nx, .int .i64 gt, .int .i64 sl, .slice (some ⟨w.heap.size + 1 + 1, 0, none⟩) 0 0]) (by simp [results, Try.results8, go_sem]) rfl ⟨⟨_, rfl, ?_⟩, (((Below.refl _ _).alloc (Nat.le_refl _) _).alloc (by simp) _).alloc (by simp; omega) _⟩
    refine ⟨rfl, .inr ⟨_, _, #[], rfl, by omega, ?_, Nat.le_refl _, Nat.zero_le _, rfl, rfl⟩⟩
    exact third _ _ _ _
  | some ad =>
    have hwl : ∀ l : List FOp, (flat l).length = l.length * 3 := length_flat
    have hnews : ∀ (w1 : World), Below w.heap.size w w1 → ∀ j u, (flat l)[j]? = some u → w1.cell? (ad.add j) = some u := by
      intro w1 hb j u hu
      have hj : j < l.length * 3 := by have := (List.getElem?_eq_some_iff.1 hu).1; rw [length_flat] at this; exact this
      rcases ha with ha | ⟨b, o, ha, _, _, hlt, hin⟩
      · rw [ha] at hj; simp at hj
      · obtain rfl := Option.some.inj ha
        have hq : j / 3 < l.length := by omega
        have hr : j = j / 3 * 3 + j % 3 := by omega
        have hf := flat_get l (j / 3) (j % 3) hq (by omega)
        rw [← hr, hu] at hf
        rw [Go.WideShapes.add_plain, hb.cell (p := ⟨b, o + j, none⟩) hlt, hf]
        rcases (by omega : j % 3 = 0 ∨ j % 3 = 1 ∨ j % 3 = 2) with h | h | h
        · rw [h, show o + j = o + j / 3 * 3 from by omega]; exact hin.er _ hq
        · rw [h, show o + j = o + j / 3 * 3 + 1 from by omega]; exact hin.pl _ hq
        · rw [h, show o + j = o + j / 3 * 3 + 2 from by omega]; exact hin.tx _ hq
    have hl1 : 0 + l.length ≤ maxLen := by unfold maxLen; omega
    have hRA := resB (resM w (.int .i64 sa) (.int .i64 su) (.int .i64 nx) (.int .i64 gt) (.int .i64 sl) (.slice (some ad) l.length ca) 24) ((Below.refl _ _).alloc (Nat.le_refl _) (.cells #[.int .i64 0, .int .i64 0, .int .i64 0, .int .i64 0, .int .i64 0, .slice none 0 0] 24))
    have hRZ := resM (w.alloc (.cells #[.int .i64 sa, .int .i64 su, .int .i64 nx, .int .i64 gt, .int .i64 sl, .slice (some ad) l.length ca] 24)) (.int .i64 0) (.int .i64 0) (.int .i64 0) (.int .i64 0) (.int .i64 0) (.slice none 0 0) 24
    have hB := ((Below.refl w.heap.size w).alloc (Nat.le_refl _) (.cells #[.int .i64 sa, .int .i64 su, .int .i64 nx, .int .i64 gt, .int .i64 sl, .slice (some ad) l.length ca] 24)).alloc (by simp) (.cells #[.int .i64 0, .int .i64 0, .int .i64 0, .int .i64 0, .int .i64 0, .slice none 0 0] 24)
    rw [show (w.alloc (.cells #[.int .i64 sa, .int .i64 su, .int .i64 nx, .int .i64 gt, .int .i64 sl, .slice (some ad) l.length ca] 24)).heap.size = w.heap.size + 1 from by simp] at hRZ
    have hs : ((w.alloc (.cells #[.int .i64 sa, .int .i64 su, .int .i64 nx, .int .i64 gt, .int .i64 sl, .slice (some ad) l.length ca] 24)).alloc (.cells #[.int .i64 0, .int .i64 0, .int .i64 0, .int .i64 0, .int .i64 0, .slice none 0 0] 24)).heap.size = w.heap.size + 1 + 1 := by simp
    generalize hW : ((w.alloc (.cells #[.int .i64 sa, .int .i64 su, .int .i64 nx, .int .i64 gt, .int .i64 sl, .slice (some ad) l.length ca] 24)).alloc (.cells #[.int .i64 0, .int .i64 0, .int .i64 0, .int .i64 0, .int .i64 0, .slice none 0 0] 24)) = W at *
    have hown : (W.alloc (.cells #[] 44)).ownsRow (w.heap.size + 1 + 1) 44 3 (.slice (some ⟨w.heap.size + 1 + 1, 0, none⟩) 0 0) 0 [] := ⟨rfl, .inr ⟨_, _, #[], rfl, Nat.le_refl _, by rw [← hs]; exact heap_alloc_new W _, Nat.le_refl _, Nat.zero_le _, rfl, rfl⟩⟩
    have HB := hide hB
    clear hB ha h0
    go_enter Try.func8, Try.ntmps8
    go_wp2_with (at_builtin; refine wpList_append_own_at _ rfl _ _ _ rfl (w.heap.size + 1 + 1) 44 i _ 3 32 Try.underlying22 hi hz0 hz1 hz2 rfl (by omega) _ 0 _ rfl hown ad l.length ca (flat l) rfl (by rw [length_flat]) (hnews _ (HB.out.alloc (by omega) _)) (flat_oneCell l) hl1 (by omega) (by simp; omega) ?_; intro v' w1 hown1 hgrow _ _; rw [Nat.zero_add, List.nil_append] at hown1; obtain ⟨a', c', rfl⟩ := owns_form hown1; have hb1 := ((Below.refl W.heap.size W).alloc (Nat.le_refl _) (.cells #[] 44)).grown hgrow (by simp) (fun k hk => by obtain rfl := Option.some.inj hk; rw [hs]; exact Nat.le_refl _); replace hRA := resB hRA hb1; replace hRZ := resB hRZ hb1)
    have hbw := HB.out.trans (hb1.mono (by omega))
    have hbs := set6 (x0 := .int .i64 sa) (x1 := .int .i64 su) (x2 := .int .i64 nx) (x3 := .int .i64 gt) (x4 := .int .i64 sl) (x5 := .slice a' l.length c') (hbw.setCell (p := ⟨w.heap.size, 5, none⟩) (Nat.le_refl _) (.slice a' l.length c')) (Nat.le_succ w.heap.size)
    refine bodyPost_ret (v := .agg #[.int .i64 sa, .int .i64 su, .int .i64 nx, .int .i64 gt, .int .i64 sl, .slice a' l.length c']) (by simp [results, Try.results8, go_sem, hRZ]) rfl ⟨⟨_, rfl, owns_mono (base := w.heap.size + 1 + 1) ?_ (by omega)⟩, hbs⟩
    exact ownsRow_setCell_below (ownsRow_setCell_below (ownsRow_setCell_below (ownsRow_setCell_below (ownsRow_setCell_below (ownsRow_setCell_below (ownsRow_setCell_below hown1 (Nat.lt_succ_of_lt (Nat.lt_succ_self _)) _) (Nat.lt_succ_self _) _) (Nat.lt_succ_self _) _) (Nat.lt_succ_self _) _) (Nat.lt_succ_self _) _) (Nat.lt_succ_self _) _) (Nat.lt_succ_self _) _
end Go.Proofs.Ythpoefaipmcceaa.DevHelp
