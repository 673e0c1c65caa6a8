/- The contracts of the laws' helpers on rows of texts, and of an error's number. -/
import Derived.Test.YtpoigakjhhkifaaTxtRow
import Derived.Test.YtpoigakjhhkifaaNorRef
import Derived.Laws.AppendOwnNone
import Derived.BigQuiet
namespace Go.Proofs.Ytpoigakjhhkifaa.TxtHelp
open Go.Proofs.Ytpoigakjhhkifaa Go.RowKit Go.Proofs.Ytpoigakjhhkifaa.Bytes Go.Proofs.Ytpoigakjhhkifaa.TxtRow Go.Proofs.Ytpoigakjhhkifaa.OpsRow

theorem numB_any (n : Int) (w : World) : Calls Try.prog 13 #[.int .i64 n] w fun e w' => e = .returned (.int .i64 n) ∧ w' = w := by
  go_enter Try.func13, Try.ntmps13
  go_wp2
  go_ret
  exact ⟨rfl, rfl⟩
theorem info_str : (Try.prog.info? 9).map (fun i => (i.zero, i.size, i.bytes)) = some (some (.string ⟨#[]⟩), 1, 16) := by kernel_rfl
set_option maxRecDepth 100000 in
set_option maxHeartbeats 1000000 in
theorem sameT_yes (u v : Value) (l : List ByteArray) (w : World) (hl : l.length ≤ maxLen) (hu : IsTx w u l) (hv : IsTx w v l) : Calls Try.prog 12 #[u, v] w fun e w' => e = .returned (.bool true) ∧ Below w.heap.size w w' := by
  have hl2 : l.length ≤ 9223372036854775807 := by unfold maxLen at hl; omega
  obtain ⟨a, ca, rfl, _, ha⟩ := hu
  obtain ⟨b, cb, rfl, _, hb⟩ := hv
  go_enter Try.func12, Try.ntmps12
  go_wp2
  go_loopw [5] (fun i wr => ∃ j : Nat, j ≤ l.length ∧ i = .int .i64 j ∧ ∃ n, wr = w.drewN n) (fun i _ => l.length - (intOf i).toNat)
  case atStart => exact ⟨0, Nat.zero_le _, rfl, 0, rfl⟩
  case round =>
    obtain ⟨j, hj, rfl, n, rfl⟩ := hrel
    by_cases hlt : j < l.length
    · rcases ha with ha | ⟨g, o, rfl, _, _, _, ha⟩
      · rw [ha] at hlt; simp at hlt
      rcases hb with hb | ⟨g', o', rfl, _, _, _, hb⟩
      · rw [hb] at hlt; simp at hlt
      have a1 := ha j hlt
      have b1 := hb j hlt
      generalize l[j] = T at *
      clear ha hb
      go_wp2
      go_quiet (fail)
      go_wp2
      exact ⟨⟨j + 1, by omega, by go_num, n + nq, rfl⟩, by simp [intOf]; omega⟩
    · go_wp2
      go_ret
      exact ⟨rfl, bel_drewN (Below.refl _ _) _⟩
set_option maxRecDepth 100000 in
set_option maxHeartbeats 1000000 in
theorem spoilT_any (v : Value) (l : List ByteArray) (w : World) (base : Nat) (hl : l.length ≤ 65536) (hz : ∀ t ∈ l, t.size ≤ 65536) (hv : w.ownsRow base 9 1 v l.length (txC l)) : Calls Try.prog 14 #[v] w fun e w' => e = .returned (.tuple #[]) ∧ Below base w w' := by
  have hv2 := hv.2
  rcases hv2 with ⟨rfl, h0⟩ | ⟨g, cap, cur, rfl, hg, hc, hcap, hmax, hcur, htk⟩
  · go_enter Try.func14, Try.ntmps14
    go_wp2
    go_loopw [2] (fun i wr => i = .int .i64 0 ∧ wr = w) (fun _ _ => 0)
    case atStart => exact ⟨rfl, rfl⟩
    case round =>
      obtain ⟨rfl, rfl⟩ := hrel
      go_wp2
      go_end0
      exact ⟨rfl, Below.refl _ _⟩
  · obtain ⟨_, hlt0, hin⟩ := ownsT_in hv
    have hfz := hv.frozenAt
    go_enter Try.func14, Try.ntmps14
    go_wp2
    go_loopw [2] (fun i wr => ∃ j : Nat, j ≤ l.length ∧ i = .int .i64 j ∧ Below base w wr ∧ (∀ k, k < l.length → ∃ x : ByteArray, (j ≤ k → x.size ≤ 65536) ∧ wr.cell? ⟨g, k, none⟩ = some (.string x)) ∧ (∀ k, wr.frozen? ⟨g, k, none⟩ = false)) (fun i _ => l.length - (intOf i).toNat)
    case atStart => exact ⟨0, Nat.zero_le _, rfl, Below.refl _ _, fun k hk => ⟨l[k], fun _ => hz _ (List.getElem_mem hk), by have := hin k hk; rwa [Nat.zero_add] at this⟩, hfz⟩
    case round =>
      obtain ⟨j, hj, rfl, hbel, hcell, hfr⟩ := hrel
      clear hfz hin
      by_cases hlt : j < l.length
      · obtain ⟨x, hx0, hx⟩ := hcell j hlt
        replace hx0 := hx0 (Nat.le_refl _)
        have hfj := hfr j
        have HC : Hid (∀ k, k < l.length → ∃ x : ByteArray, (j ≤ k → x.size ≤ 65536) ∧ wr.cell? ⟨g, k, none⟩ = some (.string x)) := hcell
        have HF : Hid (∀ k, wr.frozen? ⟨g, k, none⟩ = false) := hfr
        clear hcell hfr
        go_wp2
        refine ⟨⟨j + 1, by omega, by go_num, hbel.setCell hg _, fun k hk => ?_, fun k => by rw [World.frozen?_setCell]; exact HF.out k⟩, by simp [intOf]; omega⟩
        by_cases e : k = j
        · subst e
          exact ⟨_, fun h => by omega, World.cell?_setCell_same wr _ _ hx⟩
        · obtain ⟨y, hy0, hy⟩ := HC.out k hk
          exact ⟨y, fun h => hy0 (by omega), by rw [World.cell?_setCell_other wr _ _ _ (by intro hc; injection hc; omega)]; exact hy⟩
      · go_wp2
        go_end0
        exact ⟨rfl, hbel⟩
set_option maxRecDepth 100000 in
set_option maxHeartbeats 1000000 in
theorem copyT_any (v : Value) (l : List ByteArray) (w : World) (hl : (l.length + 2) * 16 ≤ 140737488355328) (hv : IsTx w v l) : Calls Try.prog 17 #[v] w fun e w' => ∃ u, e = .returned u ∧ w'.ownsRow w.heap.size 9 1 u l.length (txC l) ∧ Below w.heap.size w w' := by
  obtain ⟨i, hi, hz0, hz1, hz2⟩ := info_parts info_str
  obtain ⟨a, ca, rfl, h0, ha⟩ := hv
  have hown : ∀ w : World, (w.alloc (.cells #[] 9)).ownsRow w.heap.size 9 1 (.slice (some ⟨w.heap.size, 0, none⟩) 0 0) 0 [] := fun w => ⟨rfl, .inr ⟨_, _, _, rfl, Nat.le_refl _, heap_alloc_new w _, Nat.le_refl _, Nat.zero_le _, rfl, rfl⟩⟩
  have hbel : ∀ w : World, Below w.heap.size w (w.alloc (.cells #[] 9)) := fun w => (Below.refl _ w).alloc (Nat.le_refl _) _
  cases a with
  | none =>
    obtain rfl := h0 rfl
    obtain rfl : l = [] := by
      rcases ha with ha | ⟨_, _, ha, _⟩
      · exact ha
      · cases ha
    clear ha h0
    go_enter Try.func17, Try.ntmps17
    go_wp2_with (at_builtin; refine wpList_append_own_none rfl _ _ _ rfl w.heap.size 9 i 1 Try.underlying22 hi _ 0 _ rfl (hown w) rfl ?_)
    go_ret
    exact ⟨_, rfl, hown w, hbel w⟩
  | some ad =>
    have hnews : ∀ (w1 : World), Below w.heap.size w w1 → ∀ j u, (txC l)[j]? = some u → w1.cell? (ad.add j) = some u := by
      intro w1 hb j u hu
      have hj : j < l.length := by have := (List.getElem?_eq_some_iff.1 hu).1; rw [length_txC] at this; exact this
      rcases ha with ha | ⟨b, o, ha, _, _, hlt, hin⟩
      · rw [ha] at hj; simp at hj
      · obtain rfl := Option.some.inj ha
        rw [Go.WideShapes.add_plain, hb.cell (p := ⟨b, o + j, none⟩) hlt, hin j hj, ← txC_get l j hj]
        exact hu
    have hl1 : 0 + l.length ≤ maxLen := by unfold maxLen; omega
    clear ha h0
    go_enter Try.func17, Try.ntmps17
    go_wp2_with (at_builtin; refine wpList_append_own_at _ rfl _ _ _ rfl w.heap.size 9 i _ 1 16 Try.underlying22 hi hz0 hz1 hz2 rfl (by omega) _ 0 _ rfl (hown w) ad l.length ca (txC l) rfl (by rw [length_txC]; omega) (hnews _ (hbel w)) (txC_oneCell l) hl1 (by omega) (by simp) ?_; intro v' w1 hown1 hgrow _ _)
    go_ret
    rw [Nat.zero_add, List.nil_append] at hown1
    exact ⟨_, rfl, hown1, (hbel w).grown hgrow (by simp) (fun k hk => by obtain rfl := Option.some.inj hk; exact Nat.le_refl _)⟩
def roomS : ByteArray := ⟨#[126, 114, 111, 111, 109]⟩
def behindS : ByteArray := ⟨#[126, 98, 101, 104, 105, 110, 100]⟩
set_option maxRecDepth 100000 in
set_option maxHeartbeats 1000000 in
theorem lendT_any (v : Value) (l : List ByteArray) (w : World) (hl : (l.length + 2) * 16 ≤ 140737488355328) (hv : IsTx w v l) : Calls Try.prog 7 #[v] w fun e w' => ∃ u, e = .returned u ∧ LentTx w' w.heap.size u l roomS behindS ∧ Below w.heap.size w w' := by
  obtain ⟨i, hi, hz0, hz1, hz2⟩ := info_parts info_str
  have HC := hide (copyT_any v l w hl hv)
  have hl1 : l.length + 2 ≤ maxLen := by unfold maxLen; omega
  obtain ⟨a, ca, rfl, h0, ha⟩ := hv
  clear h0 ha
  go_enter Try.func7, Try.ntmps7
  go_wp2_with (first | (go_at_call 17; refine HC.out.mono ?_; rintro e w1 ⟨u, rfl, hown, hb1⟩; have s1 := hb1.size) | (at_builtin; refine wpList_append_lies _ rfl _ _ _ rfl w.heap.size 9 i _ 1 16 Try.underlying22 hi hz0 hz1 hz2 rfl (by omega) u l.length _ rfl (hown.alloc _) ⟨w1.heap.size, 0, none⟩ 2 2 _ rfl rfl (World.news_of_block (heap_alloc_new w1 _)) (txC_oneCell [roomS, behindS]) (by omega) hl1 hl (by simp; omega) _ rfl ?_; intro g cap w2 hown1 hgrow hat hlt1; have hcap := (owns_cap hown1).1; have hcap1 : l.length ≤ cap := by omega))
  go_ret
  obtain ⟨h1, h2, h3⟩ := ownsT_in (l := l ++ [roomS, behindS]) (by rw [txC_append]; exact hown1)
  obtain ⟨h4, h5, h6⟩ := owns_cap hown1
  exact ⟨_, rfl, ⟨g, cap, rfl, h6, h2, h4, h5, h3⟩, (hb1.alloc s1 _).grown hgrow (by simp; omega) (fun k hk => (hown.lt k hk).1)⟩
set_option maxRecDepth 100000 in
set_option maxHeartbeats 1000000 in
theorem keptT_yes (u v : Value) (l : List ByteArray) (w : World) (base : Nat) (hl : (l.length + 2) * 16 ≤ 140737488355328) (hu : LentTx w base u l roomS behindS) (hv : IsTx w v l) : Calls Try.prog 15 #[u, v] w fun e w' => e = .returned (.bool true) ∧ Below w.heap.size w w' := by
  have HS := hide (sameT_yes u v l w (by unfold maxLen; omega) hu.is hv)
  obtain ⟨g, cap, rfl, h1, h2, h3, h4, h5⟩ := hu
  have r1 := h5 l.length (by simp)
  have r2 := h5 (l.length + 1) (by simp)
  rw [Nat.zero_add] at r1 r2
  have e1 : (l ++ [roomS, behindS])[l.length]'(by simp) = roomS := by simp
  have e2 : (l ++ [roomS, behindS])[l.length + 1]'(by simp) = behindS := by simp
  rw [e1] at r1
  rw [e2] at r2
  have R : Hid (∀ w', Below w.heap.size w w' → w'.cell? ⟨g, l.length, none⟩ = some (.string ⟨#[126, 114, 111, 111, 109]⟩) ∧ w'.cell? ⟨g, l.length + 1, none⟩ = some (.string ⟨#[126, 98, 101, 104, 105, 110, 100]⟩)) := fun w' hb => ⟨by rw [hb.cell (p := ⟨g, l.length, none⟩) h2]; exact r1, by rw [hb.cell (p := ⟨g, l.length + 1, none⟩) h2]; exact r2⟩
  obtain ⟨a, ca, rfl, _, _⟩ := hv
  clear h5 e1 e2 r1 r2
  go_enter Try.func15, Try.ntmps15
  go_wp2_with (go_at_call 12; refine HS.out.mono ?_; rintro e w1 ⟨rfl, hb1⟩; obtain ⟨q1, q2⟩ := R.out _ hb1)
  go_ret
  exact ⟨rfl, hb1⟩
end Go.Proofs.Ytpoigakjhhkifaa.TxtHelp
