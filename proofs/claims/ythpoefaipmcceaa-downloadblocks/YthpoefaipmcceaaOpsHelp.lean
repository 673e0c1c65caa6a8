/- The contracts of the laws' helpers on rows of steps, of an error's number, and of the document's own words of a text. -/
import Derived.Test.YthpoefaipmcceaaOpsWords
import Derived.Test.YthpoefaipmcceaaNorRef
namespace Go.Proofs.Ythpoefaipmcceaa.OpsHelp
open Go.Proofs.Ythpoefaipmcceaa Go.RowKit Go.Proofs.Ythpoefaipmcceaa.Bytes Go.Proofs.Ythpoefaipmcceaa.NorWalk Go.Proofs.Ythpoefaipmcceaa.Ops Go.Proofs.Ythpoefaipmcceaa.OpsRow Go.Proofs.Ythpoefaipmcceaa.OpsWalk
open Go.Proofs.Ythpoefaipmcceaa.NorRef
theorem num_any (n : Int) (w : World) : Calls Try.prog 12 #[.int .i64 n] w fun e w' => e = .returned (.int .i64 n) ∧ w' = w := by
  go_enter Try.func12, Try.ntmps12
  go_wp2
  go_ret
  exact ⟨rfl, rfl⟩
set_option maxHeartbeats 1000000 in
theorem same_yes (u v : Value) (l : List FOp) (w : World) (hl : l.length ≤ 65536) (hu : IsOps w u l) (hv : IsOps w v l) : Calls Try.prog 30 #[u, v] w fun e w' => e = .returned (.bool true) ∧ Below w.heap.size w w' := by
  obtain ⟨a, ca, rfl, ha⟩ := hu
  obtain ⟨b, cb, rfl, hb⟩ := hv
  go_enter Try.func30, Try.ntmps30
  go_wp2
  go_loopw [5] (fun i wr => ∃ j : Nat, j ≤ l.length ∧ i = .int .i64 j ∧ ∃ n, wr = w.drewN n) (fun i _ => l.length - (intOf i).toNat)
  case atStart => exact ⟨0, Nat.zero_le _, rfl, 0, rfl⟩
  case round =>
    obtain ⟨j, hj, rfl, n, rfl⟩ := hrel
    by_cases hlt : j < l.length
    · rcases ha with ha | ⟨g, rfl, _, ha⟩
      · rw [ha] at hlt; simp at hlt
      rcases hb with hb | ⟨g', rfl, _, hb⟩
      · rw [hb] at hlt; simp at hlt
      have a1 := ha.er j hlt
      have a2 := ha.pl j hlt
      have a3 := ha.tx j hlt
      have b1 := hb.er j hlt
      have b2 := hb.pl j hlt
      have b3 := hb.tx j hlt
      generalize l[j].er = E at *
      generalize l[j].pl = A at *
      generalize l[j].tx = T at *
      clear ha hb
      go_wp2
      go_quiet (fail)
      go_wp2
      exact ⟨⟨j + 1, by omega, by go_num, n + nq, rfl⟩, by simp [intOf]; omega⟩
    · go_wp2
      go_ret
      exact ⟨rfl, bel_drewN (Below.refl _ _) _⟩
set_option maxHeartbeats 1000000 in
theorem spoil_any (v : Value) (l : List FOp) (w : World) (base : Nat) (hl : l.length ≤ 65536) (hv : w.ownsRow base 44 3 v l.length (flat l)) : Calls Try.prog 31 #[v] w fun e w' => e = .returned (.tuple #[]) ∧ Below base w w' := by
  have hv2 := hv.2
  rcases hv2 with ⟨rfl, h0⟩ | ⟨g, cap, cur, rfl, hg, hc, hcap, hmax, hcur, htk⟩
  · go_enter Try.func31, Try.ntmps31
    go_wp2
    go_loopw [2] (fun i wr => i = .int .i64 0 ∧ wr = w) (fun _ _ => 0)
    case atStart => exact ⟨rfl, rfl⟩
    case round =>
      obtain ⟨rfl, rfl⟩ := hrel
      go_wp2
      go_end0
      exact ⟨rfl, Below.refl _ _⟩
  · obtain ⟨_, hlt0, hin⟩ := owns_in hv
    have hfz := hv.frozenAt
    go_enter Try.func31, Try.ntmps31
    go_wp2
    go_loopw [2] (fun i wr => ∃ j : Nat, j ≤ l.length ∧ i = .int .i64 j ∧ Below base w wr ∧ (∀ k, k < l.length → ∃ x, wr.cell? ⟨g, k * 3 + 1, none⟩ = some (.int .i64 x)) ∧ (∀ k, wr.frozen? ⟨g, k, none⟩ = false)) (fun i _ => l.length - (intOf i).toNat)
    case atStart => exact ⟨0, Nat.zero_le _, rfl, Below.refl _ _, fun k hk => ⟨_, hin.pl k hk⟩, hfz⟩
    case round =>
      obtain ⟨j, hj, rfl, hbel, hcell, hfr⟩ := hrel
      clear hfz hin
      by_cases hlt : j < l.length
      · obtain ⟨x, hx⟩ := hcell j hlt
        have hfj := hfr (j * 3 + 1)
        have HC : Hid (∀ k, k < l.length → ∃ x, wr.cell? ⟨g, k * 3 + 1, none⟩ = some (.int .i64 x)) := hcell
        have HF : Hid (∀ k, wr.frozen? ⟨g, k, none⟩ = false) := hfr
        clear hcell hfr
        go_wp2
        refine ⟨⟨j + 1, by omega, by go_num, hbel.setCell hg _, fun k hk => ?_, fun k => by rw [World.frozen?_setCell]; exact HF.out k⟩, by simp [intOf]; omega⟩
        by_cases e : k = j
        · subst e
          exact ⟨_, World.cell?_setCell_same wr _ _ hx⟩
        · obtain ⟨y, hy⟩ := HC.out k hk
          exact ⟨y, by rw [World.cell?_setCell_other wr _ _ _ (by intro hc; injection hc; omega)]; exact hy⟩
      · go_wp2
        go_end0
        exact ⟨rfl, hbel⟩
theorem wordsRef_f {a : Int} {t : ByteArray} (h : wordsOk a t = false) : upToB a 0 768 = false ∨ (upToB a 0 768 = true ∧ 0 ≤ a ∧ a ≤ 768 ∧ (a % 4 != 0) = true) ∨ (upToB a 0 768 = true ∧ 0 ≤ a ∧ a ≤ 768 ∧ (a % 4 != 0) = false ∧ (768 : Int) - a < (t.size : Int)) := by
  unfold wordsOk at h
  have h' := of_decide_eq_false h
  unfold upToB
  by_cases h1 : 0 ≤ a ∧ a ≤ 768
  · rw [decide_eq_true h1]
    by_cases h2 : a % 4 = 0
    · exact .inr (.inr ⟨rfl, h1.1, h1.2, by rw [h2]; rfl, by omega⟩)
    · exact .inr (.inl ⟨rfl, h1.1, h1.2, bne_iff_ne.2 h2⟩)
  · rw [decide_eq_false h1]
    exact .inl rfl
set_option maxHeartbeats 400000 in
theorem refWords_no (a : Int) (t : ByteArray) (w : World) (h : wordsOk a t = false) :
    Calls Try.prog 29 #[.int .i64 a, .string t] w fun e w' => e = .returned (.tuple #[.slice none 0 0, .int .i64 300]) ∧ w' = w := by
  rcases wordsRef_f h with h1 | ⟨h1, h2, h3, h4⟩ | ⟨h1, h2, h3, h4, h5⟩
  all_goals
    go_enter Try.func29, Try.ntmps29
    go_wp2_with (go_at_call 36; refine (upTo_any _ _ _ _).mono ?_; rintro e w' ⟨rfl, rfl⟩)
    go_ret2
    exact ⟨rfl, rfl⟩
theorem word_of_full (t : ByteArray) (m j : Nat) (h : 4 * j + 4 ≤ t.size + m) : (t ++ ⟨(List.replicate m 255).toArray⟩).extract (4 * j) (4 * j + 4) = wordS t j := by
  apply ba_ext
  rw [list_extract, list_append, show 4 * j + 4 - 4 * j = 4 from by omega]
  exact word_of_filled t.data.toList m j (by rw [Nor.size_list]; exact h)
set_option maxRecDepth 100000 in
set_option maxHeartbeats 1000000 in
theorem refWords_yes (a : Int) (t : ByteArray) (w : World) (h : wordsOk a t = true) :
    Calls Try.prog 29 #[.int .i64 a, .string t] w fun e w' => ∃ v, e = .returned (.tuple #[v, .int .i64 0]) ∧ w'.ownsRow w.heap.size 44 3 v (wordsN t) (flat (wordsTo a t (wordsN t))) ∧ Below w.heap.size w w' := by
  obtain ⟨a1, a2, a3, a4⟩ := wordsOk_parts.1 h
  have a5 : t.size ≤ 768 := by omega
  have h1 : upToB a 0 768 = true := by unfold upToB; exact decide_eq_true ⟨a1, a2⟩
  have h2 : (a % 4 != 0) = false := by rw [a3]; rfl
  clear a3
  obtain ⟨i, hi, hz0, hz1, hz2⟩ := info_parts info_op
  obtain ⟨m, hm⟩ : ∃ m : Nat, m = (4 - t.size % 4) % 4 := ⟨_, rfl⟩
  have hm1 : (4 - (t.size : Int) % 4) % 4 = (m : Int) := by omega
  have hm2 : m ≤ 3 := by omega
  have hN4 : t.size + m = 4 * wordsN t := by unfold wordsN; omega
  have hn4 : wordsN t ≤ 192 := by unfold wordsN; omega
  have HM : Hid (m = (4 - t.size % 4) % 4) := hm
  clear hm
  have Hful := hide (fun w => full_any m w (by omega))
  have HW := hide (fun j => word_of_full t m j)
  have hR0 : (ByteArray.mk (List.replicate m (255 : UInt8)).toArray).size = m := by rw [size_mk, List.length_replicate]
  have hT : (t ++ ⟨(List.replicate m (255 : UInt8)).toArray⟩).size = 4 * wordsN t := by rw [ByteArray.size_append, hR0]; exact hN4
  obtain ⟨R, HR⟩ : ∃ R : ByteArray, Hid (R = ⟨(List.replicate m (255 : UInt8)).toArray⟩) := ⟨_, rfl⟩
  rw [← HR.out] at hT Hful HW
  have HT : Hid ((t ++ R).size = 4 * wordsN t) := hT
  have HN4 : Hid (t.size + m = 4 * wordsN t) := hN4
  have hT1 : (t ++ R).size ≤ 768 := by omega
  have hR : R.size ≤ 3 := by have e : R = _ := HR.out; rw [e, hR0]; exact hm2
  clear hR0
  clear hT hN4
  have hbd := build_at
  generalize hN : wordsN t = N at *
  clear hN
  go_enter Try.func29, Try.ntmps29
  go_wp2_with (first | (go_at_call 36; refine (upTo_any _ _ _ _).mono ?_; rintro e w' ⟨rfl, rfl⟩) | (go_at_call 32; refine (Hful.out _).mono ?_; rintro e w1 ⟨rfl, hb1⟩))
  generalize t ++ R = T at *
  go_loopw [7, 8] (fun s x wr => ∃ j : Nat, j ≤ N ∧ x = .int .i64 ((4 * j : Nat) : Int) ∧ wr.ownsRow w'.heap.size 44 3 s j (flat (wordsTo a t j)) ∧ Below w'.heap.size w' wr) (fun _ x _ => 4 * N - (intOf x).toNat)
  case atStart => exact ⟨0, Nat.zero_le _, rfl, owns_nil _ _ _, hb1⟩
  case round =>
    obtain ⟨j, hj, rfl, hown, hbel⟩ := hrel
    have hT := HT.out
    have hN4 := HN4.out
    by_cases hlt : j < N
    · have hT2 : 4 * j + 4 ≤ T.size := by omega
      have HX : Hid (T.extract (4 * j) (4 * j + 4) = wordS t j) := HW.out j (by omega)
      have s1 := hbel.size
      have b1 : j + 1 ≤ maxLen := by unfold maxLen; omega
      have b2 : (j + 1) * 32 ≤ 140737488355328 := by omega
      clear hT hN4
      go_wp2_with (at_builtin; refine wpList_append_lies _ rfl _ _ _ rfl w'.heap.size 44 i _ 3 32 Try.underlying22 hi hz0 hz1 hz2 rfl (by omega) u7 j _ rfl (hown.alloc _) ⟨wr.heap.size, 0, none⟩ 1 1 _ rfl rfl (World.news_of_block (heap_alloc_new wr _)) (flat_oneCell [⟨false, _, _⟩]) (by omega) b1 b2 (by simp; omega) _ rfl ?_; intro g cap w1 hown1 hgrow hat hlt1)
      refine ⟨⟨j + 1, by omega, by go_num, ?_, ?_⟩, by simp [intOf]; omega⟩
      · rw [wordsTo_succ, flat_append]
        rw [HX.out] at hown1
        exact hown1
      · exact (hbel.alloc s1 _).grown hgrow (by simp; omega) (fun k hk => (hown.lt k hk).1)
    · obtain rfl : j = N := by omega
      clear hN4
      go_wp2
      go_ret2
      exact ⟨_, rfl, hown, hbel⟩
theorem refWords_any (a : Int) (t : ByteArray) (w : World) :
    Calls Try.prog 29 #[.int .i64 a, .string t] w fun e w' => ∃ v, e = .returned (.tuple #[v, .int .i64 (errO (wordsOk a t))]) ∧ w'.ownsRow w.heap.size 44 3 v (wordsL a t).length (flat (wordsL a t)) ∧ Below w.heap.size w w' := by
  cases h : wordsOk a t with
  | false =>
    rw [wordsL_no h]
    refine (refWords_no a t w h).mono ?_
    rintro e w' ⟨rfl, rfl⟩
    exact ⟨_, rfl, owns_nil _ _ _, Below.refl _ _⟩
  | true =>
    rw [wordsL_ok h, length_wordsTo]
    exact refWords_yes a t w h
end Go.Proofs.Ythpoefaipmcceaa.OpsHelp
