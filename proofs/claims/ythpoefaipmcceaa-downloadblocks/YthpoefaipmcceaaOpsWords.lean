/- The contract of ops.Words: a text in words, each a step, in a row of steps that the call has made. -/
import Derived.Test.YthpoefaipmcceaaOpsWalk
namespace Go.Proofs.Ythpoefaipmcceaa.OpsWords
open Go.Proofs.Ythpoefaipmcceaa Go.RowKit Go.Proofs.Ythpoefaipmcceaa.Bytes Go.Proofs.Ythpoefaipmcceaa.NorWalk Go.Proofs.Ythpoefaipmcceaa.Ops Go.Proofs.Ythpoefaipmcceaa.OpsRow Go.Proofs.Ythpoefaipmcceaa.OpsWalk

theorem wordsOk_f {a : Int} {t : ByteArray} (h : wordsOk a t = false) : begB a 4 = false ∧ ¬ a = 768 ∨ (0 ≤ a ∧ a ≤ 768 ∧ (begB a 4 = true ∨ begB a 4 = false ∧ a = 768) ∧ (768 : Int) - a < (t.size : Int)) := by
  unfold wordsOk at h
  have h' := of_decide_eq_false h
  unfold begB
  by_cases h1 : 0 ≤ a ∧ a < 768 ∧ a % 4 = 0
  · rw [decide_eq_true h1]
    exact .inr ⟨by omega, by omega, .inl rfl, by omega⟩
  · rw [decide_eq_false h1]
    by_cases h2 : a = 768
    · exact .inr ⟨by omega, by omega, .inr ⟨rfl, h2⟩, by omega⟩
    · exact .inl ⟨rfl, h2⟩
set_option maxHeartbeats 400000 in
theorem words_no (a : Int) (t : ByteArray) (w : World) (h : wordsOk a t = false) :
    Calls Try.prog 62 #[.int .i64 a, .string t] w fun e w' => e = .returned (.tuple #[.slice none 0 0, .int .i64 300]) ∧ w' = w := by
  rcases wordsOk_f h with ⟨h1, h2⟩ | ⟨h1, h2, h3 | ⟨h3, h4⟩, h5⟩
  all_goals
    go_enter Try.func62, Try.ntmps62
    go_wp2_with (go_at_call 71; refine (begins_any _ _ _ (by omega)).mono ?_; rintro e w' ⟨rfl, rfl⟩)
    go_ret2
    exact ⟨rfl, rfl⟩

set_option maxRecDepth 100000 in
set_option maxHeartbeats 1000000 in
theorem words_yes (a : Int) (t : ByteArray) (w : World) (h : wordsOk a t = true) :
    Calls Try.prog 62 #[.int .i64 a, .string t] w fun e w' => ∃ v, e = .returned (.tuple #[v, .int .i64 0]) ∧ w'.ownsRow w.heap.size 44 3 v (wordsN t) (flat (wordsTo a t (wordsN t))) ∧ Below w.heap.size w w' := by
  obtain ⟨a1, a2, a3, a4⟩ := wordsOk_parts.1 h
  have a5 : t.size ≤ 768 := by omega
  have hb : begB a 4 = true ∨ begB a 4 = false ∧ a = 768 := by
    unfold begB
    by_cases h2 : a = 768
    · exact .inr ⟨decide_eq_false (by omega), h2⟩
    · exact .inl (decide_eq_true (by omega))
  obtain ⟨i, hi, hz0, hz1, hz2⟩ := info_parts info_op
  have hnn : ((t.size : Int) + 4 - 1) / 4 = ((wordsN t : Nat) : Int) := by unfold wordsN; omega
  have hn4 : wordsN t ≤ 192 := by unfold wordsN; omega
  have HN : Hid (∀ j, j < wordsN t → 4 * j < t.size) := by intro j hj; unfold wordsN at hj; omega
  generalize hN : wordsN t = N at *
  clear hN
  have hbd := build_at
  have hb : begB a 4 = true ∨ begB a 4 = false ∧ (a != 768) = false := by
    rcases hb with hb | ⟨hb, h2⟩
    · exact .inl hb
    · exact .inr ⟨hb, by rw [h2]; rfl⟩
  rcases hb with hb | ⟨hb, hb0⟩
  all_goals
    go_enter Try.func62, Try.ntmps62
    go_wp2_with (go_at_call 71; refine (begins_any _ _ _ (by omega)).mono ?_; rintro e w' ⟨rfl, rfl⟩)
    rw [hnn]
    clear hnn
    go_loopw [6, 26] (fun s x wr => ∃ j : Nat, j ≤ N ∧ x = .int .i64 j ∧ wr.ownsRow w'.heap.size 44 3 s j (flat (wordsTo a t j)) ∧ Below w'.heap.size w' wr) (fun _ x _ => N - (intOf x).toNat)
    case atStart => exact ⟨0, Nat.zero_le _, rfl, owns_nil _ _ _, Below.refl _ _⟩
    case round =>
      obtain ⟨j, hj, rfl, hown, hbel⟩ := hrel
      by_cases hlt : j < N
      · have h4 := HN.out j hlt
        have hj1 : (j : Int) * 4 = ((4 * j : Nat) : Int) := by omega
        have hj2 : 4 * j ≤ t.size := by omega
        have hj3 : 4 * j ≤ 768 := by omega
        have s1 := hbel.size
        have b1 : j + 1 ≤ maxLen := by unfold maxLen; omega
        have b2 : (j + 1) * 32 ≤ 140737488355328 := by omega
        go_wp2_with (first | (go_at_call 74; refine (first_any _ _).mono ?_; rintro e w2 ⟨rfl, hb2⟩; have s2 := hb2.size) | (at_builtin; refine wpList_append_lies _ rfl _ _ _ rfl w'.heap.size 44 i _ 3 32 Try.underlying22 hi hz0 hz1 hz2 rfl (by omega) u6 j _ rfl ((owns_below hown hb2).alloc _) ⟨w2.heap.size, 0, none⟩ 1 1 _ rfl rfl (World.news_of_block (heap_alloc_new w2 _)) (flat_oneCell [⟨false, _, _⟩]) (by omega) b1 b2 (by simp; omega) _ rfl ?_; intro g cap w1 hown1 hgrow hat hlt1))
        refine ⟨⟨j + 1, by omega, by go_num, ?_, ?_⟩, by simp [intOf]; omega⟩
        · rw [wordsTo_succ, flat_append]
          rw [word_tail] at hown1
          exact hown1
        · exact ((thenB hbel hb2).alloc (Nat.le_trans s1 s2) _).grown hgrow (by simp; omega) (fun k hk => (hown.lt k hk).1)
      · obtain rfl : j = N := by omega
        go_wp2
        go_ret2
        exact ⟨_, rfl, hown, hbel⟩
theorem words_any (a : Int) (t : ByteArray) (w : World) :
    Calls Try.prog 62 #[.int .i64 a, .string t] w fun e w' => ∃ v, e = .returned (.tuple #[v, .int .i64 (errO (wordsOk a t))]) ∧ w'.ownsRow w.heap.size 44 3 v (wordsL a t).length (flat (wordsL a t)) ∧ Below w.heap.size w w' := by
  cases h : wordsOk a t with
  | false =>
    rw [wordsL_no h]
    refine (words_no a t w h).mono ?_
    rintro e w' ⟨rfl, rfl⟩
    exact ⟨_, rfl, owns_nil _ _ _, Below.refl _ _⟩
  | true =>
    rw [wordsL_ok h, length_wordsTo]
    exact words_yes a t w h
end Go.Proofs.Ythpoefaipmcceaa.OpsWords
