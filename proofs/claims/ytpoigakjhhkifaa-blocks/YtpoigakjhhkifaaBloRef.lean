/- The contracts of the document's own pieces of a text, and of its text of some pieces. -/
import Derived.Test.YtpoigakjhhkifaaBloWalk
namespace Go.Proofs.Ytpoigakjhhkifaa.BloRef
open Go.Proofs.Ytpoigakjhhkifaa Go.RowKit Go.Proofs.Ytpoigakjhhkifaa.Bytes Go.Proofs.Ytpoigakjhhkifaa.NorWalk Go.Proofs.Ytpoigakjhhkifaa.NorRef Go.Proofs.Ytpoigakjhhkifaa.TxtRow Go.Proofs.Ytpoigakjhhkifaa.TxtHelp Go.Proofs.Ytpoigakjhhkifaa.BloWalk Go.Proofs.Ytpoigakjhhkifaa.Blo

theorem split_up (s : ByteArray) : upToB (s.size : Int) 1 288 = splitOk s := by
  unfold upToB splitOk
  rw [decide_eq_decide]
  omega
set_option maxRecDepth 100000 in
set_option maxHeartbeats 400000 in
theorem refSplit_no (s : ByteArray) (w : World) (h : splitOk s = false) : Calls Try.prog 9 #[.string s] w fun e w' => e = .returned (.tuple #[.slice none 0 0, .int .i64 1000]) ∧ w' = w := by
  have h1 : upToB (s.size : Int) 1 288 = false := (split_up s).trans h
  clear h
  go_enter Try.func9, Try.ntmps9
  go_wp2_with (first | (go_at_call 19; refine (upTo_any _ _ _ _).mono ?_; rintro e w' ⟨rfl, rfl⟩))
  go_ret2
  exact ⟨rfl, rfl⟩
set_option maxRecDepth 100000 in
set_option maxHeartbeats 1000000 in
theorem refSplit_yes (s : ByteArray) (w : World) (h : splitOk s = true) : Calls Try.prog 9 #[.string s] w fun e w' => ∃ v, e = .returned (.tuple #[v, .int .i64 0]) ∧ w'.ownsRow w.heap.size 9 1 v (nP s) (txC (piecesTo s (nP s))) ∧ Below w.heap.size w w' := by
  have h1 : upToB (s.size : Int) 1 288 = true := (split_up s).trans h
  obtain ⟨hs1, hs2⟩ := of_decide_eq_true h
  obtain ⟨i, hi, hz0, hz1, hz2⟩ := info_parts info_str
  have HN : Hid (nP s = (s.size + 31) / 32) := rfl
  clear h
  generalize hN : nP s = N at *
  clear hN
  go_enter Try.func9, Try.ntmps9
  go_wp2_with (first | (go_at_call 19; refine (upTo_any _ _ _ _).mono ?_; rintro e w' ⟨rfl, rfl⟩))
  go_loopw [4, 5] (fun v x wr => ∃ j p : Nat, j ≤ N ∧ Hid (p = 32 * j) ∧ x = .int .i64 (p : Int) ∧ wr.ownsRow w'.heap.size 9 1 v j (txC (piecesTo s j)) ∧ Below w'.heap.size w' wr) (fun _ x _ => 32 * N - (intOf x).toNat)
  case atStart => exact ⟨0, 0, Nat.zero_le _, rfl, rfl, ownsT_nil _ _ _, Below.refl _ _⟩
  case round =>
    obtain ⟨j, p, hj, HP, rfl, hown, hbel⟩ := hrel
    have hN := HN.out
    have hp := HP.out
    by_cases hlt : j < N
    · have hpl : (p : Int) < (s.size : Int) := by omega
      obtain ⟨q, hq⟩ : ∃ q : Nat, q = min (32 * j + 32) s.size := ⟨_, rfl⟩
      have hmn := fun ts t w => run_min2 (P := Try.prog) ((p : Int) + 32) (s.size : Int) (q : Int) (by omega) ts t w
      have hq1 : q ≤ s.size := by omega
      have hq2 : p ≤ q := by omega
      have hp9 : p ≤ 288 := by omega
      have HX : Hid (s.extract p q = pieceS s j) := by subst hq hp; rfl
      have s1 := hbel.size
      have b1 : j + 1 ≤ maxLen := by unfold maxLen; omega
      have b2 : (j + 1) * 16 ≤ 140737488355328 := by omega
      have HQ : Hid (p + 32 = 32 * (j + 1)) := by show p + 32 = 32 * (j + 1); omega
      clear hq hp hN
      go_wp2_with (at_builtin; refine wpList_append_lies _ rfl _ _ _ rfl w'.heap.size 9 i _ 1 16 Try.underlying22 hi hz0 hz1 hz2 rfl (by omega) u4 j _ rfl (hown.alloc _) ⟨wr.heap.size, 0, none⟩ 1 1 _ rfl rfl (World.news_of_block (heap_alloc_new wr _)) (txC_oneCell [_]) (by omega) b1 b2 (by simp; omega) _ rfl ?_; intro g cap w2 hown1 hgrow hat hlt1)
      refine ⟨⟨j + 1, p + 32, by omega, HQ, by go_num, ?_, ?_⟩, by simp [intOf]; have := HQ.out; omega⟩
      · rw [piecesTo_succ, txC_append, ← HX.out]
        exact hown1
      · exact (hbel.alloc s1 _).grown hgrow (by simp; omega) (fun k hk => (hown.lt k hk).1)
    · obtain rfl : j = N := by omega
      have hpl : ¬ (p : Int) < (s.size : Int) := by omega
      clear hN hp hj hlt
      go_wp2
      go_ret2
      exact ⟨_, rfl, hown, hbel⟩
theorem refSplit_any (s : ByteArray) (w : World) : Calls Try.prog 9 #[.string s] w fun e w' => ∃ v, e = .returned (.tuple #[v, .int .i64 (errB (splitOk s))]) ∧ w'.ownsRow w.heap.size 9 1 v (splitL s).length (txC (splitL s)) ∧ Below w.heap.size w w' := by
  cases h : splitOk s with
  | false =>
    rw [splitL_no h]
    refine (refSplit_no s w h).mono ?_
    rintro e w' ⟨rfl, rfl⟩
    exact ⟨_, rfl, ownsT_nil _ _ _, Below.refl _ _⟩
  | true =>
    rw [splitL_ok h, length_piecesTo]
    exact refSplit_yes s w h

set_option maxRecDepth 100000 in
set_option maxHeartbeats 2000000 in
theorem refJoin_any (v : Value) (l : List ByteArray) (w : World) (hl : l.length ≤ maxLen) (hz : ∀ t ∈ l, t.size ≤ maxLen) (hv : IsTx w v l) : Calls Try.prog 11 #[v] w fun e w' => e = .returned (.tuple #[.string (joinS l), .int .i64 (errB (joinB l))]) ∧ Below w.heap.size w w' := by
  have hl2 : l.length ≤ 9223372036854775807 := by unfold maxLen at hl; omega
  have HZ : Hid (∀ t ∈ l, t.size ≤ maxLen) := hz
  obtain ⟨a, cap, rfl, _, ha⟩ := hv
  have HA : Hid (l = [] ∨ ∃ b o, a = some ⟨b, o, none⟩ ∧ l.length ≤ cap ∧ cap ≤ maxLen ∧ b < w.heap.size ∧ TxIn w b o l) := ha
  clear ha hz
  go_enter Try.func11, Try.ntmps11
  go_wp2
  go_loopw [4, 5] (fun t x wr => ∃ j : Nat, j ≤ l.length ∧ x = .int .i64 (j : Int) ∧ t = .string (joinTo l j) ∧ Hid (Blo.Good l j) ∧ (joinTo l j).size ≤ 320 ∧ wr = w) (fun _ x _ => l.length - (intOf x).toNat)
  case atStart => exact ⟨0, Nat.zero_le _, rfl, rfl, Good.zero l, Nat.zero_le _, rfl⟩
  case round =>
    obtain ⟨j, hj, rfl, rfl, HG, hbig, rfl⟩ := hrel
    by_cases hlt : j < l.length
    · obtain ⟨b, o, rfl, hcap, hmax, hb, hin⟩ : ∃ b o, a = some ⟨b, o, none⟩ ∧ l.length ≤ cap ∧ cap ≤ maxLen ∧ b < wr.heap.size ∧ TxIn wr b o l := by
        rcases HA.out with ha | ha
        · rw [ha] at hlt; simp at hlt
        · exact ha
      have hc := hin j hlt
      have hzz : l[j].size ≤ maxLen := HZ.out _ (List.getElem_mem hlt)
      unfold maxLen at hzz
      have hsz := size_good HG.out hlt
      have HS : Hid (joinTo l (j + 1) = joinTo l j ++ l[j]) := joinTo_succ l j hlt
      clear hin HA
      by_cases g1 : (32 : Int) < (l[j].size : Int)
      · have HB : Hid (joinB l = false) := not_good hlt (fun g => by omega)
        have HJ := hide (joinS_f HB.out)
        generalize l[j] = T at *
        clear hsz
        go_wp2
        go_ret2
        exact ⟨by rw [HJ.out, HB.out]; rfl, Below.refl _ _⟩
      by_cases g2 : (l[j].size : Int) < 1
      · have HB : Hid (joinB l = false) := not_good hlt (fun g => by omega)
        have HJ := hide (joinS_f HB.out)
        generalize l[j] = T at *
        clear hsz
        go_wp2
        go_ret2
        exact ⟨by rw [HJ.out, HB.out]; rfl, Below.refl _ _⟩
      by_cases g3 : (j : Int) < (l.length : Int) - 1
      · by_cases g4 : (l[j].size : Int) < 32
        · have HB : Hid (joinB l = false) := not_good hlt (fun g => by have := g.2.2 (by omega); omega)
          have HJ := hide (joinS_f HB.out)
          generalize l[j] = T at *
          clear hsz
          go_wp2
          go_ret2
          exact ⟨by rw [HJ.out, HB.out]; rfl, Below.refl _ _⟩
        · have HG2 := hide (HG.out.succ hlt (by omega) (by omega) (fun _ => by omega))
          by_cases g5 : (288 : Int) < ((joinTo l j).size : Int)
          · have HB : Hid (joinB l = false) := not_many (.inr (by omega))
            have HJ := hide (joinS_f HB.out)
            generalize l[j] = T at *
            clear hsz HG2
            go_wp2
            go_ret2
            exact ⟨by rw [HJ.out, HB.out]; rfl, Below.refl _ _⟩
          · generalize l[j] = T at *
            clear hsz
            go_wp2
            exact ⟨⟨j + 1, by omega, by go_num, by rw [HS.out], HG2, (by rw [HS.out, ByteArray.size_append]; omega), (by first | rfl | trivial)⟩, by simp [intOf]; omega⟩
      · have HG2 := hide (HG.out.succ hlt (by omega) (by omega) (fun _ => by omega))
        by_cases g5 : (288 : Int) < ((joinTo l j).size : Int)
        · have HB : Hid (joinB l = false) := not_many (.inr (by omega))
          have HJ := hide (joinS_f HB.out)
          generalize l[j] = T at *
          clear hsz HG2
          go_wp2
          go_ret2
          exact ⟨by rw [HJ.out, HB.out]; rfl, Below.refl _ _⟩
        · generalize l[j] = T at *
          clear hsz
          go_wp2
          exact ⟨⟨j + 1, by omega, by go_num, by rw [HS.out], HG2, (by rw [HS.out, ByteArray.size_append]; omega), (by first | rfl | trivial)⟩, by simp [intOf]; omega⟩
    · obtain rfl : j = l.length := by omega
      have hend := ok_end HG.out
      cases hB : joinB l with
      | true =>
        have h1 : upToB ((joinTo l l.length).size : Int) 1 288 = true := by
          have := hend.1 (joinB_of hB)
          unfold upToB
          exact decide_eq_true (by omega)
        have HJ := hide (joinS_t hB)
        have HB : Hid (joinB l = true) := hB
        clear hend hB
        go_wp2_with (first | (go_at_call 19; refine (upTo_any _ _ _ _).mono ?_; rintro e w' ⟨rfl, rfl⟩))
        go_ret2
        exact ⟨by rw [HJ.out, HB.out]; rfl, Below.refl _ _⟩
      | false =>
        have h1 : upToB ((joinTo l l.length).size : Int) 1 288 = false := by
          have := (not_congr hend).1 (joinB_not hB)
          unfold upToB
          exact decide_eq_false (by omega)
        have HJ := hide (joinS_f hB)
        have HB : Hid (joinB l = false) := hB
        clear hend hB
        go_wp2_with (first | (go_at_call 19; refine (upTo_any _ _ _ _).mono ?_; rintro e w' ⟨rfl, rfl⟩))
        go_ret2
        exact ⟨by rw [HJ.out, HB.out]; rfl, Below.refl _ _⟩
end Go.Proofs.Ytpoigakjhhkifaa.BloRef
