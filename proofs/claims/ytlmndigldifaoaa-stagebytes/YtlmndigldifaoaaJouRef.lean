/- The contracts of the document's own journal (its records, the first blank place of a sector), and of the laws' helpers on rows of records. -/
import Derived.Test.YtlmndigldifaoaaJouWalk
import Derived.Test.YtlmndigldifaoaaNorRef
import Derived.Test.YtlmndigldifaoaaEntRef
import Derived.Laws.StructEq
namespace Go.Proofs.Ytlmndigldifaoaa.JouRef
open Go.Proofs.Ytlmndigldifaoaa Go.RowKit Go.Proofs.Ytlmndigldifaoaa.Bytes Go.Proofs.Ytlmndigldifaoaa.NorWalk Go.Proofs.Ytlmndigldifaoaa.NorRef Go.Proofs.Ytlmndigldifaoaa.Ent Go.Proofs.Ytlmndigldifaoaa.EntRow Go.Proofs.Ytlmndigldifaoaa.EntWalk Go.Proofs.Ytlmndigldifaoaa.EntRef Go.Proofs.Ytlmndigldifaoaa.Jou Go.Proofs.Ytlmndigldifaoaa.JouRow Go.Proofs.Ytlmndigldifaoaa.JouWalk

theorem numJ_any (n : Int) (w : World) : Calls Try.prog 13 #[.int .i64 n] w fun e w' => e = .returned (.int .i64 n) ∧ w' = w := by
  go_enter Try.func13, Try.ntmps13
  go_wp2
  go_ret
  exact ⟨rfl, rfl⟩
set_option maxRecDepth 100000 in
set_option maxHeartbeats 400000 in
theorem refScan_no (f : ByteArray) (w : World) (h : mayF f = false) : Calls Try.prog 17 #[.string f] w fun e w' => e = .returned (.tuple #[.slice none 0 0, .int .i64 500]) ∧ w' = w := by
  have h : mayB f = false := h
  go_enter Try.func17, Try.ntmps17
  go_wp2_with (first | (go_at_call 28; refine (flashMay_any _ _).mono ?_; rintro e w' ⟨rfl, rfl⟩))
  go_ret2
  exact ⟨rfl, rfl⟩
set_option maxRecDepth 100000 in
set_option maxHeartbeats 2000000 in
theorem refScan_yes (f : ByteArray) (w : World) (h : f.size = 768) : Calls Try.prog 17 #[.string f] w fun e w' => ∃ v, e = .returned (.tuple #[v, .int .i64 0]) ∧ w'.ownsRow w.heap.size 45 5 v (foundTo f 8).length (flatP (foundTo f 8)) ∧ Below w.heap.size w w' := by
  have hm : mayB f = true := mayF_t h
  have HF : Hid (f.size = 768) := h
  have hz1 : f.size ≤ 768 := by omega
  have hz2 : 768 ≤ f.size := by omega
  clear h
  obtain ⟨i, hi, hy0, hy1, hy2⟩ := info_parts info_pl
  have hbd := build_pl
  go_enter Try.func17, Try.ntmps17
  go_wp2_with (first | (go_at_call 28; refine (flashMay_any _ _).mono ?_; rintro e w' ⟨rfl, rfl⟩))
  go_loopw [4, 5] (fun s x wr => ∃ k : Nat, k ≤ 2 ∧ x = .int .i64 k ∧ wr.ownsRow w'.heap.size 45 5 s (foundTo f (4 * k)).length (flatP (foundTo f (4 * k))) ∧ Below w'.heap.size w' wr) (fun _ x _ => 2 - (intOf x).toNat)
  case atStart => exact ⟨0, Nat.zero_le _, rfl, ownsP_nil _ _ _, Below.refl _ _⟩
  case round =>
    obtain ⟨k, hk, rfl, hown0, hbel0⟩ := hrel
    by_cases hlt0 : k < 2
    · go_wp2
      rw [decide_eq_true (show (k : Int) < 2 by omega)]
      go_loopw [4, 6] (fun s x wr => ∃ j : Nat, 4 * k ≤ j ∧ j ≤ 4 * k + 4 ∧ x = .int .i64 ((24 * j : Nat) : Int) ∧ wr.ownsRow w'.heap.size 45 5 s (foundTo f j).length (flatP (foundTo f j)) ∧ Below w'.heap.size w' wr) (fun _ x _ => 24 * (4 * k + 4) - (intOf x).toNat)
      case atStart => exact ⟨4 * k, Nat.le_refl _, by omega, by go_num, hown0, hbel0⟩
      case round =>
        obtain ⟨j, hj0, hj, rfl, hown, hbel⟩ := hrel
        clear hown0 hbel0
        by_cases hlt : j < 4 * k + 4
        · have e0 : errE true = 0 := rfl
          have e1 : errE false = 400 := rfl
          have s1 := hbel.size
          have hlen := foundTo_len f j
          have hg0 : 24 * (j : Int) + 24 ≤ ((k : Int) + 1) * 96 := by omega
          have hz3 : 24 * j + 24 ≤ f.size := by omega
          have HR : Hid (recAt f j = ⟨24 * (j : Int), gq (slotS f j), gt (slotS f j), gz (slotS f j), gm (slotS f j)⟩) := rfl
          have HX : Hid (f.extract (24 * j) (24 * j + 24) = slotS f j) := rfl
          have HG := hide (fun w => refGet_any (slotS f j) w)
          cases hg : getOk (slotS f j) with
          | false =>
            have HS : Hid (foundTo f (j + 1) = foundTo f j) := foundTo_no f j hg
            rw [hg] at HG
            go_wp2_with (go_at_call 32; refine (HG.out _).mono ?_; rintro e w2 ⟨rfl, hb2⟩)
            have s2 := hb2.size
            refine ⟨⟨j + 1, by omega, by omega, by go_num, ?_, ?_⟩, by simp [intOf]; omega⟩
            · rw [HS.out]
              exact (OpsRow.owns_below hown hb2).alloc _
            · exact (thenB hbel hb2).alloc (Nat.le_trans s1 s2) _
          | true =>
            have HS : Hid (foundTo f (j + 1) = foundTo f j ++ [recAt f j]) := foundTo_yes f j hg
            rw [hg] at HG
            generalize hL : foundTo f j = L at *
            clear hL
            have b1 : L.length + 1 ≤ maxLen := by unfold maxLen; omega
            have b2 : (L.length + 1) * 40 ≤ 140737488355328 := by omega
            go_wp2_with (first | (go_at_call 32; refine (HG.out _).mono ?_; rintro e w2 ⟨rfl, hb2⟩; have s2 := hb2.size) | (at_builtin; refine wpList_append_lies _ rfl _ _ _ rfl w'.heap.size 45 i _ 5 40 Try.underlying41 hi hy0 hy1 hy2 rfl (by omega) u4 L.length _ rfl (((OpsRow.owns_below hown hb2).alloc _).alloc _) ⟨w2.heap.size + 1, 0, none⟩ 1 1 _ rfl rfl (World.news_of_block (new2 w2 _ _)) (flatP_oneCell [⟨_, _, _, _, _⟩]) (by omega) b1 b2 (by simp; omega) _ rfl ?_; intro g cap w3 hown1 hgrow hat hlt1))
            refine ⟨⟨j + 1, by omega, by omega, by go_num, ?_, ?_⟩, by simp [intOf]; omega⟩
            · rw [HS.out, flatP_append, List.length_append, HR.out]
              exact hown1
            · exact (((thenB hbel hb2).alloc (Nat.le_trans s1 s2) _).alloc (by simp; omega) _).grown hgrow (by simp; omega) (fun k hk => (hown.lt k hk).1)
        · have HJ : Hid (j = 4 * (k + 1)) := by show j = 4 * (k + 1); omega
          have hg0 : ¬ 24 * (j : Int) + 24 ≤ ((k : Int) + 1) * 96 := by omega
          have hj9 : j ≤ 12 := by omega
          clear hj hj0 hlt
          go_wp2
          exact ⟨⟨k + 1, by omega, by go_num, by rw [← HJ.out]; exact hown, hbel⟩, by simp [intOf]; omega⟩
    · obtain rfl : k = 2 := by omega
      go_wp2
      go_ret2
      exact ⟨_, rfl, hown0, hbel0⟩
theorem refScan_any (f : ByteArray) (w : World) : Calls Try.prog 17 #[.string f] w fun e w' => ∃ v, e = .returned (.tuple #[v, .int .i64 (errJ (mayF f))]) ∧ w'.ownsRow w.heap.size 45 5 v (scanL f).length (flatP (scanL f)) ∧ Below w.heap.size w w' := by
  by_cases h : f.size = 768
  · rw [mayF_t h, scan_ok h]
    exact refScan_yes f w h
  · rw [mayF_f h, Jou.scan_no h]
    refine (refScan_no f w (mayF_f h)).mono ?_
    rintro e w' ⟨rfl, rfl⟩
    exact ⟨_, rfl, ownsP_nil _ _ _, Below.refl _ _⟩

theorem freeRef_f {f : ByteArray} {s : Int} (h : freeOk f s = false) : mayB f = false ∨ mayB f = true ∧ upToB s 0 1 = false := by
  unfold freeOk at h
  have h' := of_decide_eq_false h
  unfold mayB upToB
  by_cases h1 : f.size = 768
  · rw [decide_eq_true h1]
    exact .inr ⟨rfl, decide_eq_false (fun g => h' ⟨h1, g⟩)⟩
  · rw [decide_eq_false h1]
    exact .inl rfl
set_option maxRecDepth 100000 in
set_option maxHeartbeats 400000 in
theorem refFree_no (f : ByteArray) (s : Int) (w : World) (h : freeOk f s = false) : Calls Try.prog 43 #[.string f, .int .i64 s] w fun e w' => e = .returned (.tuple #[.int .i64 0, .bool false, .int .i64 500]) ∧ w' = w := by
  rcases freeRef_f h with h1 | ⟨h1, h2⟩
  all_goals
    go_enter Try.func43, Try.ntmps43
    go_wp2_with (first | (go_at_call 28; refine (flashMay_any _ _).mono ?_; rintro e w' ⟨rfl, rfl⟩) | (go_at_call 29; refine (upTo_any _ _ _ _).mono ?_; rintro e w' ⟨rfl, rfl⟩))
    go_ret3
    exact ⟨rfl, rfl⟩
theorem full24_any (w : World) : Calls Try.prog 33 #[.int .i64 24] w fun e w' => e = .returned (.string full24) ∧ Below w.heap.size w w' := full_any 24 w (by omega)
set_option maxRecDepth 100000 in
set_option maxHeartbeats 1000000 in
theorem refFree_yes (f : ByteArray) (s : Nat) (w : World) (h : freeOk f (s : Int) = true) : Calls Try.prog 43 #[.string f, .int .i64 (s : Int)] w fun e w' => e = .returned (.tuple #[.int .i64 (freeAt f s), .bool (freeIs f s), .int .i64 0]) ∧ Below w.heap.size w w' := by
  obtain ⟨hf, _, hs⟩ := freeOk_parts.1 h
  have hm : mayB f = true := mayF_t hf
  have hu : upToB (s : Int) 0 1 = true := by unfold upToB; exact decide_eq_true (by omega)
  have HF : Hid (f.size = 768) := hf
  have HO : Hid (freeOk f (s : Int) = true) := h
  have hz1 : f.size ≤ 768 := by omega
  have hz2 : 768 ≤ f.size := by omega
  have hs1 : s ≤ 1 := by omega
  clear hf h hs
  go_enter Try.func43, Try.ntmps43
  go_wp2_with (first | (go_at_call 28; refine (flashMay_any _ _).mono ?_; rintro e w' ⟨rfl, rfl⟩) | (go_at_call 29; refine (upTo_any _ _ _ _).mono ?_; rintro e w' ⟨rfl, rfl⟩))
  go_loopw [7] (fun x wr => ∃ j p : Nat, 4 * s ≤ j ∧ j ≤ 4 * s + 4 ∧ Hid (p = 24 * j) ∧ x = .int .i64 (p : Int) ∧ Hid (∀ i, 4 * s ≤ i → i < j → blankP f i = false) ∧ Below w'.heap.size w' wr) (fun x _ => 24 * (4 * s + 4) - (intOf x).toNat)
  case atStart => exact ⟨4 * s, 96 * s, Nat.le_refl _, by omega, by show 96 * s = 24 * (4 * s); omega, by go_num, fun i h1 h2 => by omega, Below.refl _ _⟩
  case round =>
    obtain ⟨j, p, hj0, hj, HP, rfl, HR, hbel⟩ := hrel
    have hp := HP.out
    by_cases hlt : j < 4 * s + 4
    · obtain ⟨q, hq⟩ : ∃ q : Nat, q = p + 24 := ⟨_, rfl⟩
      have hq1 : (p : Int) + 24 = (q : Int) := by omega
      have hg0 : (q : Int) ≤ ((s : Int) + 1) * 96 := by omega
      have hq2 : IntKind.i64.wrap (q : Int) = (q : Int) := by rw [IntKind.wrap_i64]; omega
      have hq3 : (q : Int) ≤ (f.size : Int) := by omega
      have hq4 : (p : Int) ≤ (q : Int) := by omega
      have hq5 : (0 : Int) ≤ (p : Int) := by omega
      have hq6 : q ≤ 192 := by omega
      have HX : Hid (f.extract p q = slotS f j) := by subst hq hp; rfl
      have HQ : Hid (q = 24 * (j + 1)) := by show q = 24 * (j + 1); omega
      have hB := hbel
      clear hbel hp hq
      cases hb : blankP f j with
      | false =>
        have hne : ((f.extract p q).toList == full24.toList) = false := text_ne (fun e => by rw [blankP_t (HX.out.symm.trans e)] at hb; cases hb)
        have HR2 : Hid (∀ i, 4 * s ≤ i → i < j + 1 → blankP f i = false) := fun i h1 h2 => by
          by_cases e : i = j
          · subst e; exact hb
          · exact HR.out i h1 (by omega)
        clear HR hb
        go_wp2
        go_region_held3 (fun _ => True) (trivial) ((go_at_call 33; refine (full24_any _).mono ?_; rintro e w2 ⟨rfl, hb⟩; replace hB := thenD hb hB rfl rfl rfl rfl; clear hb))
        go_wp2
        exact ⟨⟨j + 1, q, by omega, by omega, HQ, rfl, HR2, hB⟩, by simp [intOf]; have := HQ.out; have := HP.out; omega⟩
      | true =>
        have heq : f.extract p q = full24 := HX.out.trans (of_decide_eq_true hb)
        have HA := hide (free_at HO.out HR.out hb hj0 hlt)
        clear HR hb
        go_wp2
        go_region_held3 (fun _ => True) (trivial) ((go_at_call 33; refine (full24_any _).mono ?_; rintro e w2 ⟨rfl, hb⟩; replace hB := thenD hb hB rfl rfl rfl rfl; clear hb))
        go_wp2
        go_ret3
        exact ⟨ret3 (by have := HP.out; rw [HA.out.1]; omega) HA.out.2.symm rfl, hB⟩
    · have HJ : Hid (j = 4 * s + 4) := by show j = 4 * s + 4; omega
      have HA := hide (free_none HO.out (by rw [← HJ.out]; exact HR.out))
      have hg0 : ¬ (p : Int) + 24 ≤ ((s : Int) + 1) * 96 := by omega
      have hp9 : p ≤ 192 := by omega
      clear HR hp hj hj0 hlt
      go_wp2
      go_ret3
      exact ⟨ret3 HA.out.1.symm HA.out.2.symm rfl, hbel⟩
theorem refFree_any (f : ByteArray) (s : Int) (w : World) : Calls Try.prog 43 #[.string f, .int .i64 s] w fun e w' => e = .returned (.tuple #[.int .i64 (freeAt f s), .bool (freeIs f s), .int .i64 (errJ (freeOk f s))]) ∧ Below w.heap.size w w' := by
  cases h : freeOk f s with
  | false =>
    rw [(free_no h).1, (free_no h).2]
    refine (refFree_no f s w h).mono ?_
    rintro e w' ⟨rfl, rfl⟩
    exact ⟨rfl, Below.refl _ _⟩
  | true =>
    obtain ⟨_, h1, h2⟩ := freeOk_parts.1 h
    obtain ⟨n, rfl⟩ := Int.eq_ofNat_of_zero_le h1
    exact refFree_yes f n w h

end Go.Proofs.Ytlmndigldifaoaa.JouRef
