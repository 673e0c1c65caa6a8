/- The contracts of the document's own journal (its records, the first blank place of a sector), and of the laws' helpers on rows of records. -/
import Derived.Test.YtmlfkbkpkgaefaaGreatDoorBagJou
import Derived.Test.YtmlfkbkpkgaefaaGreatDoorBagNor
import Derived.Test.YtmlfkbkpkgaefaaGreatDoorEntRef
import Derived.Laws.StructEq
import Derived.Test.YtmlfkbkpkgaefaaGreatDoorBagCrc
import Derived.Test.YtmlfkbkpkgaefaaGreatDoorBagOps
import Derived.BigQuiet
namespace Go.Proofs.YtmlfkbkpkgaefaaGreatDoor.JouRef
open Go.Proofs.YtmlfkbkpkgaefaaGreatDoor Go.RowKit Go.Proofs.YtmlfkbkpkgaefaaGreatDoor.Bytes Go.Proofs.YtmlfkbkpkgaefaaGreatDoor.NorWalk Go.Proofs.YtmlfkbkpkgaefaaGreatDoor.NorRef Go.Proofs.YtmlfkbkpkgaefaaGreatDoor.Ent Go.Proofs.YtmlfkbkpkgaefaaGreatDoor.EntRow Go.Proofs.YtmlfkbkpkgaefaaGreatDoor.EntWalk Go.Proofs.YtmlfkbkpkgaefaaGreatDoor.EntRef Go.Proofs.YtmlfkbkpkgaefaaGreatDoor.Jou Go.Proofs.YtmlfkbkpkgaefaaGreatDoor.JouRow Go.Proofs.YtmlfkbkpkgaefaaGreatDoor.JouWalk

theorem numJ_any (n : Int) (w : World) : Calls Tryz.prog 11 #[.int .i64 n] w fun e w' => e = .returned (.int .i64 n) ∧ w' = w := by
  go_enter Tryz.func11, Tryz.ntmps11
  go_wp2
  go_ret
  exact ⟨rfl, rfl⟩
set_option maxRecDepth 100000 in
set_option maxHeartbeats 400000 in
theorem refScan_no (f : ByteArray) (w : World) (h : mayF f = false) : Calls Tryz.prog 73 #[.string f] w fun e w' => e = .returned (.tuple #[.slice none 0 0, .int .i64 500]) ∧ w' = w := by
  have h : mayB f = false := h
  go_enter Tryz.func73, Tryz.ntmps73
  go_wp2_with (first | (go_at_call 62; refine (flashMay_any _ _).mono ?_; rintro e w' ⟨rfl, rfl⟩))
  go_ret2
  exact ⟨rfl, rfl⟩
set_option maxRecDepth 100000 in
set_option maxHeartbeats 2000000 in
theorem refScan_yes (f : ByteArray) (w : World) (h : f.size = 768) : Calls Tryz.prog 73 #[.string f] w fun e w' => ∃ v, e = .returned (.tuple #[v, .int .i64 0]) ∧ w'.ownsRow w.heap.size 96 5 v (foundTo f 8).length (flatP (foundTo f 8)) ∧ Below w.heap.size w w' := by
  have hm : mayB f = true := mayF_t h
  have HF : Hid (f.size = 768) := h
  have hz1 : f.size ≤ 768 := by omega
  have hz2 : 768 ≤ f.size := by omega
  clear h
  obtain ⟨i, hi, hy0, hy1, hy2⟩ := info_parts info_pl
  have hbd := build_pl
  go_enter Tryz.func73, Tryz.ntmps73
  go_wp2_with (first | (go_at_call 62; refine (flashMay_any _ _).mono ?_; rintro e w' ⟨rfl, rfl⟩))
  go_loopw [4, 5] (fun s x wr => ∃ k : Nat, k ≤ 2 ∧ x = .int .i64 k ∧ wr.ownsRow w'.heap.size 96 5 s (foundTo f (4 * k)).length (flatP (foundTo f (4 * k))) ∧ Below w'.heap.size w' wr) (fun _ x _ => 2 - (intOf x).toNat)
  case atStart => exact ⟨0, Nat.zero_le _, rfl, ownsP_nil _ _ _, Below.refl _ _⟩
  case round =>
    obtain ⟨k, hk, rfl, hown0, hbel0⟩ := hrel
    by_cases hlt0 : k < 2
    · go_wp2
      rw [decide_eq_true (show (k : Int) < 2 by omega)]
      go_loopw [4, 6] (fun s x wr => ∃ j : Nat, 4 * k ≤ j ∧ j ≤ 4 * k + 4 ∧ x = .int .i64 ((24 * j : Nat) : Int) ∧ wr.ownsRow w'.heap.size 96 5 s (foundTo f j).length (flatP (foundTo f j)) ∧ Below w'.heap.size w' wr) (fun _ x _ => 24 * (4 * k + 4) - (intOf x).toNat)
      case atStart => exact ⟨4 * k, Nat.le_refl _, by omega, by go_num, hown0, hbel0⟩
      case round =>
        obtain ⟨j, hj0, hj, rfl, hown, hbel⟩ := hrel
        clear hown0 hbel0
        by_cases hlt : j < 4 * k + 4
        · have e0 : errE true = 0 := rfl
          have e1 : errE false = 400 := rfl
          have s1 := hbel.size
          have hlen := foundTo_len f j
          have hg0 : 24 * (j : Int) + 24 ≤ ((k : Int) + 1) * 96 := by omega
          have hz3 : 24 * j + 24 ≤ f.size := by omega
          have HR : Hid (recAt f j = ⟨24 * (j : Int), gq (slotS f j), gt (slotS f j), gz (slotS f j), gm (slotS f j)⟩) := rfl
          have HX : Hid (f.extract (24 * j) (24 * j + 24) = slotS f j) := rfl
          have HG := hide (fun w => refGet_any (slotS f j) w)
          cases hg : getOk (slotS f j) with
          | false =>
            have HS : Hid (foundTo f (j + 1) = foundTo f j) := foundTo_no f j hg
            rw [hg] at HG
            go_wp2_with (go_at_call 93; refine (HG.out _).mono ?_; rintro e w2 ⟨rfl, hb2⟩)
            have s2 := hb2.size
            refine ⟨⟨j + 1, by omega, by omega, by go_num, ?_, ?_⟩, by simp [intOf]; omega⟩
            · rw [HS.out]
              exact (OpsRow.owns_below hown hb2).alloc _
            · exact (thenB hbel hb2).alloc (Nat.le_trans s1 s2) _
          | true =>
            have HS : Hid (foundTo f (j + 1) = foundTo f j ++ [recAt f j]) := foundTo_yes f j hg
            rw [hg] at HG
            generalize hL : foundTo f j = L at *
            clear hL
            have b1 : L.length + 1 ≤ maxLen := by unfold maxLen; omega
            have b2 : (L.length + 1) * 40 ≤ 140737488355328 := by omega
            go_wp2_with (first | (go_at_call 93; refine (HG.out _).mono ?_; rintro e w2 ⟨rfl, hb2⟩; have s2 := hb2.size) | (at_builtin; refine wpList_append_lies _ rfl _ _ _ rfl w'.heap.size 96 i _ 5 40 Tryz.underlying118 hi hy0 hy1 hy2 rfl (by omega) u4 L.length _ rfl (((OpsRow.owns_below hown hb2).alloc _).alloc _) ⟨w2.heap.size + 1, 0, none⟩ 1 1 _ rfl rfl (World.news_of_block (new2 w2 _ _)) (flatP_oneCell [⟨_, _, _, _, _⟩]) (by omega) b1 b2 (by simp; omega) _ rfl ?_; intro g cap w3 hown1 hgrow hat hlt1))
            refine ⟨⟨j + 1, by omega, by omega, by go_num, ?_, ?_⟩, by simp [intOf]; omega⟩
            · rw [HS.out, flatP_append, List.length_append, HR.out]
              exact hown1
            · exact (((thenB hbel hb2).alloc (Nat.le_trans s1 s2) _).alloc (by simp; omega) _).grown hgrow (by simp; omega) (fun k hk => (hown.lt k hk).1)
        · have HJ : Hid (j = 4 * (k + 1)) := by show j = 4 * (k + 1); omega
          have hg0 : ¬ 24 * (j : Int) + 24 ≤ ((k : Int) + 1) * 96 := by omega
          have hj9 : j ≤ 12 := by omega
          clear hj hj0 hlt
          go_wp2
          exact ⟨⟨k + 1, by omega, by go_num, by rw [← HJ.out]; exact hown, hbel⟩, by simp [intOf]; omega⟩
    · obtain rfl : k = 2 := by omega
      go_wp2
      go_ret2
      exact ⟨_, rfl, hown0, hbel0⟩
theorem refScan_any (f : ByteArray) (w : World) : Calls Tryz.prog 73 #[.string f] w fun e w' => ∃ v, e = .returned (.tuple #[v, .int .i64 (errJ (mayF f))]) ∧ w'.ownsRow w.heap.size 96 5 v (scanL f).length (flatP (scanL f)) ∧ Below w.heap.size w w' := by
  by_cases h : f.size = 768
  · rw [mayF_t h, scan_ok h]
    exact refScan_yes f w h
  · rw [mayF_f h, Jou.scan_no h]
    refine (refScan_no f w (mayF_f h)).mono ?_
    rintro e w' ⟨rfl, rfl⟩
    exact ⟨_, rfl, ownsP_nil _ _ _, Below.refl _ _⟩

theorem freeRef_f {f : ByteArray} {s : Int} (h : freeOk f s = false) : mayB f = false ∨ mayB f = true ∧ upToB s 0 1 = false := by
  unfold freeOk at h
  have h' := of_decide_eq_false h
  unfold mayB upToB
  by_cases h1 : f.size = 768
  · rw [decide_eq_true h1]
    exact .inr ⟨rfl, decide_eq_false (fun g => h' ⟨h1, g⟩)⟩
  · rw [decide_eq_false h1]
    exact .inl rfl
set_option maxRecDepth 100000 in
set_option maxHeartbeats 400000 in
theorem refFree_no (f : ByteArray) (s : Int) (w : World) (h : freeOk f s = false) : Calls Tryz.prog 72 #[.string f, .int .i64 s] w fun e w' => e = .returned (.tuple #[.int .i64 0, .bool false, .int .i64 500]) ∧ w' = w := by
  rcases freeRef_f h with h1 | ⟨h1, h2⟩
  all_goals
    go_enter Tryz.func72, Tryz.ntmps72
    go_wp2_with (first | (go_at_call 62; refine (flashMay_any _ _).mono ?_; rintro e w' ⟨rfl, rfl⟩) | (go_at_call 39; refine (upTo_any _ _ _ _).mono ?_; rintro e w' ⟨rfl, rfl⟩))
    go_ret3
    exact ⟨rfl, rfl⟩
theorem full24_any (w : World) : Calls Tryz.prog 40 #[.int .i64 24] w fun e w' => e = .returned (.string full24) ∧ Below w.heap.size w w' := full_any 24 w (by omega)
set_option maxRecDepth 100000 in
set_option maxHeartbeats 1000000 in
theorem refFree_yes (f : ByteArray) (s : Nat) (w : World) (h : freeOk f (s : Int) = true) : Calls Tryz.prog 72 #[.string f, .int .i64 (s : Int)] w fun e w' => e = .returned (.tuple #[.int .i64 (freeAt f s), .bool (freeIs f s), .int .i64 0]) ∧ Below w.heap.size w w' := by
  obtain ⟨hf, _, hs⟩ := freeOk_parts.1 h
  have hm : mayB f = true := mayF_t hf
  have hu : upToB (s : Int) 0 1 = true := by unfold upToB; exact decide_eq_true (by omega)
  have HF : Hid (f.size = 768) := hf
  have HO : Hid (freeOk f (s : Int) = true) := h
  have hz1 : f.size ≤ 768 := by omega
  have hz2 : 768 ≤ f.size := by omega
  have hs1 : s ≤ 1 := by omega
  clear hf h hs
  go_enter Tryz.func72, Tryz.ntmps72
  go_wp2_with (first | (go_at_call 62; refine (flashMay_any _ _).mono ?_; rintro e w' ⟨rfl, rfl⟩) | (go_at_call 39; refine (upTo_any _ _ _ _).mono ?_; rintro e w' ⟨rfl, rfl⟩))
  go_loopw [7] (fun x wr => ∃ j p : Nat, 4 * s ≤ j ∧ j ≤ 4 * s + 4 ∧ Hid (p = 24 * j) ∧ x = .int .i64 (p : Int) ∧ Hid (∀ i, 4 * s ≤ i → i < j → blankP f i = false) ∧ Below w'.heap.size w' wr) (fun x _ => 24 * (4 * s + 4) - (intOf x).toNat)
  case atStart => exact ⟨4 * s, 96 * s, Nat.le_refl _, by omega, by show 96 * s = 24 * (4 * s); omega, by go_num, fun i h1 h2 => by omega, Below.refl _ _⟩
  case round =>
    obtain ⟨j, p, hj0, hj, HP, rfl, HR, hbel⟩ := hrel
    have hp := HP.out
    by_cases hlt : j < 4 * s + 4
    · obtain ⟨q, hq⟩ : ∃ q : Nat, q = p + 24 := ⟨_, rfl⟩
      have hq1 : (p : Int) + 24 = (q : Int) := by omega
      have hg0 : (q : Int) ≤ ((s : Int) + 1) * 96 := by omega
      have hq2 : IntKind.i64.wrap (q : Int) = (q : Int) := by rw [IntKind.wrap_i64]; omega
      have hq3 : (q : Int) ≤ (f.size : Int) := by omega
      have hq4 : (p : Int) ≤ (q : Int) := by omega
      have hq5 : (0 : Int) ≤ (p : Int) := by omega
      have hq6 : q ≤ 192 := by omega
      have HX : Hid (f.extract p q = slotS f j) := by subst hq hp; rfl
      have HQ : Hid (q = 24 * (j + 1)) := by show q = 24 * (j + 1); omega
      have hB := hbel
      clear hbel hp hq
      cases hb : blankP f j with
      | false =>
        have hne : ((f.extract p q).toList == full24.toList) = false := text_ne (fun e => by rw [blankP_t (HX.out.symm.trans e)] at hb; cases hb)
        have HR2 : Hid (∀ i, 4 * s ≤ i → i < j + 1 → blankP f i = false) := fun i h1 h2 => by
          by_cases e : i = j
          · subst e; exact hb
          · exact HR.out i h1 (by omega)
        clear HR hb
        go_wp2
        go_region_held3 (fun _ => True) (trivial) ((go_at_call 40; refine (full24_any _).mono ?_; rintro e w2 ⟨rfl, hb⟩; replace hB := thenD hb hB rfl rfl rfl rfl; clear hb))
        go_wp2
        exact ⟨⟨j + 1, q, by omega, by omega, HQ, rfl, HR2, hB⟩, by simp [intOf]; have := HQ.out; have := HP.out; omega⟩
      | true =>
        have heq : f.extract p q = full24 := HX.out.trans (of_decide_eq_true hb)
        have HA := hide (free_at HO.out HR.out hb hj0 hlt)
        clear HR hb
        go_wp2
        go_region_held3 (fun _ => True) (trivial) ((go_at_call 40; refine (full24_any _).mono ?_; rintro e w2 ⟨rfl, hb⟩; replace hB := thenD hb hB rfl rfl rfl rfl; clear hb))
        go_wp2
        go_ret3
        exact ⟨ret3 (by have := HP.out; rw [HA.out.1]; omega) HA.out.2.symm rfl, hB⟩
    · have HJ : Hid (j = 4 * s + 4) := by show j = 4 * s + 4; omega
      have HA := hide (free_none HO.out (by rw [← HJ.out]; exact HR.out))
      have hg0 : ¬ (p : Int) + 24 ≤ ((s : Int) + 1) * 96 := by omega
      have hp9 : p ≤ 192 := by omega
      clear HR hp hj hj0 hlt
      go_wp2
      go_ret3
      exact ⟨ret3 HA.out.1.symm HA.out.2.symm rfl, hbel⟩
theorem refFree_any (f : ByteArray) (s : Int) (w : World) : Calls Tryz.prog 72 #[.string f, .int .i64 s] w fun e w' => e = .returned (.tuple #[.int .i64 (freeAt f s), .bool (freeIs f s), .int .i64 (errJ (freeOk f s))]) ∧ Below w.heap.size w w' := by
  cases h : freeOk f s with
  | false =>
    rw [(free_no h).1, (free_no h).2]
    refine (refFree_no f s w h).mono ?_
    rintro e w' ⟨rfl, rfl⟩
    exact ⟨rfl, Below.refl _ _⟩
  | true =>
    obtain ⟨_, h1, h2⟩ := freeOk_parts.1 h
    obtain ⟨n, rfl⟩ := Int.eq_ofNat_of_zero_le h1
    exact refFree_yes f n w h

end Go.Proofs.YtmlfkbkpkgaefaaGreatDoor.JouRef

/- The contracts of the document's own images, the active one, the next number, where the next record goes, a staged image's record. -/
namespace Go.Proofs.YtmlfkbkpkgaefaaGreatDoor.ActRef
open Go.Proofs.YtmlfkbkpkgaefaaGreatDoor Go.RowKit Go.Proofs.YtmlfkbkpkgaefaaGreatDoor.Bytes Go.Proofs.YtmlfkbkpkgaefaaGreatDoor.NorWalk Go.Proofs.YtmlfkbkpkgaefaaGreatDoor.NorRef Go.Proofs.YtmlfkbkpkgaefaaGreatDoor.Ent Go.Proofs.YtmlfkbkpkgaefaaGreatDoor.EntRow Go.Proofs.YtmlfkbkpkgaefaaGreatDoor.EntWalk Go.Proofs.YtmlfkbkpkgaefaaGreatDoor.EntRef Go.Proofs.YtmlfkbkpkgaefaaGreatDoor.Jou Go.Proofs.YtmlfkbkpkgaefaaGreatDoor.JouRow Go.Proofs.YtmlfkbkpkgaefaaGreatDoor.JouWalk Go.Proofs.YtmlfkbkpkgaefaaGreatDoor.JouRef Go.Proofs.YtmlfkbkpkgaefaaGreatDoor.Ops Go.Proofs.YtmlfkbkpkgaefaaGreatDoor.Act

theorem ret_ii {a a' b b' : Int} (h1 : a = a') (h2 : b = b') : Ending.returned (.tuple #[.int .i64 a, .int .i64 b]) = .returned (.tuple #[.int .i64 a', .int .i64 b']) := by rw [h1, h2]
theorem ret_bi {a a' : Bool} {b b' : Int} (h1 : a = a') (h2 : b = b') : Ending.returned (.tuple #[.bool a, .int .i64 b]) = .returned (.tuple #[.bool a', .int .i64 b']) := by rw [h1, h2]
theorem base_up (t : Int) : upToB t 0 1 = baseOk t := rfl
set_option maxRecDepth 100000 in
set_option maxHeartbeats 400000 in
theorem refBase_any (t : Int) (w : World) : Calls Tryz.prog 65 #[.int .i64 t] w fun e w' => e = .returned (.tuple #[.int .i64 (baseI t), .int .i64 (errI (baseOk t))]) ∧ w' = w := by
  cases h : baseOk t with
  | false =>
    have hu : upToB t 0 1 = false := h
    have HB : Hid (baseI t = 0) := by unfold baseI; rw [h]; rfl
    clear h
    go_enter Tryz.func65, Tryz.ntmps65
    go_wp2_with (first | (go_at_call 39; refine (upTo_any _ _ _ _).mono ?_; rintro e w' ⟨rfl, rfl⟩))
    go_ret2
    exact ⟨ret_ii HB.out.symm rfl, rfl⟩
  | true =>
    have hu : upToB t 0 1 = true := h
    obtain ⟨h1, h2⟩ := baseOk_parts.1 h
    have HB : Hid (baseI t = 192 + 288 * t) := by show baseI t = _; unfold baseI; rw [if_pos h]
    clear h
    go_enter Tryz.func65, Tryz.ntmps65
    go_wp2_with (first | (go_at_call 39; refine (upTo_any _ _ _ _).mono ?_; rintro e w' ⟨rfl, rfl⟩))
    go_ret2
    exact ⟨ret_ii (by rw [HB.out]; omega) rfl, rfl⟩
theorem refBase_nat (t p : Nat) (w : World) (ht : t ≤ 1) (hp : p = 192 + 288 * t) : Calls Tryz.prog 65 #[.int .i64 (t : Int)] w fun e w' => e = .returned (.tuple #[.int .i64 (p : Int), .int .i64 0]) ∧ w' = w := by
  have h := refBase_any (t : Int) w
  have h1 : baseOk (t : Int) = true := baseOk_parts.2 ⟨by omega, by omega⟩
  have h2 : baseI (t : Int) = (p : Int) := by unfold baseI; rw [if_pos h1]; omega
  rw [h1, h2] at h
  exact h
theorem imgOk_f {f : ByteArray} {q t z m : Int} (h : imgOk f q t z m = false) : mayB f = false ∨ mayB f = true ∧ recMay q t z m = false := by
  unfold imgOk at h
  cases h1 : mayF f with
  | false => exact .inl h1
  | true => rw [h1, Bool.true_and] at h; exact .inr ⟨h1, h⟩
set_option maxRecDepth 100000 in
set_option maxHeartbeats 400000 in
theorem refImage_no (f : ByteArray) (q t z m : Int) (w : World) (h : imgOk f q t z m = false) : Calls Tryz.prog 49 #[.string f, .agg #[.int .i64 q, .int .i64 t, .int .i64 z, .int .i64 m]] w fun e w' => e = .returned (.tuple #[.string ⟨#[]⟩, .int .i64 600]) ∧ Below w.heap.size w w' := by
  have hB := (Below.refl w.heap.size w).alloc (Nat.le_refl _) (.cells #[.int .i64 q, .int .i64 t, .int .i64 z, .int .i64 m] 88)
  have hX := boxM w (.int .i64 q) (.int .i64 t) (.int .i64 z) (.int .i64 m) 88
  rcases imgOk_f h with h1 | ⟨h1, h2⟩
  all_goals
    go_enter Tryz.func49, Tryz.ntmps49
    go_wp2_with (first | (go_at_call 62; refine (flashMay_any _ _).mono ?_; rintro e w' ⟨rfl, rfl⟩) | (go_at_call 75; refine (refRec_any _ _ _ _ _).mono ?_; rintro e w' ⟨rfl, hb⟩; replace hB := hB.trans (hb.mono hB.size); replace hX := boxB hX hb; clear hb))
    go_ret2
    exact ⟨rfl, hB⟩
set_option maxRecDepth 100000 in
set_option maxHeartbeats 400000 in
theorem refImage_yes (f : ByteArray) (q : Int) (t z : Nat) (m : Int) (w : World) (h : imgOk f q t z m = true) : Calls Tryz.prog 49 #[.string f, .agg #[.int .i64 q, .int .i64 (t : Int), .int .i64 (z : Int), .int .i64 m]] w fun e w' => e = .returned (.tuple #[.string (imgS f q t z m), .int .i64 0]) ∧ Below w.heap.size w w' := by
  have hB := (Below.refl w.heap.size w).alloc (Nat.le_refl _) (.cells #[.int .i64 q, .int .i64 (t : Int), .int .i64 (z : Int), .int .i64 m] 88)
  have hX := boxM w (.int .i64 q) (.int .i64 (t : Int)) (.int .i64 (z : Int)) (.int .i64 m) 88
  obtain ⟨hf, hr⟩ := imgOk_parts.1 h
  obtain ⟨_, _, h1, h2, h3, h4, _⟩ := recMay_parts.1 hr
  have hm : mayB f = true := mayF_t hf
  obtain ⟨p, hp⟩ : ∃ p : Nat, p = 192 + 288 * t := ⟨_, rfl⟩
  have hp1 : p + z ≤ f.size := by omega
  have hp2 : f.size ≤ 768 := by omega
  have HX : Hid (imgS f q t z m = f.extract p (p + z)) := by show _ = _; rw [imgS_ok h, hp]; unfold cutI; rw [Int.toNat_natCast, Int.toNat_natCast]
  have HB := hide (fun w => refBase_nat t p w (by omega) hp)
  clear h hf hp h1 h2 h3 h4
  go_enter Tryz.func49, Tryz.ntmps49
  go_wp2_with (first | (first | (go_at_call 62; refine (flashMay_any _ _).mono ?_; rintro e w' ⟨rfl, rfl⟩) | (go_at_call 75; refine (refRec_any _ _ _ _ _).mono ?_; rintro e w' ⟨rfl, hb⟩; replace hB := hB.trans (hb.mono hB.size); replace hX := boxB hX hb; clear hb)) | (go_at_call 65; refine (HB.out _).mono ?_; rintro e w' ⟨rfl, rfl⟩))
  go_ret2
  exact ⟨ret_text HX.out.symm rfl, hB⟩
theorem refImage_any (f : ByteArray) (q t z m : Int) (w : World) : Calls Tryz.prog 49 #[.string f, .agg #[.int .i64 q, .int .i64 t, .int .i64 z, .int .i64 m]] w fun e w' => e = .returned (.tuple #[.string (imgS f q t z m), .int .i64 (errI (imgOk f q t z m))]) ∧ Below w.heap.size w w' := by
  cases h : imgOk f q t z m with
  | false => rw [imgS_no h]; exact refImage_no f q t z m w h
  | true =>
    obtain ⟨_, hr⟩ := imgOk_parts.1 h
    obtain ⟨_, _, h1, h2, h3, h4, _⟩ := recMay_parts.1 hr
    obtain ⟨a, rfl⟩ := Int.eq_ofNat_of_zero_le h1
    obtain ⟨b, rfl⟩ := Int.eq_ofNat_of_zero_le (show 0 ≤ z by omega)
    exact refImage_yes f q a b m w h
set_option maxRecDepth 100000 in
set_option maxHeartbeats 400000 in
theorem refGood_any (f : ByteArray) (q t z m : Int) (w : World) : Calls Tryz.prog 74 #[.string f, .agg #[.int .i64 q, .int .i64 t, .int .i64 z, .int .i64 m]] w fun e w' => e = .returned (.tuple #[.bool (goodB f q t z m), .int .i64 (errI (imgOk f q t z m))]) ∧ Below w.heap.size w w' := by
  have hB := (Below.refl w.heap.size w).alloc (Nat.le_refl _) (.cells #[.int .i64 q, .int .i64 t, .int .i64 z, .int .i64 m] 88)
  have hX := boxM w (.int .i64 q) (.int .i64 t) (.int .i64 z) (.int .i64 m) 88
  have HI := hide (fun w => refImage_any f q t z m w)
  have hsz := size_imgS f q t z m
  have HC := hide (fun w => CrcAwake.ref_any (imgS f q t z m) w (by omega))
  cases h : imgOk f q t z m with
  | false =>
    have HG : Hid (goodB f q t z m = false) := by unfold goodB; rw [h]; rfl
    rw [h] at HI
    clear h
    generalize imgS f q t z m = S at *
    have e0 : errI false = 600 := rfl
    go_enter Tryz.func74, Tryz.ntmps74
    go_wp2_with (go_at_call 49; refine (HI.out _).mono ?_; rintro e w' ⟨rfl, hb⟩; replace hB := hB.trans (hb.mono hB.size); replace hX := boxB hX hb; clear hb)
    go_quiet ((go_at_call 70; exact Calls.quiet_of_same (HC.out _)))
    go_wp2
    go_ret2
    exact ⟨ret_bi HG.out.symm rfl, bel_drewN hB _⟩
  | true =>
    have HG : Hid (goodB f q t z m = decide (((Crc.sum (imgS f q t z m).data.toList : Nat) : Int) = m)) := by unfold goodB sumI; rw [h, imgS_ok h]; rfl
    rw [h] at HI
    clear h
    generalize imgS f q t z m = S at *
    generalize Crc.sum S.data.toList = C at *
    have e0 : errI true = 0 := rfl
    go_enter Tryz.func74, Tryz.ntmps74
    go_wp2_with (go_at_call 49; refine (HI.out _).mono ?_; rintro e w' ⟨rfl, hb⟩; replace hB := hB.trans (hb.mono hB.size); replace hX := boxB hX hb; clear hb)
    go_quiet ((go_at_call 70; exact Calls.quiet_of_same (HC.out _)))
    go_wp2
    go_ret2
    exact ⟨ret_bi HG.out.symm rfl, bel_drewN hB _⟩
end Go.Proofs.YtmlfkbkpkgaefaaGreatDoor.ActRef

/- The contracts of the document's own next number and of the active one. -/
namespace Go.Proofs.YtmlfkbkpkgaefaaGreatDoor.ActNext
open Go.Proofs.YtmlfkbkpkgaefaaGreatDoor Go.RowKit Go.Proofs.YtmlfkbkpkgaefaaGreatDoor.Bytes Go.Proofs.YtmlfkbkpkgaefaaGreatDoor.NorWalk Go.Proofs.YtmlfkbkpkgaefaaGreatDoor.NorRef Go.Proofs.YtmlfkbkpkgaefaaGreatDoor.Ent Go.Proofs.YtmlfkbkpkgaefaaGreatDoor.EntRow Go.Proofs.YtmlfkbkpkgaefaaGreatDoor.EntWalk Go.Proofs.YtmlfkbkpkgaefaaGreatDoor.EntRef Go.Proofs.YtmlfkbkpkgaefaaGreatDoor.Jou Go.Proofs.YtmlfkbkpkgaefaaGreatDoor.JouRow Go.Proofs.YtmlfkbkpkgaefaaGreatDoor.JouWalk Go.Proofs.YtmlfkbkpkgaefaaGreatDoor.JouRef Go.Proofs.YtmlfkbkpkgaefaaGreatDoor.Ops Go.Proofs.YtmlfkbkpkgaefaaGreatDoor.Act Go.Proofs.YtmlfkbkpkgaefaaGreatDoor.ActRef

theorem run_maxI {P : Program} (a b k : Int) (h : k = max a b) (ts : Array TypeId) (t : TypeId) (w : World) : (Builtin.max_ ts t #[.int .i64 a, .int .i64 b]).run P w = .ok (.int .i64 k) w := by
  simp [Builtin.max_, Builtin.max2]
  subst h
  repeat split
  all_goals omega
set_option maxRecDepth 100000 in
set_option maxHeartbeats 400000 in
theorem refNext_no (f : ByteArray) (w : World) (h : mayF f = false) : Calls Tryz.prog 69 #[.string f] w fun e w' => e = .returned (.tuple #[.int .i64 0, .int .i64 800]) ∧ w' = w := by
  have HS := hide (fun w => refScan_no f w h)
  clear h
  go_enter Tryz.func69, Tryz.ntmps69
  go_wp2_with (go_at_call 73; refine (HS.out _).mono ?_; rintro e w' ⟨rfl, rfl⟩)
  go_ret2
  exact ⟨rfl, rfl⟩
set_option maxRecDepth 100000 in
set_option maxHeartbeats 1000000 in
theorem refNext_yes (f : ByteArray) (w : World) (h : mayF f = true) : Calls Tryz.prog 69 #[.string f] w fun e w' => e = .returned (.tuple #[.int .i64 (nextI f), .int .i64 (errX f)]) ∧ Below w.heap.size w w' := by
  have HS := hide (fun w => refScan_any f w)
  rw [h] at HS
  have e0 : errJ true = 0 := rfl
  have hlen := scan_len f
  have HB := hide (scan_seq f)
  have HN : Hid (∀ x : Int, x = topI f → (x = 1048576 ∧ nextI f = 0 ∧ errX f = 801) ∨ (¬ x = 1048576 ∧ x < 1048576 ∧ nextI f = x + 1 ∧ errX f = 0)) := fun x hx => by
    subst hx
    have := topI_bound f
    by_cases g : topI f < 1048576
    · exact .inr ⟨by omega, g, next_yes h g⟩
    · exact .inl ⟨by omega, next_full h g⟩
  have HT : Hid (topI f = topOf (scanL f)) := rfl
  clear h
  generalize scanL f = l at *
  go_enter Tryz.func69, Tryz.ntmps69
  go_wp2_with (go_at_call 73; refine (HS.out _).mono ?_; rintro e w1 ⟨v, rfl, hown, hB⟩)
  obtain ⟨a, cap, rfl, hin⟩ := ownsP_is hown
  clear hown HS
  go_loopw [6, 7] (fun x y wr => ∃ (t : Int) (n : Nat), n ≤ l.length ∧ x = .int .i64 t ∧ y = .int .i64 n ∧ Hid (t = topOf (l.take n)) ∧ wr = w1) (fun _ y _ => l.length - (intOf y).toNat)
  case atStart => exact ⟨0, 0, Nat.zero_le _, rfl, rfl, rfl, rfl⟩
  case round =>
    obtain ⟨t, n, hn, rfl, rfl, HX, rfl⟩ := hrel
    have hb : 0 ≤ t ∧ t ≤ 1048576 := by rw [HX.out]; exact topOf_bound _ (fun p hp => HB.out p (List.mem_of_mem_take hp))
    obtain ⟨hb1, hb2⟩ := hb
    by_cases hlt : n < l.length
    · rcases hin with hin | ⟨g, rfl, _, hin⟩
      · rw [hin] at hlt; simp at hlt
      have c1 := hin.pq n hlt
      obtain ⟨k, hk⟩ : ∃ k : Int, k = max t l[n].pq := ⟨_, rfl⟩
      have HX2 : Hid (k = topOf (l.take (n + 1))) := by show k = _; rw [topOf_take l n hlt, ← HX.out, hk]
      have hmx := run_maxI (P := Tryz.prog) t l[n].pq k hk
      clear hk hin
      generalize l[n].pq = Q at *
      go_wp2
      exact ⟨⟨k, n + 1, by omega, rfl, by go_num, HX2, trivial⟩, by simp [intOf]; omega⟩
    · have HT2 : Hid (t = topI f) := by show t = topI f; rw [HT.out, HX.out, List.take_of_length_le (by omega)]
      rcases HN.out t HT2.out with ⟨g1, g2, g3⟩ | ⟨g1, g2, g3, g4⟩
      · have G2 := hide g2
        have G3 := hide g3
        clear g2 g3 hb1 hb2
        subst g1
        go_wp2
        go_ret2
        exact ⟨ret_ii G2.out.symm G3.out.symm, hB⟩
      · have G3 := hide g3
        have G4 := hide g4
        clear g3 g4
        go_wp2
        go_ret2
        exact ⟨ret_ii G3.out.symm G4.out.symm, hB⟩
theorem refNext_any (f : ByteArray) (w : World) : Calls Tryz.prog 69 #[.string f] w fun e w' => e = .returned (.tuple #[.int .i64 (nextI f), .int .i64 (errX f)]) ∧ Below w.heap.size w w' := by
  cases h : mayF f with
  | false =>
    rw [(next_no h).1, (next_no h).2]
    refine (refNext_no f w h).mono ?_
    rintro e w' ⟨rfl, rfl⟩
    exact ⟨rfl, Below.refl _ _⟩
  | true => exact refNext_yes f w h
theorem build_pl0 (w : World) : (Instr.build 96 #[]).run Tryz.prog w = .ok (.agg #[.int .i64 0, .int .i64 0, .int .i64 0, .int .i64 0, .int .i64 0]) w := run_build w 96 _ _ (by kernel_rfl)
theorem ret_pl {a b c d e x a' b' c' d' e' x' : Int} (h : a = a' ∧ b = b' ∧ c = c' ∧ d = d' ∧ e = e' ∧ x = x') : Ending.returned (.tuple #[.agg #[.int .i64 a, .int .i64 b, .int .i64 c, .int .i64 d, .int .i64 e], .int .i64 x]) = .returned (.tuple #[.agg #[.int .i64 a', .int .i64 b', .int .i64 c', .int .i64 d', .int .i64 e'], .int .i64 x']) := by
  obtain ⟨rfl, rfl, rfl, rfl, rfl, rfl⟩ := h
  rfl
set_option maxRecDepth 100000 in
set_option maxHeartbeats 400000 in
theorem refActive_no (f : ByteArray) (w : World) (h : mayF f = false) : Calls Tryz.prog 48 #[.string f] w fun e w' => e = .returned (.tuple #[.agg #[.int .i64 0, .int .i64 0, .int .i64 0, .int .i64 0, .int .i64 0], .int .i64 700]) ∧ Below w.heap.size w w' := by
  have HS := hide (fun w => refScan_no f w h)
  have b1 := build_pl0
  clear h
  go_enter Tryz.func48, Tryz.ntmps48
  go_wp2_with (go_at_call 73; refine (HS.out _).mono ?_; rintro e w' ⟨rfl, rfl⟩)
  exact bodyPost_ret (v := .tuple #[.agg #[.int .i64 0, .int .i64 0, .int .i64 0, .int .i64 0, .int .i64 0], .int .i64 700]) (by simp [results, Tryz.results48, go_sem]) rfl ⟨rfl, (Below.refl _ _).alloc (Nat.le_refl _) _⟩
theorem set5 {w W : World} (h : Below w.heap.size w W) (a b c d e : Value) : Below w.heap.size w (((((W.setCell ⟨w.heap.size, 0, none⟩ a).setCell ⟨w.heap.size, 1, none⟩ b).setCell ⟨w.heap.size, 2, none⟩ c).setCell ⟨w.heap.size, 3, none⟩ d).setCell ⟨w.heap.size, 4, none⟩ e) :=
  ((((h.setCell (p := ⟨w.heap.size, 0, none⟩) (Nat.le_refl _) _).setCell (p := ⟨w.heap.size, 1, none⟩) (Nat.le_refl _) _).setCell (p := ⟨w.heap.size, 2, none⟩) (Nat.le_refl _) _).setCell (p := ⟨w.heap.size, 3, none⟩) (Nat.le_refl _) _).setCell (p := ⟨w.heap.size, 4, none⟩) (Nat.le_refl _) _
set_option maxRecDepth 100000 in
set_option maxHeartbeats 2000000 in
theorem refActive_yes (f : ByteArray) (w : World) (h : mayF f = true) : Calls Tryz.prog 48 #[.string f] w fun e w' => e = .returned (.tuple #[.agg #[.int .i64 (actV f).pa, .int .i64 (actV f).pq, .int .i64 (actV f).pt, .int .i64 (actV f).pz, .int .i64 (actV f).pm], .int .i64 (errA f)]) ∧ Below w.heap.size w w' := by
  have HS := hide (fun w => refScan_any f w)
  rw [h] at HS
  have e0 : errJ true = 0 := rfl
  have b1 := build_pl0
  have hlen := scan_len f
  have HN : Hid (bestTo f (scanL f) (scanL f).length = none → actV f = zeroP ∧ errA f = 701) := fun hb => (act_none h hb).2
  have HK : Hid (∀ (k : Nat) (hk : k < (scanL f).length), bestTo f (scanL f) (scanL f).length = some k → actV f = (scanL f)[k] ∧ errA f = 0) := fun k hk hb => (act_some h hk hb).2
  have HG := hide (fun (p : FPl) (w : World) => refGood_any f p.pq p.pt p.pz p.pm w)
  clear h
  generalize scanL f = l at *
  have hB := (Below.refl w.heap.size w).alloc (Nat.le_refl _) (.cells #[.int .i64 0, .int .i64 0, .int .i64 0, .int .i64 0, .int .i64 0] 96)
  have HR := hide (box5M w (.int .i64 0) (.int .i64 0) (.int .i64 0) (.int .i64 0) (.int .i64 0) 96)
  go_enter Tryz.func48, Tryz.ntmps48
  go_wp2_with (go_at_call 73; refine (HS.out _).mono ?_; rintro e w1 ⟨v, rfl, hown, hb⟩)
  replace hB := thenB hB hb
  replace HR := hide (box5B HR.out hb)
  clear hb
  obtain ⟨a, cap, rfl, hin⟩ := ownsP_is hown
  clear hown HS
  go_loopw [6, 7] (fun x y wr => ∃ (b : Option Nat) (n : Nat), n ≤ l.length ∧ x = .int .i64 (bestI b) ∧ y = .int .i64 n ∧ Hid (bestTo f l n = b) ∧ Below w1.heap.size w1 wr) (fun _ y _ => l.length - (intOf y).toNat)
  case atStart => exact ⟨none, 0, Nat.zero_le _, rfl, rfl, rfl, Below.refl _ _⟩
  case round =>
    obtain ⟨b, n, hn, rfl, rfl, HX, hbel⟩ := hrel
    by_cases hlt : n < l.length
    · rcases hin with hin | ⟨g, rfl, hg, hin⟩
      · rw [hin] at hlt; simp at hlt
      have hin1 := hin.below hbel hg
      have hg1 : g < wr.heap.size := Nat.lt_of_lt_of_le hg hbel.size
      have c1 := hin1.pq n hlt
      have c2 := hin1.pt n hlt
      have c3 := hin1.pz n hlt
      have c4 := hin1.pm n hlt
      have HG1 := hide (HG.out l[n])
      have H2 : Hid (∀ w2, Below wr.heap.size wr w2 → Below w1.heap.size w1 w2) := fun w2 h => hbel.trans (h.mono hbel.size)
      have HIn := hide hin1
      clear hin hin1 hbel
      cases hgd : goodP f l[n] with
      | false =>
        have HX2 : Hid (bestTo f l (n + 1) = b) := (best_bad hlt hgd).trans HX.out
        rw [show goodB f l[n].pq l[n].pt l[n].pz l[n].pm = false from hgd] at HG1
        clear hgd HX
        go_wp2_with (go_at_call 74; refine (HG1.out _).mono ?_; rintro e w2 ⟨rfl, hb2⟩)
        go_quiet (fail)
        go_wp2
        exact ⟨⟨b, n + 1, by omega, rfl, by go_num, HX2, bel_drewN (H2.out _ hb2) _⟩, by simp [intOf]; omega⟩
      | true =>
        rw [show goodB f l[n].pq l[n].pt l[n].pz l[n].pm = true from hgd] at HG1
        cases b with
        | none =>
          have HX2 : Hid (bestTo f l (n + 1) = some n) := best_first hlt hgd HX.out
          have hbI : bestI none = -1 := rfl
          clear hgd HX
          go_wp2_with (go_at_call 74; refine (HG1.out _).mono ?_; rintro e w2 ⟨rfl, hb2⟩)
          go_quiet (fail)
          go_wp2
          exact ⟨⟨some n, n + 1, by omega, rfl, by go_num, HX2, bel_drewN (H2.out _ hb2) _⟩, by simp [intOf]; omega⟩
        | some k =>
          have hk := bestTo_lt HX.out
          have hkl : k < l.length := by omega
          have HX2 := hide (best_next hlt hkl hgd HX.out)
          have hbI : bestI (some k) = (k : Int) := rfl
          clear hgd HX
          by_cases hq : l[k].pq ≤ l[n].pq
          · rw [if_pos hq] at HX2
            go_wp2_with (go_at_call 74; refine (HG1.out _).mono ?_; rintro e w2 ⟨rfl, hb2⟩)
            have d1 := (HIn.out.below hb2 hg1).pq n hlt
            have d2 := (HIn.out.below hb2 hg1).pq k hkl
            go_quiet (fail)
            go_wp2
            exact ⟨⟨some n, n + 1, by omega, rfl, by go_num, HX2, bel_drewN (H2.out _ hb2) _⟩, by simp [intOf]; omega⟩
          · rw [if_neg hq] at HX2
            go_wp2_with (go_at_call 74; refine (HG1.out _).mono ?_; rintro e w2 ⟨rfl, hb2⟩)
            have d1 := (HIn.out.below hb2 hg1).pq n hlt
            have d2 := (HIn.out.below hb2 hg1).pq k hkl
            go_quiet (fail)
            go_wp2
            exact ⟨⟨some k, n + 1, by omega, rfl, by go_num, HX2, bel_drewN (H2.out _ hb2) _⟩, by simp [intOf]; omega⟩
    · obtain rfl : n = l.length := by omega
      have hBe := thenB hB hbel
      have hRe := box5B HR.out hbel
      unfold Box5 at hRe
      cases b with
      | none =>
        have hbI : bestI none = -1 := rfl
        obtain ⟨hV, hE⟩ := HN.out HX.out
        have HV := hide hV
        have HE := hide hE
        clear hV hE hin HN HK HG
        go_wp2
        exact bodyPost_ret (v := .tuple #[.agg #[.int .i64 0, .int .i64 0, .int .i64 0, .int .i64 0, .int .i64 0], .int .i64 701]) (by simp [results, Tryz.results48, go_sem, hRe]) rfl ⟨ret_pl (by rw [HV.out, HE.out]; exact ⟨rfl, rfl, rfl, rfl, rfl, rfl⟩), set5 hBe _ _ _ _ _⟩
      | some k =>
        have hk := bestTo_lt HX.out
        have hbI : bestI (some k) = (k : Int) := rfl
        obtain ⟨hV, hE⟩ := HK.out k hk HX.out
        have HV := hide hV
        have HE := hide hE
        rcases hin with hin | ⟨g, rfl, hg, hin⟩
        · rw [hin] at hk; simp at hk
        have hin1 := hin.below hbel hg
        have c0 := hin1.pa k hk
        have c1 := hin1.pq k hk
        have c2 := hin1.pt k hk
        have c3 := hin1.pz k hk
        have c4 := hin1.pm k hk
        clear hV hE hin hin1 HN HK HG
        go_wp2
        exact bodyPost_ret (v := .tuple #[.agg #[.int .i64 l[k].pa, .int .i64 l[k].pq, .int .i64 l[k].pt, .int .i64 l[k].pz, .int .i64 l[k].pm], .int .i64 0]) (by simp [results, Tryz.results48, go_sem, hRe]) rfl ⟨ret_pl (by rw [HV.out, HE.out]; exact ⟨rfl, rfl, rfl, rfl, rfl, rfl⟩), set5 hBe _ _ _ _ _⟩
theorem refActive_any (f : ByteArray) (w : World) : Calls Tryz.prog 48 #[.string f] w fun e w' => e = .returned (.tuple #[.agg #[.int .i64 (actV f).pa, .int .i64 (actV f).pq, .int .i64 (actV f).pt, .int .i64 (actV f).pz, .int .i64 (actV f).pm], .int .i64 (errA f)]) ∧ Below w.heap.size w w' := by
  cases h : mayF f with
  | false =>
    obtain ⟨_, h1, h2⟩ := act_no h
    rw [h1, h2]
    exact refActive_no f w h
  | true => exact refActive_yes f w h
end Go.Proofs.YtmlfkbkpkgaefaaGreatDoor.ActNext

/- The contracts of the document's own staged record and of where the next record goes. -/
namespace Go.Proofs.YtmlfkbkpkgaefaaGreatDoor.ActApp
open Go.Proofs.YtmlfkbkpkgaefaaGreatDoor Go.RowKit Go.Proofs.YtmlfkbkpkgaefaaGreatDoor.Bytes Go.Proofs.YtmlfkbkpkgaefaaGreatDoor.NorWalk Go.Proofs.YtmlfkbkpkgaefaaGreatDoor.NorRef Go.Proofs.YtmlfkbkpkgaefaaGreatDoor.Ent Go.Proofs.YtmlfkbkpkgaefaaGreatDoor.EntRow Go.Proofs.YtmlfkbkpkgaefaaGreatDoor.EntWalk Go.Proofs.YtmlfkbkpkgaefaaGreatDoor.EntRef Go.Proofs.YtmlfkbkpkgaefaaGreatDoor.Jou Go.Proofs.YtmlfkbkpkgaefaaGreatDoor.JouRow Go.Proofs.YtmlfkbkpkgaefaaGreatDoor.JouWalk Go.Proofs.YtmlfkbkpkgaefaaGreatDoor.JouRef Go.Proofs.YtmlfkbkpkgaefaaGreatDoor.Ops Go.Proofs.YtmlfkbkpkgaefaaGreatDoor.Act Go.Proofs.YtmlfkbkpkgaefaaGreatDoor.ActRef Go.Proofs.YtmlfkbkpkgaefaaGreatDoor.ActNext

theorem rofOk_f {f : ByteArray} {t z : Int} (h : rofOk f t z = false) : mayB f = false ∨ mayB f = true ∧ baseOk t = false ∨ mayB f = true ∧ baseOk t = true ∧ upToB z 1 288 = false := by
  unfold rofOk at h
  have h' := of_decide_eq_false h
  unfold mayB baseOk upToB
  by_cases h1 : f.size = 768
  · rw [decide_eq_true h1]
    by_cases h2 : 0 ≤ t ∧ t ≤ 1
    · rw [decide_eq_true h2]
      exact .inr (.inr ⟨rfl, rfl, decide_eq_false (fun g => h' ⟨h1, h2.1, h2.2, g⟩)⟩)
    · rw [decide_eq_false h2]
      exact .inr (.inl ⟨rfl, rfl⟩)
  · rw [decide_eq_false h1]
    exact .inl rfl
set_option maxRecDepth 100000 in
set_option maxHeartbeats 400000 in
theorem refRof_no (f : ByteArray) (t z : Int) (w : World) (h : rofOk f t z = false) : Calls Tryz.prog 44 #[.string f, .int .i64 t, .int .i64 z] w fun e w' => e = .returned (.tuple #[.agg #[.int .i64 0, .int .i64 0, .int .i64 0, .int .i64 0], .int .i64 900]) ∧ Below w.heap.size w w' := by
  have b2 := build_none
  have e0 : errI true = 0 := rfl
  have e1 : errI false = 600 := rfl
  cases hb : baseOk t with
  | false =>
    have HBa := hide (fun w => refBase_any t w)
    rw [hb] at HBa
    cases hm : mayB f
    all_goals
      go_enter Tryz.func44, Tryz.ntmps44
      go_wp2_with (first | (first | (go_at_call 62; refine (flashMay_any _ _).mono ?_; rintro e w' ⟨rfl, rfl⟩) | (go_at_call 39; refine (upTo_any _ _ _ _).mono ?_; rintro e w' ⟨rfl, rfl⟩)) | (go_at_call 65; refine (HBa.out _).mono ?_; rintro e w' ⟨rfl, rfl⟩))
      exact bodyPost_ret (v := .tuple #[.agg #[.int .i64 0, .int .i64 0, .int .i64 0, .int .i64 0], .int .i64 900]) (by simp [results, Tryz.results44, go_sem]) rfl ⟨rfl, (Below.refl _ _).alloc (Nat.le_refl _) _⟩
  | true =>
    have HBa := hide (fun w => refBase_any t w)
    rw [hb] at HBa
    rcases rofOk_f h with h1 | ⟨h1, h2⟩ | ⟨h1, _, h2⟩
    · go_enter Tryz.func44, Tryz.ntmps44
      go_wp2_with (first | (first | (go_at_call 62; refine (flashMay_any _ _).mono ?_; rintro e w' ⟨rfl, rfl⟩) | (go_at_call 39; refine (upTo_any _ _ _ _).mono ?_; rintro e w' ⟨rfl, rfl⟩)) | (go_at_call 65; refine (HBa.out _).mono ?_; rintro e w' ⟨rfl, rfl⟩))
      exact bodyPost_ret (v := .tuple #[.agg #[.int .i64 0, .int .i64 0, .int .i64 0, .int .i64 0], .int .i64 900]) (by simp [results, Tryz.results44, go_sem]) rfl ⟨rfl, (Below.refl _ _).alloc (Nat.le_refl _) _⟩
    · rw [hb] at h2; cases h2
    · go_enter Tryz.func44, Tryz.ntmps44
      go_wp2_with (first | (first | (go_at_call 62; refine (flashMay_any _ _).mono ?_; rintro e w' ⟨rfl, rfl⟩) | (go_at_call 39; refine (upTo_any _ _ _ _).mono ?_; rintro e w' ⟨rfl, rfl⟩)) | (go_at_call 65; refine (HBa.out _).mono ?_; rintro e w' ⟨rfl, rfl⟩))
      exact bodyPost_ret (v := .tuple #[.agg #[.int .i64 0, .int .i64 0, .int .i64 0, .int .i64 0], .int .i64 900]) (by simp [results, Tryz.results44, go_sem]) rfl ⟨rfl, (Below.refl _ _).alloc (Nat.le_refl _) _⟩
theorem set4 {w W : World} (h : Below w.heap.size w W) (a b c d : Value) : Below w.heap.size w ((((W.setCell ⟨w.heap.size, 0, none⟩ a).setCell ⟨w.heap.size, 1, none⟩ b).setCell ⟨w.heap.size, 2, none⟩ c).setCell ⟨w.heap.size, 3, none⟩ d) :=
  (((h.setCell (p := ⟨w.heap.size, 0, none⟩) (Nat.le_refl _) _).setCell (p := ⟨w.heap.size, 1, none⟩) (Nat.le_refl _) _).setCell (p := ⟨w.heap.size, 2, none⟩) (Nat.le_refl _) _).setCell (p := ⟨w.heap.size, 3, none⟩) (Nat.le_refl _) _
set_option maxRecDepth 100000 in
set_option maxHeartbeats 1000000 in
theorem refRof_yes (f : ByteArray) (t z : Nat) (w : World) (h : rofOk f t z = true) : Calls Tryz.prog 44 #[.string f, .int .i64 (t : Int), .int .i64 (z : Int)] w fun e w' => e = .returned (.tuple #[.agg #[.int .i64 (rofQ f t z), .int .i64 (rofT f t z), .int .i64 (rofZ f t z), .int .i64 (rofM f t z)], .int .i64 (errS f t z)]) ∧ Below w.heap.size w w' := by
  have b1 := build_rec
  have b2 := build_none
  obtain ⟨hf, h1, h2, h3, h4⟩ := rofOk_parts.1 h
  have hm : mayB f = true := mayF_t hf
  have hu : upToB (z : Int) 1 288 = true := by unfold upToB; exact decide_eq_true ⟨h3, h4⟩
  obtain ⟨p, hp⟩ : ∃ p : Nat, p = 192 + 288 * t := ⟨_, rfl⟩
  have hp1 : p + z ≤ f.size := by omega
  have hp2 : f.size ≤ 768 := by omega
  have hz0 : (f.extract p (p + z)).size < 9223372036854775808 := by rw [ByteArray.size_extract]; omega
  have HC : Hid (∀ w, Calls Tryz.prog 70 #[.string (f.extract p (p + z))] w fun e w' => e = .returned (.int .i64 (sumI f t z)) ∧ w' = w) := fun w => by
    have h := CrcAwake.ref_any (f.extract p (p + z)) w hz0
    have e : sumI f t z = ((Crc.sum (f.extract p (p + z)).data.toList : Nat) : Int) := by unfold sumI cutI; rw [Int.toNat_natCast, Int.toNat_natCast, hp]
    rw [e]
    exact h
  have HBa := hide (fun w => refBase_nat t p w (by omega) hp)
  have HNx := hide (fun w => refNext_any f w)
  have hB := (Below.refl w.heap.size w).alloc (Nat.le_refl _) (.cells #[.int .i64 0, .int .i64 0, .int .i64 0, .int .i64 0] 88)
  have hR := resM w (.int .i64 0) (.int .i64 0) (.int .i64 0) (.int .i64 0) 88
  have hmF : mayF f = true := hm
  by_cases hg : topI f < 1048576
  · obtain ⟨n1, n2⟩ := next_yes hmF hg
    rw [n1, n2] at HNx
    have HV := hide (rof_yes h hg)
    have ht := topI_bound f
    clear h hf h1 h2 h3 h4 hp hz0 n1 n2 hmF
    generalize topI f + 1 = Q at *
    generalize sumI f t z = M at *
    go_enter Tryz.func44, Tryz.ntmps44
    go_wp2_with (first | (first | (go_at_call 62; refine (flashMay_any _ _).mono ?_; rintro e w' ⟨rfl, rfl⟩) | (go_at_call 39; refine (upTo_any _ _ _ _).mono ?_; rintro e w' ⟨rfl, rfl⟩)) | (go_at_call 65; refine (HBa.out _).mono ?_; rintro e w' ⟨rfl, rfl⟩) | (go_at_call 69; refine (HNx.out _).mono ?_; rintro e w2 ⟨rfl, hb⟩; replace hB := thenB hB hb; replace hR := resB hR hb; clear hb) | (go_at_call 70; refine (HC.out _).mono ?_; rintro e w3 ⟨rfl, rfl⟩))
    exact bodyPost_ret (v := .tuple #[.agg #[.int .i64 Q, .int .i64 (t : Int), .int .i64 (z : Int), .int .i64 M], .int .i64 0]) (by simp [results, Tryz.results44, go_sem, hR]) rfl ⟨ret_rec (by obtain ⟨v1, v2, v3, v4, v5⟩ := HV.out; exact ⟨v1.symm, v2.symm, v3.symm, v4.symm, v5.symm⟩), set4 hB _ _ _ _⟩
  · obtain ⟨n1, n2⟩ := next_full hmF hg
    rw [n1, n2] at HNx
    have HV := hide (rof_full h hg)
    clear h hf h1 h2 h3 h4 hp hz0 n1 n2 hmF hg
    go_enter Tryz.func44, Tryz.ntmps44
    go_wp2_with (first | (first | (go_at_call 62; refine (flashMay_any _ _).mono ?_; rintro e w' ⟨rfl, rfl⟩) | (go_at_call 39; refine (upTo_any _ _ _ _).mono ?_; rintro e w' ⟨rfl, rfl⟩)) | (go_at_call 65; refine (HBa.out _).mono ?_; rintro e w' ⟨rfl, rfl⟩) | (go_at_call 69; refine (HNx.out _).mono ?_; rintro e w2 ⟨rfl, hb⟩; replace hB := thenB hB hb; replace hR := resB hR hb; clear hb))
    exact bodyPost_ret (v := .tuple #[.agg #[.int .i64 0, .int .i64 0, .int .i64 0, .int .i64 0], .int .i64 801]) (by simp [results, Tryz.results44, go_sem, hR]) rfl ⟨ret_rec (by obtain ⟨v1, v2, v3, v4, v5⟩ := HV.out; exact ⟨v1.symm, v2.symm, v3.symm, v4.symm, v5.symm⟩), set4 hB _ _ _ _⟩
theorem refRof_any (f : ByteArray) (t z : Int) (w : World) : Calls Tryz.prog 44 #[.string f, .int .i64 t, .int .i64 z] w fun e w' => e = .returned (.tuple #[.agg #[.int .i64 (rofQ f t z), .int .i64 (rofT f t z), .int .i64 (rofZ f t z), .int .i64 (rofM f t z)], .int .i64 (errS f t z)]) ∧ Below w.heap.size w w' := by
  cases h : rofOk f t z with
  | false =>
    obtain ⟨v1, v2, v3, v4, v5⟩ := rof_no h
    rw [v1, v2, v3, v4, v5]
    exact refRof_no f t z w h
  | true =>
    obtain ⟨_, h1, h2, h3, h4⟩ := rofOk_parts.1 h
    obtain ⟨a, rfl⟩ := Int.eq_ofNat_of_zero_le h1
    obtain ⟨b, rfl⟩ := Int.eq_ofNat_of_zero_le (show 0 ≤ z by omega)
    exact refRof_yes f a b w h
theorem appOk_f {f : ByteArray} {q t z m : Int} (h : appOk f q t z m = false) : mayB f = false ∨ mayB f = true ∧ recMay q t z m = false := imgOk_f h
set_option maxRecDepth 100000 in
set_option maxHeartbeats 400000 in
theorem refApp_no (f : ByteArray) (q t z m : Int) (w : World) (h : appOk f q t z m = false) : Calls Tryz.prog 45 #[.string f, .agg #[.int .i64 q, .int .i64 t, .int .i64 z, .int .i64 m]] w fun e w' => e = .returned (.tuple #[.slice none 0 0, .int .i64 800]) ∧ Below w.heap.size w w' := by
  have hB := (Below.refl w.heap.size w).alloc (Nat.le_refl _) (.cells #[.int .i64 q, .int .i64 t, .int .i64 z, .int .i64 m] 88)
  have hX := boxM w (.int .i64 q) (.int .i64 t) (.int .i64 z) (.int .i64 m) 88
  have e1 : errE false = 400 := rfl
  rcases appOk_f h with h1 | ⟨h1, h2⟩
  all_goals
    go_enter Tryz.func45, Tryz.ntmps45
    go_wp2_with (first | (go_at_call 62; refine (flashMay_any _ _).mono ?_; rintro e w' ⟨rfl, rfl⟩) | (go_at_call 71; refine (refPut_any _ _ _ _ _).mono ?_; rintro e w' ⟨rfl, hb⟩; replace hB := hB.trans (hb.mono hB.size); replace hX := boxB hX hb; clear hb))
    go_ret2
    exact ⟨rfl, hB⟩
theorem news_of_owns {w : World} {base : Nat} {e : TypeId} {size g cap n : Nat} {xs : List Value} (h : w.ownsRow base e size (.slice (some ⟨g, 0, none⟩) n cap) n xs) : ∀ j u, xs[j]? = some u → w.cell? ((⟨g, 0, none⟩ : Addr).add j) = some u := by
  intro j u hu
  have hj : j < xs.length := (List.getElem?_eq_some_iff.1 hu).1
  have hadd : (⟨g, 0, none⟩ : Addr).add j = ⟨g, j, none⟩ := by unfold Addr.add; split <;> simp_all
  rw [hadd, h.cellAt j (by have := h.1; omega)]
  exact hu
theorem len6 (a : Int) (s : ByteArray) : (OpsRow.flat (wordsTo a s 6)).length = 6 * 3 := by rw [OpsRow.length_flat, length_wordsTo]
set_option maxRecDepth 100000 in
set_option maxHeartbeats 2000000 in
theorem refApp_yes (f : ByteArray) (q t z m : Int) (w : World) (h : appOk f q t z m = true) : Calls Tryz.prog 45 #[.string f, .agg #[.int .i64 q, .int .i64 t, .int .i64 z, .int .i64 m]] w fun e w' => ∃ v, e = .returned (.tuple #[v, .int .i64 0]) ∧ w'.ownsRow w.heap.size 86 3 v (appL f q t z m).length (OpsRow.flat (appL f q t z m)) ∧ Below w.heap.size w w' := by
  have hB := (Below.refl w.heap.size w).alloc (Nat.le_refl _) (.cells #[.int .i64 q, .int .i64 t, .int .i64 z, .int .i64 m] 88)
  have hX := boxM w (.int .i64 q) (.int .i64 t) (.int .i64 z) (.int .i64 m) 88
  have e1 : errE true = 0 := rfl
  obtain ⟨hf, hr⟩ := imgOk_parts.1 h
  have hm : mayB f = true := mayF_t hf
  obtain ⟨i, hi, hz0, hz1, hz2⟩ := info_parts OpsWalk.info_op
  have hbd := OpsWalk.build_er_at
  obtain ⟨o1, o2, o3⟩ := app_words h
  have HW := hide (fun w => OpsHelp.refWords_any (appA f) (putS q t z m) w)
  rw [o1, o3, length_wordsTo] at HW
  have e2 : errO true = 0 := rfl
  have HL := hide (app_ok h)
  have hhome := home_01 f
  obtain ⟨H, hH⟩ : ∃ H : Int, homeI f = H := ⟨_, rfl⟩
  have HFr := hide (fun w => refFree_any f H w)
  have HAc := hide (fun w => refActive_any f w)
  have hpa : Hid ((actV f).pa / 96 = H) := hH
  rw [hH] at hhome
  obtain ⟨hh0, hh1⟩ := hhome
  have HA : Hid (errA f = 0 ∧ 0 ≤ (actV f).pa ∧ (actV f).pa ≤ 168 ∨ errA f = 701 ∧ H = 0) := by
    show _ ∨ _
    cases hb : bestO f with
    | none =>
      obtain ⟨_, a2, a3⟩ := act_none (mayF_t hf) hb
      refine .inr ⟨a3, ?_⟩
      rw [← hH]
      unfold homeI
      rw [a2]
      rfl
    | some k =>
      obtain ⟨a1, a2, a3⟩ := act_some (mayF_t hf) (bestTo_lt hb) hb
      obtain ⟨_, _, m1, m2⟩ := scan_mem (act_mem a1)
      rw [a2]
      exact .inl ⟨a3, m1, m2⟩
  have HE : Hid (appA f = (if freeIs f H then freeAt f H else (1 - H) * 96) ∧ appE f = (if freeIs f H then [] else [⟨true, (1 - H) * 96, ⟨#[]⟩⟩])) := by
    show _ ∧ _
    unfold appA appE
    rw [hH]
    exact ⟨rfl, rfl⟩
  have HPu := hide (fun w => refPut_any q t z m w)
  rw [hr] at HPu
  clear h hf hH o1 o2 o3 hr
  generalize putS q t z m = S at *
  generalize (actV f).pq = Aq at *
  generalize (actV f).pt = At at *
  generalize (actV f).pz = Az at *
  generalize (actV f).pm = Am at *
  generalize (actV f).pa = Aa at *
  rcases HA.out with ⟨ha, ha1, ha2⟩ | ⟨ha, rfl⟩
  · rw [ha] at HAc
    have hdiv := hpa.out
    clear HA ha
    go_enter Tryz.func45, Tryz.ntmps45
    go_wp2_with (first | (first | (go_at_call 62; refine (flashMay_any _ _).mono ?_; rintro e w' ⟨rfl, rfl⟩)) | (go_at_call 71; refine (HPu.out _).mono ?_; rintro e w' ⟨rfl, hb⟩; replace hB := hB.trans (hb.mono hB.size); replace hX := boxB hX hb; clear hb))
    refine (HAc.out _).mono ?_
    rintro e w2 ⟨rfl, hb⟩
    replace hB := thenB hB hb
    clear hb hX
    replace hB := hB.alloc hB.size (.cells #[.int .i64 Aa, .int .i64 Aq, .int .i64 At, .int .i64 Az, .int .i64 Am] 96)
    go_wp2_with fail
    refine (HFr.out _).mono ?_
    rintro e w3 ⟨rfl, hb⟩
    replace hB := thenB hB hb
    clear hb
    obtain ⟨hA, hE⟩ := HE.out
    have hb3 := hB.size
    cases hfr : freeIs f H with
    | true =>
      rw [hfr, if_pos rfl] at hA hE
      rw [hA] at HW HL
      rw [hE] at HL
      clear hA hE HE HFr HAc hdiv
      generalize freeAt f H = A at *
      go_wp2_with fail
      refine (HW.out _).mono ?_
      rintro e w4 ⟨v, rfl, hown, hb⟩
      replace hB := thenB hB hb
      clear hb HW
      obtain ⟨g, cap, rfl, _, _⟩ := hown.form (by omega)
      have hb4 := hB.size
      go_wp2_with (at_builtin; refine wpList_append_lies _ rfl _ _ _ rfl w.heap.size 86 i _ 3 32 Tryz.underlying22 hi hz0 hz1 hz2 rfl (by omega) (.slice none 0 0) 0 _ rfl (OpsRow.owns_nil _ _ _) ⟨g, 0, none⟩ 6 cap _ rfl (len6 A S) (news_of_owns hown) (OpsRow.flat_oneCell _) (by omega) (by decide) (by decide) hb4 _ rfl ?_; intro g2 cap2 w5 hown1 hgrow hat hlt1)
      go_ret2
      refine ⟨_, rfl, ?_, hB.grown hgrow hb4 (fun k hk => by cases hk)⟩
      rw [HL.out, List.length_append, length_wordsTo, OpsRow.flat_append]
      exact hown1
    | false =>
      rw [hfr, if_neg (by decide)] at hA hE
      rw [hA] at HW HL
      rw [hE] at HL
      clear hA hE HE HFr HAc hpa
      generalize freeAt f H = A0 at *
      go_wp2_with (at_builtin; refine wpList_append_lies _ rfl _ _ _ rfl w.heap.size 86 i _ 3 32 Tryz.underlying22 hi hz0 hz1 hz2 rfl (by omega) (.slice none 0 0) 0 _ rfl (OpsRow.owns_nil _ _ _) ⟨w3.heap.size, 0, none⟩ 1 1 _ rfl rfl (World.news_of_block (heap_alloc_new w3 _)) (OpsRow.flat_oneCell [⟨true, _, _⟩]) (by omega) (by decide) (by decide) (by simp; omega) _ rfl ?_; intro g2 cap2 w5 hown1 hgrow hat hlt1; replace hB := (hB.alloc hb3 _).grown hgrow (by simp; omega) (fun k hk => by cases hk))
      refine (HW.out _).mono ?_
      rintro e w4 ⟨v, rfl, hown, hb⟩
      replace hB := thenB hB hb
      replace hown1 := OpsRow.owns_below hown1 hb
      clear hb HW
      obtain ⟨g, cap, rfl, _, _⟩ := hown.form (by omega)
      have hb4 := hB.size
      go_wp2_with (at_builtin; refine wpList_append_lies _ rfl _ _ _ rfl w.heap.size 86 i _ 3 32 Tryz.underlying22 hi hz0 hz1 hz2 rfl (by omega) _ 1 _ rfl hown1 ⟨g, 0, none⟩ 6 cap _ rfl (len6 _ S) (news_of_owns hown) (OpsRow.flat_oneCell _) (by omega) (by decide) (by decide) hb4 _ rfl ?_; intro g3 cap3 w6 hown2 hgrow2 hat2 hlt2)
      go_ret2
      refine ⟨_, rfl, ?_, hB.grown hgrow2 hb4 (fun k hk => (hown1.lt k hk).1)⟩
      rw [HL.out, List.length_append, length_wordsTo, OpsRow.flat_append]
      exact hown2
  · rw [ha] at HAc
    clear HA ha
    go_enter Tryz.func45, Tryz.ntmps45
    go_wp2_with (first | (first | (go_at_call 62; refine (flashMay_any _ _).mono ?_; rintro e w' ⟨rfl, rfl⟩)) | (go_at_call 71; refine (HPu.out _).mono ?_; rintro e w' ⟨rfl, hb⟩; replace hB := hB.trans (hb.mono hB.size); replace hX := boxB hX hb; clear hb))
    refine (HAc.out _).mono ?_
    rintro e w2 ⟨rfl, hb⟩
    replace hB := thenB hB hb
    clear hb hX
    replace hB := hB.alloc hB.size (.cells #[.int .i64 Aa, .int .i64 Aq, .int .i64 At, .int .i64 Az, .int .i64 Am] 96)
    go_wp2_with fail
    refine (HFr.out _).mono ?_
    rintro e w3 ⟨rfl, hb⟩
    replace hB := thenB hB hb
    clear hb
    obtain ⟨hA, hE⟩ := HE.out
    have hb3 := hB.size
    cases hfr : freeIs f 0 with
    | true =>
      rw [hfr, if_pos rfl] at hA hE
      rw [hA] at HW HL
      rw [hE] at HL
      clear hA hE HE HFr HAc
      generalize freeAt f 0 = A at *
      go_wp2_with fail
      refine (HW.out _).mono ?_
      rintro e w4 ⟨v, rfl, hown, hb⟩
      replace hB := thenB hB hb
      clear hb HW
      obtain ⟨g, cap, rfl, _, _⟩ := hown.form (by omega)
      have hb4 := hB.size
      go_wp2_with (at_builtin; refine wpList_append_lies _ rfl _ _ _ rfl w.heap.size 86 i _ 3 32 Tryz.underlying22 hi hz0 hz1 hz2 rfl (by omega) (.slice none 0 0) 0 _ rfl (OpsRow.owns_nil _ _ _) ⟨g, 0, none⟩ 6 cap _ rfl (len6 A S) (news_of_owns hown) (OpsRow.flat_oneCell _) (by omega) (by decide) (by decide) hb4 _ rfl ?_; intro g2 cap2 w5 hown1 hgrow hat hlt1)
      go_ret2
      refine ⟨_, rfl, ?_, hB.grown hgrow hb4 (fun k hk => by cases hk)⟩
      rw [HL.out, List.length_append, length_wordsTo, OpsRow.flat_append]
      exact hown1
    | false =>
      rw [hfr, if_neg (by decide), show (1 - (0 : Int)) * 96 = 96 from rfl] at hA hE
      rw [hA] at HW HL
      rw [hE] at HL
      clear hA hE HE HFr HAc hpa
      generalize freeAt f 0 = A0 at *
      go_wp2_with (at_builtin; refine wpList_append_lies _ rfl _ _ _ rfl w.heap.size 86 i _ 3 32 Tryz.underlying22 hi hz0 hz1 hz2 rfl (by omega) (.slice none 0 0) 0 _ rfl (OpsRow.owns_nil _ _ _) ⟨w3.heap.size, 0, none⟩ 1 1 _ rfl rfl (World.news_of_block (heap_alloc_new w3 _)) (OpsRow.flat_oneCell [⟨true, _, _⟩]) (by omega) (by decide) (by decide) (by simp; omega) _ rfl ?_; intro g2 cap2 w5 hown1 hgrow hat hlt1; replace hB := (hB.alloc hb3 _).grown hgrow (by simp; omega) (fun k hk => by cases hk))
      refine (HW.out _).mono ?_
      rintro e w4 ⟨v, rfl, hown, hb⟩
      replace hB := thenB hB hb
      replace hown1 := OpsRow.owns_below hown1 hb
      clear hb HW
      obtain ⟨g, cap, rfl, _, _⟩ := hown.form (by omega)
      have hb4 := hB.size
      go_wp2_with (at_builtin; refine wpList_append_lies _ rfl _ _ _ rfl w.heap.size 86 i _ 3 32 Tryz.underlying22 hi hz0 hz1 hz2 rfl (by omega) _ 1 _ rfl hown1 ⟨g, 0, none⟩ 6 cap _ rfl (len6 _ S) (news_of_owns hown) (OpsRow.flat_oneCell _) (by omega) (by decide) (by decide) hb4 _ rfl ?_; intro g3 cap3 w6 hown2 hgrow2 hat2 hlt2)
      go_ret2
      refine ⟨_, rfl, ?_, hB.grown hgrow2 hb4 (fun k hk => (hown1.lt k hk).1)⟩
      rw [HL.out, List.length_append, length_wordsTo, OpsRow.flat_append]
      exact hown2
theorem refApp_any (f : ByteArray) (q t z m : Int) (w : World) : Calls Tryz.prog 45 #[.string f, .agg #[.int .i64 q, .int .i64 t, .int .i64 z, .int .i64 m]] w fun e w' => ∃ v, e = .returned (.tuple #[v, .int .i64 (errP (appOk f q t z m))]) ∧ w'.ownsRow w.heap.size 86 3 v (appL f q t z m).length (OpsRow.flat (appL f q t z m)) ∧ Below w.heap.size w w' := by
  cases h : appOk f q t z m with
  | false =>
    rw [app_no h]
    refine (refApp_no f q t z m w h).mono ?_
    rintro e w' ⟨rfl, hb⟩
    exact ⟨_, rfl, OpsRow.owns_nil _ _ _, hb⟩
  | true => exact refApp_yes f q t z m w h
end Go.Proofs.YtmlfkbkpkgaefaaGreatDoor.ActApp
