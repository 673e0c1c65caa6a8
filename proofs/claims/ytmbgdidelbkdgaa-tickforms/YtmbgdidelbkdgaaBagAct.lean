/- The contracts of the document's own journal (its records, the first blank place of a sector), and of the laws' helpers on rows of records. -/
import Derived.Test.YtmbgdidelbkdgaaBagJou
import Derived.Test.YtmbgdidelbkdgaaBagNor
import Derived.Test.YtmbgdidelbkdgaaEntRef
import Derived.Laws.StructEq
import Derived.Test.YtmbgdidelbkdgaaBagCrc
import Derived.Test.YtmbgdidelbkdgaaBagOps
import Derived.BigQuiet
namespace Go.Proofs.Ytmbgdidelbkdgaa.JouRef
open Go.Proofs.Ytmbgdidelbkdgaa Go.RowKit Go.Proofs.Ytmbgdidelbkdgaa.Bytes Go.Proofs.Ytmbgdidelbkdgaa.NorWalk Go.Proofs.Ytmbgdidelbkdgaa.NorRef Go.Proofs.Ytmbgdidelbkdgaa.Ent Go.Proofs.Ytmbgdidelbkdgaa.EntRow Go.Proofs.Ytmbgdidelbkdgaa.EntWalk Go.Proofs.Ytmbgdidelbkdgaa.EntRef Go.Proofs.Ytmbgdidelbkdgaa.Jou Go.Proofs.Ytmbgdidelbkdgaa.JouRow Go.Proofs.Ytmbgdidelbkdgaa.JouWalk

theorem numJ_any (n : Int) (w : World) : Calls Try.prog 15 #[.int .i64 n] w fun e w' => e = .returned (.int .i64 n) ∧ w' = w := by
  go_enter Try.func15, Try.ntmps15
  go_wp2
  go_ret
  exact ⟨rfl, rfl⟩
set_option maxRecDepth 100000 in
set_option maxHeartbeats 400000 in
theorem refScan_no (f : ByteArray) (w : World) (h : mayF f = false) : Calls Try.prog 73 #[.string f] w fun e w' => e = .returned (.tuple #[.slice none 0 0, .int .i64 500]) ∧ w' = w := by
  have h : mayB f = false := h
  go_enter Try.func73, Try.ntmps73
  go_wp2_with (first | (go_at_call 23; refine (flashMay_any _ _).mono ?_; rintro e w' ⟨rfl, rfl⟩))
  go_ret2
  exact ⟨rfl, rfl⟩
set_option maxRecDepth 100000 in
set_option maxHeartbeats 2000000 in
theorem refScan_yes (f : ByteArray) (w : World) (h : f.size = 768) : Calls Try.prog 73 #[.string f] w fun e w' => ∃ v, e = .returned (.tuple #[v, .int .i64 0]) ∧ w'.ownsRow w.heap.size 91 5 v (foundTo f 8).length (flatP (foundTo f 8)) ∧ Below w.heap.size w w' := by
  have hm : mayB f = true := mayF_t h
  have HF : Hid (f.size = 768) := h
  have hz1 : f.size ≤ 768 := by omega
  have hz2 : 768 ≤ f.size := by omega
  clear h
  obtain ⟨i, hi, hy0, hy1, hy2⟩ := info_parts info_pl
  have hbd := build_pl
  go_enter Try.func73, Try.ntmps73
  go_wp2_with (first | (go_at_call 23; refine (flashMay_any _ _).mono ?_; rintro e w' ⟨rfl, rfl⟩))
  go_loopw [4, 5] (fun s x wr => ∃ k : Nat, k ≤ 2 ∧ x = .int .i64 k ∧ wr.ownsRow w'.heap.size 91 5 s (foundTo f (4 * k)).length (flatP (foundTo f (4 * k))) ∧ Below w'.heap.size w' wr) (fun _ x _ => 2 - (intOf x).toNat)
  case atStart => exact ⟨0, Nat.zero_le _, rfl, ownsP_nil _ _ _, Below.refl _ _⟩
  case round =>
    obtain ⟨k, hk, rfl, hown0, hbel0⟩ := hrel
    by_cases hlt0 : k < 2
    · go_wp2
      rw [decide_eq_true (show (k : Int) < 2 by omega)]
      go_loopw [4, 6] (fun s x wr => ∃ j : Nat, 4 * k ≤ j ∧ j ≤ 4 * k + 4 ∧ x = .int .i64 ((24 * j : Nat) : Int) ∧ wr.ownsRow w'.heap.size 91 5 s (foundTo f j).length (flatP (foundTo f j)) ∧ Below w'.heap.size w' wr) (fun _ x _ => 24 * (4 * k + 4) - (intOf x).toNat)
      case atStart => exact ⟨4 * k, Nat.le_refl _, by omega, by go_num, hown0, hbel0⟩
      case round =>
        obtain ⟨j, hj0, hj, rfl, hown, hbel⟩ := hrel
        clear hown0 hbel0
        by_cases hlt : j < 4 * k + 4
        · have e0 : errE true = 0 := rfl
          have e1 : errE false = 400 := rfl
          have s1 := hbel.size
          have hlen := foundTo_len f j
          have hg0 : 24 * (j : Int) + 24 ≤ ((k : Int) + 1) * 96 := by omega
          have hz3 : 24 * j + 24 ≤ f.size := by omega
          have HR : Hid (recAt f j = ⟨24 * (j : Int), gq (slotS f j), gt (slotS f j), gz (slotS f j), gm (slotS f j)⟩) := rfl
          have HX : Hid (f.extract (24 * j) (24 * j + 24) = slotS f j) := rfl
          have HG := hide (fun w => refGet_any (slotS f j) w)
          cases hg : getOk (slotS f j) with
          | false =>
            have HS : Hid (foundTo f (j + 1) = foundTo f j) := foundTo_no f j hg
            rw [hg] at HG
            go_wp2_with (go_at_call 75; refine (HG.out _).mono ?_; rintro e w2 ⟨rfl, hb2⟩)
            have s2 := hb2.size
            refine ⟨⟨j + 1, by omega, by omega, by go_num, ?_, ?_⟩, by simp [intOf]; omega⟩
            · rw [HS.out]
              exact (OpsRow.owns_below hown hb2).alloc _
            · exact (thenB hbel hb2).alloc (Nat.le_trans s1 s2) _
          | true =>
            have HS : Hid (foundTo f (j + 1) = foundTo f j ++ [recAt f j]) := foundTo_yes f j hg
            rw [hg] at HG
            generalize hL : foundTo f j = L at *
            clear hL
            have b1 : L.length + 1 ≤ maxLen := by unfold maxLen; omega
            have b2 : (L.length + 1) * 40 ≤ 140737488355328 := by omega
            go_wp2_with (first | (go_at_call 75; refine (HG.out _).mono ?_; rintro e w2 ⟨rfl, hb2⟩; have s2 := hb2.size) | (at_builtin; refine wpList_append_lies _ rfl _ _ _ rfl w'.heap.size 91 i _ 5 40 Try.underlying95 hi hy0 hy1 hy2 rfl (by omega) u4 L.length _ rfl (((OpsRow.owns_below hown hb2).alloc _).alloc _) ⟨w2.heap.size + 1, 0, none⟩ 1 1 _ rfl rfl (World.news_of_block (new2 w2 _ _)) (flatP_oneCell [⟨_, _, _, _, _⟩]) (by omega) b1 b2 (by simp; omega) _ rfl ?_; intro g cap w3 hown1 hgrow hat hlt1))
            refine ⟨⟨j + 1, by omega, by omega, by go_num, ?_, ?_⟩, by simp [intOf]; omega⟩
            · rw [HS.out, flatP_append, List.length_append, HR.out]
              exact hown1
            · exact (((thenB hbel hb2).alloc (Nat.le_trans s1 s2) _).alloc (by simp; omega) _).grown hgrow (by simp; omega) (fun k hk => (hown.lt k hk).1)
        · have HJ : Hid (j = 4 * (k + 1)) := by show j = 4 * (k + 1); omega
          have hg0 : ¬ 24 * (j : Int) + 24 ≤ ((k : Int) + 1) * 96 := by omega
          have hj9 : j ≤ 12 := by omega
          clear hj hj0 hlt
          go_wp2
          exact ⟨⟨k + 1, by omega, by go_num, by rw [← HJ.out]; exact hown, hbel⟩, by simp [intOf]; omega⟩
    · obtain rfl : k = 2 := by omega
      go_wp2
      go_ret2
      exact ⟨_, rfl, hown0, hbel0⟩
theorem refScan_any (f : ByteArray) (w : World) : Calls Try.prog 73 #[.string f] w fun e w' => ∃ v, e = .returned (.tuple #[v, .int .i64 (errJ (mayF f))]) ∧ w'.ownsRow w.heap.size 91 5 v (scanL f).length (flatP (scanL f)) ∧ Below w.heap.size w w' := by
  by_cases h : f.size = 768
  · rw [mayF_t h, scan_ok h]
    exact refScan_yes f w h
  · rw [mayF_f h, Jou.scan_no h]
    refine (refScan_no f w (mayF_f h)).mono ?_
    rintro e w' ⟨rfl, rfl⟩
    exact ⟨_, rfl, ownsP_nil _ _ _, Below.refl _ _⟩

theorem freeRef_f {f : ByteArray} {s : Int} (h : freeOk f s = false) : mayB f = false ∨ mayB f = true ∧ upToB s 0 1 = false := by
  unfold freeOk at h
  have h' := of_decide_eq_false h
  unfold mayB upToB
  by_cases h1 : f.size = 768
  · rw [decide_eq_true h1]
    exact .inr ⟨rfl, decide_eq_false (fun g => h' ⟨h1, g⟩)⟩
  · rw [decide_eq_false h1]
    exact .inl rfl
theorem full24_any (w : World) : Calls Try.prog 42 #[.int .i64 24] w fun e w' => e = .returned (.string full24) ∧ Below w.heap.size w w' := full_any 24 w (by omega)
end Go.Proofs.Ytmbgdidelbkdgaa.JouRef

/- The contracts of the document's own images, the active one, the next number, where the next record goes, a staged image's record. -/
namespace Go.Proofs.Ytmbgdidelbkdgaa.ActRef
open Go.Proofs.Ytmbgdidelbkdgaa Go.RowKit Go.Proofs.Ytmbgdidelbkdgaa.Bytes Go.Proofs.Ytmbgdidelbkdgaa.NorWalk Go.Proofs.Ytmbgdidelbkdgaa.NorRef Go.Proofs.Ytmbgdidelbkdgaa.Ent Go.Proofs.Ytmbgdidelbkdgaa.EntRow Go.Proofs.Ytmbgdidelbkdgaa.EntWalk Go.Proofs.Ytmbgdidelbkdgaa.EntRef Go.Proofs.Ytmbgdidelbkdgaa.Jou Go.Proofs.Ytmbgdidelbkdgaa.JouRow Go.Proofs.Ytmbgdidelbkdgaa.JouWalk Go.Proofs.Ytmbgdidelbkdgaa.JouRef Go.Proofs.Ytmbgdidelbkdgaa.Ops Go.Proofs.Ytmbgdidelbkdgaa.Act

theorem ret_ii {a a' b b' : Int} (h1 : a = a') (h2 : b = b') : Ending.returned (.tuple #[.int .i64 a, .int .i64 b]) = .returned (.tuple #[.int .i64 a', .int .i64 b']) := by rw [h1, h2]
theorem ret_bi {a a' : Bool} {b b' : Int} (h1 : a = a') (h2 : b = b') : Ending.returned (.tuple #[.bool a, .int .i64 b]) = .returned (.tuple #[.bool a', .int .i64 b']) := by rw [h1, h2]
theorem base_up (t : Int) : upToB t 0 1 = baseOk t := rfl
set_option maxRecDepth 100000 in
set_option maxHeartbeats 400000 in
theorem refBase_any (t : Int) (w : World) : Calls Try.prog 48 #[.int .i64 t] w fun e w' => e = .returned (.tuple #[.int .i64 (baseI t), .int .i64 (errI (baseOk t))]) ∧ w' = w := by
  cases h : baseOk t with
  | false =>
    have hu : upToB t 0 1 = false := h
    have HB : Hid (baseI t = 0) := by unfold baseI; rw [h]; rfl
    clear h
    go_enter Try.func48, Try.ntmps48
    go_wp2_with (first | (go_at_call 43; refine (upTo_any _ _ _ _).mono ?_; rintro e w' ⟨rfl, rfl⟩))
    go_ret2
    exact ⟨ret_ii HB.out.symm rfl, rfl⟩
  | true =>
    have hu : upToB t 0 1 = true := h
    obtain ⟨h1, h2⟩ := baseOk_parts.1 h
    have HB : Hid (baseI t = 192 + 288 * t) := by show baseI t = _; unfold baseI; rw [if_pos h]
    clear h
    go_enter Try.func48, Try.ntmps48
    go_wp2_with (first | (go_at_call 43; refine (upTo_any _ _ _ _).mono ?_; rintro e w' ⟨rfl, rfl⟩))
    go_ret2
    exact ⟨ret_ii (by rw [HB.out]; omega) rfl, rfl⟩
theorem refBase_nat (t p : Nat) (w : World) (ht : t ≤ 1) (hp : p = 192 + 288 * t) : Calls Try.prog 48 #[.int .i64 (t : Int)] w fun e w' => e = .returned (.tuple #[.int .i64 (p : Int), .int .i64 0]) ∧ w' = w := by
  have h := refBase_any (t : Int) w
  have h1 : baseOk (t : Int) = true := baseOk_parts.2 ⟨by omega, by omega⟩
  have h2 : baseI (t : Int) = (p : Int) := by unfold baseI; rw [if_pos h1]; omega
  rw [h1, h2] at h
  exact h
theorem imgOk_f {f : ByteArray} {q t z m : Int} (h : imgOk f q t z m = false) : mayB f = false ∨ mayB f = true ∧ recMay q t z m = false := by
  unfold imgOk at h
  cases h1 : mayF f with
  | false => exact .inl h1
  | true => rw [h1, Bool.true_and] at h; exact .inr ⟨h1, h⟩
set_option maxRecDepth 100000 in
set_option maxHeartbeats 400000 in
theorem refImage_no (f : ByteArray) (q t z m : Int) (w : World) (h : imgOk f q t z m = false) : Calls Try.prog 76 #[.string f, .agg #[.int .i64 q, .int .i64 t, .int .i64 z, .int .i64 m]] w fun e w' => e = .returned (.tuple #[.string ⟨#[]⟩, .int .i64 600]) ∧ Below w.heap.size w w' := by
  have hB := (Below.refl w.heap.size w).alloc (Nat.le_refl _) (.cells #[.int .i64 q, .int .i64 t, .int .i64 z, .int .i64 m] 89)
  have hX := boxM w (.int .i64 q) (.int .i64 t) (.int .i64 z) (.int .i64 m) 89
  rcases imgOk_f h with h1 | ⟨h1, h2⟩
  all_goals
    go_enter Try.func76, Try.ntmps76
    go_wp2_with (first | (go_at_call 23; refine (flashMay_any _ _).mono ?_; rintro e w' ⟨rfl, rfl⟩) | (go_at_call 80; refine (refRec_any _ _ _ _ _).mono ?_; rintro e w' ⟨rfl, hb⟩; replace hB := hB.trans (hb.mono hB.size); replace hX := boxB hX hb; clear hb))
    go_ret2
    exact ⟨rfl, hB⟩
set_option maxRecDepth 100000 in
set_option maxHeartbeats 400000 in
theorem refImage_yes (f : ByteArray) (q : Int) (t z : Nat) (m : Int) (w : World) (h : imgOk f q t z m = true) : Calls Try.prog 76 #[.string f, .agg #[.int .i64 q, .int .i64 (t : Int), .int .i64 (z : Int), .int .i64 m]] w fun e w' => e = .returned (.tuple #[.string (imgS f q t z m), .int .i64 0]) ∧ Below w.heap.size w w' := by
  have hB := (Below.refl w.heap.size w).alloc (Nat.le_refl _) (.cells #[.int .i64 q, .int .i64 (t : Int), .int .i64 (z : Int), .int .i64 m] 89)
  have hX := boxM w (.int .i64 q) (.int .i64 (t : Int)) (.int .i64 (z : Int)) (.int .i64 m) 89
  obtain ⟨hf, hr⟩ := imgOk_parts.1 h
  obtain ⟨_, _, h1, h2, h3, h4, _⟩ := recMay_parts.1 hr
  have hm : mayB f = true := mayF_t hf
  obtain ⟨p, hp⟩ : ∃ p : Nat, p = 192 + 288 * t := ⟨_, rfl⟩
  have hp1 : p + z ≤ f.size := by omega
  have hp2 : f.size ≤ 768 := by omega
  have HX : Hid (imgS f q t z m = f.extract p (p + z)) := by show _ = _; rw [imgS_ok h, hp]; unfold cutI; rw [Int.toNat_natCast, Int.toNat_natCast]
  have HB := hide (fun w => refBase_nat t p w (by omega) hp)
  clear h hf hp h1 h2 h3 h4
  go_enter Try.func76, Try.ntmps76
  go_wp2_with (first | (first | (go_at_call 23; refine (flashMay_any _ _).mono ?_; rintro e w' ⟨rfl, rfl⟩) | (go_at_call 80; refine (refRec_any _ _ _ _ _).mono ?_; rintro e w' ⟨rfl, hb⟩; replace hB := hB.trans (hb.mono hB.size); replace hX := boxB hX hb; clear hb)) | (go_at_call 48; refine (HB.out _).mono ?_; rintro e w' ⟨rfl, rfl⟩))
  go_ret2
  exact ⟨ret_text HX.out.symm rfl, hB⟩
theorem refImage_any (f : ByteArray) (q t z m : Int) (w : World) : Calls Try.prog 76 #[.string f, .agg #[.int .i64 q, .int .i64 t, .int .i64 z, .int .i64 m]] w fun e w' => e = .returned (.tuple #[.string (imgS f q t z m), .int .i64 (errI (imgOk f q t z m))]) ∧ Below w.heap.size w w' := by
  cases h : imgOk f q t z m with
  | false => rw [imgS_no h]; exact refImage_no f q t z m w h
  | true =>
    obtain ⟨_, hr⟩ := imgOk_parts.1 h
    obtain ⟨_, _, h1, h2, h3, h4, _⟩ := recMay_parts.1 hr
    obtain ⟨a, rfl⟩ := Int.eq_ofNat_of_zero_le h1
    obtain ⟨b, rfl⟩ := Int.eq_ofNat_of_zero_le (show 0 ≤ z by omega)
    exact refImage_yes f q a b m w h
set_option maxRecDepth 100000 in
set_option maxHeartbeats 400000 in
theorem refGood_any (f : ByteArray) (q t z m : Int) (w : World) : Calls Try.prog 74 #[.string f, .agg #[.int .i64 q, .int .i64 t, .int .i64 z, .int .i64 m]] w fun e w' => e = .returned (.tuple #[.bool (goodB f q t z m), .int .i64 (errI (imgOk f q t z m))]) ∧ Below w.heap.size w w' := by
  have hB := (Below.refl w.heap.size w).alloc (Nat.le_refl _) (.cells #[.int .i64 q, .int .i64 t, .int .i64 z, .int .i64 m] 89)
  have hX := boxM w (.int .i64 q) (.int .i64 t) (.int .i64 z) (.int .i64 m) 89
  have HI := hide (fun w => refImage_any f q t z m w)
  have hsz := size_imgS f q t z m
  have HC := hide (fun w => CrcAwake.ref_any (imgS f q t z m) w (by omega))
  cases h : imgOk f q t z m with
  | false =>
    have HG : Hid (goodB f q t z m = false) := by unfold goodB; rw [h]; rfl
    rw [h] at HI
    clear h
    generalize imgS f q t z m = S at *
    have e0 : errI false = 600 := rfl
    go_enter Try.func74, Try.ntmps74
    go_wp2_with (go_at_call 76; refine (HI.out _).mono ?_; rintro e w' ⟨rfl, hb⟩; replace hB := hB.trans (hb.mono hB.size); replace hX := boxB hX hb; clear hb)
    go_quiet ((go_at_call 77; exact Calls.quiet_of_same (HC.out _)))
    go_wp2
    go_ret2
    exact ⟨ret_bi HG.out.symm rfl, bel_drewN hB _⟩
  | true =>
    have HG : Hid (goodB f q t z m = decide (((Crc.sum (imgS f q t z m).data.toList : Nat) : Int) = m)) := by unfold goodB sumI; rw [h, imgS_ok h]; rfl
    rw [h] at HI
    clear h
    generalize imgS f q t z m = S at *
    generalize Crc.sum S.data.toList = C at *
    have e0 : errI true = 0 := rfl
    go_enter Try.func74, Try.ntmps74
    go_wp2_with (go_at_call 76; refine (HI.out _).mono ?_; rintro e w' ⟨rfl, hb⟩; replace hB := hB.trans (hb.mono hB.size); replace hX := boxB hX hb; clear hb)
    go_quiet ((go_at_call 77; exact Calls.quiet_of_same (HC.out _)))
    go_wp2
    go_ret2
    exact ⟨ret_bi HG.out.symm rfl, bel_drewN hB _⟩
end Go.Proofs.Ytmbgdidelbkdgaa.ActRef

/- The contracts of the document's own next number and of the active one. -/
namespace Go.Proofs.Ytmbgdidelbkdgaa.ActNext
open Go.Proofs.Ytmbgdidelbkdgaa Go.RowKit Go.Proofs.Ytmbgdidelbkdgaa.Bytes Go.Proofs.Ytmbgdidelbkdgaa.NorWalk Go.Proofs.Ytmbgdidelbkdgaa.NorRef Go.Proofs.Ytmbgdidelbkdgaa.Ent Go.Proofs.Ytmbgdidelbkdgaa.EntRow Go.Proofs.Ytmbgdidelbkdgaa.EntWalk Go.Proofs.Ytmbgdidelbkdgaa.EntRef Go.Proofs.Ytmbgdidelbkdgaa.Jou Go.Proofs.Ytmbgdidelbkdgaa.JouRow Go.Proofs.Ytmbgdidelbkdgaa.JouWalk Go.Proofs.Ytmbgdidelbkdgaa.JouRef Go.Proofs.Ytmbgdidelbkdgaa.Ops Go.Proofs.Ytmbgdidelbkdgaa.Act Go.Proofs.Ytmbgdidelbkdgaa.ActRef

theorem run_maxI {P : Program} (a b k : Int) (h : k = max a b) (ts : Array TypeId) (t : TypeId) (w : World) : (Builtin.max_ ts t #[.int .i64 a, .int .i64 b]).run P w = .ok (.int .i64 k) w := by
  simp [Builtin.max_, Builtin.max2]
  subst h
  repeat split
  all_goals omega
theorem build_pl0 (w : World) : (Instr.build 91 #[]).run Try.prog w = .ok (.agg #[.int .i64 0, .int .i64 0, .int .i64 0, .int .i64 0, .int .i64 0]) w := run_build w 91 _ _ (by kernel_rfl)
theorem ret_pl {a b c d e x a' b' c' d' e' x' : Int} (h : a = a' ∧ b = b' ∧ c = c' ∧ d = d' ∧ e = e' ∧ x = x') : Ending.returned (.tuple #[.agg #[.int .i64 a, .int .i64 b, .int .i64 c, .int .i64 d, .int .i64 e], .int .i64 x]) = .returned (.tuple #[.agg #[.int .i64 a', .int .i64 b', .int .i64 c', .int .i64 d', .int .i64 e'], .int .i64 x']) := by
  obtain ⟨rfl, rfl, rfl, rfl, rfl, rfl⟩ := h
  rfl
set_option maxRecDepth 100000 in
set_option maxHeartbeats 400000 in
theorem refActive_no (f : ByteArray) (w : World) (h : mayF f = false) : Calls Try.prog 71 #[.string f] w fun e w' => e = .returned (.tuple #[.agg #[.int .i64 0, .int .i64 0, .int .i64 0, .int .i64 0, .int .i64 0], .int .i64 700]) ∧ Below w.heap.size w w' := by
  have HS := hide (fun w => refScan_no f w h)
  have b1 := build_pl0
  clear h
  go_enter Try.func71, Try.ntmps71
  go_wp2_with (go_at_call 73; refine (HS.out _).mono ?_; rintro e w' ⟨rfl, rfl⟩)
  exact bodyPost_ret (v := .tuple #[.agg #[.int .i64 0, .int .i64 0, .int .i64 0, .int .i64 0, .int .i64 0], .int .i64 700]) (by simp [results, Try.results71, go_sem]) rfl ⟨rfl, (Below.refl _ _).alloc (Nat.le_refl _) _⟩
theorem set5 {w W : World} (h : Below w.heap.size w W) (a b c d e : Value) : Below w.heap.size w (((((W.setCell ⟨w.heap.size, 0, none⟩ a).setCell ⟨w.heap.size, 1, none⟩ b).setCell ⟨w.heap.size, 2, none⟩ c).setCell ⟨w.heap.size, 3, none⟩ d).setCell ⟨w.heap.size, 4, none⟩ e) :=
  ((((h.setCell (p := ⟨w.heap.size, 0, none⟩) (Nat.le_refl _) _).setCell (p := ⟨w.heap.size, 1, none⟩) (Nat.le_refl _) _).setCell (p := ⟨w.heap.size, 2, none⟩) (Nat.le_refl _) _).setCell (p := ⟨w.heap.size, 3, none⟩) (Nat.le_refl _) _).setCell (p := ⟨w.heap.size, 4, none⟩) (Nat.le_refl _) _
set_option maxRecDepth 100000 in
set_option maxHeartbeats 2000000 in
theorem refActive_yes (f : ByteArray) (w : World) (h : mayF f = true) : Calls Try.prog 71 #[.string f] w fun e w' => e = .returned (.tuple #[.agg #[.int .i64 (actV f).pa, .int .i64 (actV f).pq, .int .i64 (actV f).pt, .int .i64 (actV f).pz, .int .i64 (actV f).pm], .int .i64 (errA f)]) ∧ Below w.heap.size w w' := by
  have HS := hide (fun w => refScan_any f w)
  rw [h] at HS
  have e0 : errJ true = 0 := rfl
  have b1 := build_pl0
  have hlen := scan_len f
  have HN : Hid (bestTo f (scanL f) (scanL f).length = none → actV f = zeroP ∧ errA f = 701) := fun hb => (act_none h hb).2
  have HK : Hid (∀ (k : Nat) (hk : k < (scanL f).length), bestTo f (scanL f) (scanL f).length = some k → actV f = (scanL f)[k] ∧ errA f = 0) := fun k hk hb => (act_some h hk hb).2
  have HG := hide (fun (p : FPl) (w : World) => refGood_any f p.pq p.pt p.pz p.pm w)
  clear h
  generalize scanL f = l at *
  have hB := (Below.refl w.heap.size w).alloc (Nat.le_refl _) (.cells #[.int .i64 0, .int .i64 0, .int .i64 0, .int .i64 0, .int .i64 0] 91)
  have HR := hide (box5M w (.int .i64 0) (.int .i64 0) (.int .i64 0) (.int .i64 0) (.int .i64 0) 91)
  go_enter Try.func71, Try.ntmps71
  go_wp2_with (go_at_call 73; refine (HS.out _).mono ?_; rintro e w1 ⟨v, rfl, hown, hb⟩)
  replace hB := thenB hB hb
  replace HR := hide (box5B HR.out hb)
  clear hb
  obtain ⟨a, cap, rfl, hin⟩ := ownsP_is hown
  clear hown HS
  go_loopw [6, 7] (fun x y wr => ∃ (b : Option Nat) (n : Nat), n ≤ l.length ∧ x = .int .i64 (bestI b) ∧ y = .int .i64 n ∧ Hid (bestTo f l n = b) ∧ Below w1.heap.size w1 wr) (fun _ y _ => l.length - (intOf y).toNat)
  case atStart => exact ⟨none, 0, Nat.zero_le _, rfl, rfl, rfl, Below.refl _ _⟩
  case round =>
    obtain ⟨b, n, hn, rfl, rfl, HX, hbel⟩ := hrel
    by_cases hlt : n < l.length
    · rcases hin with hin | ⟨g, rfl, hg, hin⟩
      · rw [hin] at hlt; simp at hlt
      have hin1 := hin.below hbel hg
      have hg1 : g < wr.heap.size := Nat.lt_of_lt_of_le hg hbel.size
      have c1 := hin1.pq n hlt
      have c2 := hin1.pt n hlt
      have c3 := hin1.pz n hlt
      have c4 := hin1.pm n hlt
      have HG1 := hide (HG.out l[n])
      have H2 : Hid (∀ w2, Below wr.heap.size wr w2 → Below w1.heap.size w1 w2) := fun w2 h => hbel.trans (h.mono hbel.size)
      have HIn := hide hin1
      clear hin hin1 hbel
      cases hgd : goodP f l[n] with
      | false =>
        have HX2 : Hid (bestTo f l (n + 1) = b) := (best_bad hlt hgd).trans HX.out
        rw [show goodB f l[n].pq l[n].pt l[n].pz l[n].pm = false from hgd] at HG1
        clear hgd HX
        go_wp2_with (go_at_call 74; refine (HG1.out _).mono ?_; rintro e w2 ⟨rfl, hb2⟩)
        go_quiet (fail)
        go_wp2
        exact ⟨⟨b, n + 1, by omega, rfl, by go_num, HX2, bel_drewN (H2.out _ hb2) _⟩, by simp [intOf]; omega⟩
      | true =>
        rw [show goodB f l[n].pq l[n].pt l[n].pz l[n].pm = true from hgd] at HG1
        cases b with
        | none =>
          have HX2 : Hid (bestTo f l (n + 1) = some n) := best_first hlt hgd HX.out
          have hbI : bestI none = -1 := rfl
          clear hgd HX
          go_wp2_with (go_at_call 74; refine (HG1.out _).mono ?_; rintro e w2 ⟨rfl, hb2⟩)
          go_quiet (fail)
          go_wp2
          exact ⟨⟨some n, n + 1, by omega, rfl, by go_num, HX2, bel_drewN (H2.out _ hb2) _⟩, by simp [intOf]; omega⟩
        | some k =>
          have hk := bestTo_lt HX.out
          have hkl : k < l.length := by omega
          have HX2 := hide (best_next hlt hkl hgd HX.out)
          have hbI : bestI (some k) = (k : Int) := rfl
          clear hgd HX
          by_cases hq : l[k].pq ≤ l[n].pq
          · rw [if_pos hq] at HX2
            go_wp2_with (go_at_call 74; refine (HG1.out _).mono ?_; rintro e w2 ⟨rfl, hb2⟩)
            have d1 := (HIn.out.below hb2 hg1).pq n hlt
            have d2 := (HIn.out.below hb2 hg1).pq k hkl
            go_quiet (fail)
            go_wp2
            exact ⟨⟨some n, n + 1, by omega, rfl, by go_num, HX2, bel_drewN (H2.out _ hb2) _⟩, by simp [intOf]; omega⟩
          · rw [if_neg hq] at HX2
            go_wp2_with (go_at_call 74; refine (HG1.out _).mono ?_; rintro e w2 ⟨rfl, hb2⟩)
            have d1 := (HIn.out.below hb2 hg1).pq n hlt
            have d2 := (HIn.out.below hb2 hg1).pq k hkl
            go_quiet (fail)
            go_wp2
            exact ⟨⟨some k, n + 1, by omega, rfl, by go_num, HX2, bel_drewN (H2.out _ hb2) _⟩, by simp [intOf]; omega⟩
    · obtain rfl : n = l.length := by omega
      have hBe := thenB hB hbel
      have hRe := box5B HR.out hbel
      unfold Box5 at hRe
      cases b with
      | none =>
        have hbI : bestI none = -1 := rfl
        obtain ⟨hV, hE⟩ := HN.out HX.out
        have HV := hide hV
        have HE := hide hE
        clear hV hE hin HN HK HG
        go_wp2
        exact bodyPost_ret (v := .tuple #[.agg #[.int .i64 0, .int .i64 0, .int .i64 0, .int .i64 0, .int .i64 0], .int .i64 701]) (by simp [results, Try.results71, go_sem, hRe]) rfl ⟨ret_pl (by rw [HV.out, HE.out]; exact ⟨rfl, rfl, rfl, rfl, rfl, rfl⟩), set5 hBe _ _ _ _ _⟩
      | some k =>
        have hk := bestTo_lt HX.out
        have hbI : bestI (some k) = (k : Int) := rfl
        obtain ⟨hV, hE⟩ := HK.out k hk HX.out
        have HV := hide hV
        have HE := hide hE
        rcases hin with hin | ⟨g, rfl, hg, hin⟩
        · rw [hin] at hk; simp at hk
        have hin1 := hin.below hbel hg
        have c0 := hin1.pa k hk
        have c1 := hin1.pq k hk
        have c2 := hin1.pt k hk
        have c3 := hin1.pz k hk
        have c4 := hin1.pm k hk
        clear hV hE hin hin1 HN HK HG
        go_wp2
        exact bodyPost_ret (v := .tuple #[.agg #[.int .i64 l[k].pa, .int .i64 l[k].pq, .int .i64 l[k].pt, .int .i64 l[k].pz, .int .i64 l[k].pm], .int .i64 0]) (by simp [results, Try.results71, go_sem, hRe]) rfl ⟨ret_pl (by rw [HV.out, HE.out]; exact ⟨rfl, rfl, rfl, rfl, rfl, rfl⟩), set5 hBe _ _ _ _ _⟩
theorem refActive_any (f : ByteArray) (w : World) : Calls Try.prog 71 #[.string f] w fun e w' => e = .returned (.tuple #[.agg #[.int .i64 (actV f).pa, .int .i64 (actV f).pq, .int .i64 (actV f).pt, .int .i64 (actV f).pz, .int .i64 (actV f).pm], .int .i64 (errA f)]) ∧ Below w.heap.size w w' := by
  cases h : mayF f with
  | false =>
    obtain ⟨_, h1, h2⟩ := act_no h
    rw [h1, h2]
    exact refActive_no f w h
  | true => exact refActive_yes f w h
end Go.Proofs.Ytmbgdidelbkdgaa.ActNext

/- The contracts of the document's own staged record and of where the next record goes. -/
namespace Go.Proofs.Ytmbgdidelbkdgaa.ActApp
open Go.Proofs.Ytmbgdidelbkdgaa Go.RowKit Go.Proofs.Ytmbgdidelbkdgaa.Bytes Go.Proofs.Ytmbgdidelbkdgaa.NorWalk Go.Proofs.Ytmbgdidelbkdgaa.NorRef Go.Proofs.Ytmbgdidelbkdgaa.Ent Go.Proofs.Ytmbgdidelbkdgaa.EntRow Go.Proofs.Ytmbgdidelbkdgaa.EntWalk Go.Proofs.Ytmbgdidelbkdgaa.EntRef Go.Proofs.Ytmbgdidelbkdgaa.Jou Go.Proofs.Ytmbgdidelbkdgaa.JouRow Go.Proofs.Ytmbgdidelbkdgaa.JouWalk Go.Proofs.Ytmbgdidelbkdgaa.JouRef Go.Proofs.Ytmbgdidelbkdgaa.Ops Go.Proofs.Ytmbgdidelbkdgaa.Act Go.Proofs.Ytmbgdidelbkdgaa.ActRef Go.Proofs.Ytmbgdidelbkdgaa.ActNext

theorem rofOk_f {f : ByteArray} {t z : Int} (h : rofOk f t z = false) : mayB f = false ∨ mayB f = true ∧ baseOk t = false ∨ mayB f = true ∧ baseOk t = true ∧ upToB z 1 288 = false := by
  unfold rofOk at h
  have h' := of_decide_eq_false h
  unfold mayB baseOk upToB
  by_cases h1 : f.size = 768
  · rw [decide_eq_true h1]
    by_cases h2 : 0 ≤ t ∧ t ≤ 1
    · rw [decide_eq_true h2]
      exact .inr (.inr ⟨rfl, rfl, decide_eq_false (fun g => h' ⟨h1, h2.1, h2.2, g⟩)⟩)
    · rw [decide_eq_false h2]
      exact .inr (.inl ⟨rfl, rfl⟩)
  · rw [decide_eq_false h1]
    exact .inl rfl
theorem set4 {w W : World} (h : Below w.heap.size w W) (a b c d : Value) : Below w.heap.size w ((((W.setCell ⟨w.heap.size, 0, none⟩ a).setCell ⟨w.heap.size, 1, none⟩ b).setCell ⟨w.heap.size, 2, none⟩ c).setCell ⟨w.heap.size, 3, none⟩ d) :=
  (((h.setCell (p := ⟨w.heap.size, 0, none⟩) (Nat.le_refl _) _).setCell (p := ⟨w.heap.size, 1, none⟩) (Nat.le_refl _) _).setCell (p := ⟨w.heap.size, 2, none⟩) (Nat.le_refl _) _).setCell (p := ⟨w.heap.size, 3, none⟩) (Nat.le_refl _) _
theorem appOk_f {f : ByteArray} {q t z m : Int} (h : appOk f q t z m = false) : mayB f = false ∨ mayB f = true ∧ recMay q t z m = false := imgOk_f h
theorem news_of_owns {w : World} {base : Nat} {e : TypeId} {size g cap n : Nat} {xs : List Value} (h : w.ownsRow base e size (.slice (some ⟨g, 0, none⟩) n cap) n xs) : ∀ j u, xs[j]? = some u → w.cell? ((⟨g, 0, none⟩ : Addr).add j) = some u := by
  intro j u hu
  have hj : j < xs.length := (List.getElem?_eq_some_iff.1 hu).1
  have hadd : (⟨g, 0, none⟩ : Addr).add j = ⟨g, j, none⟩ := by unfold Addr.add; split <;> simp_all
  rw [hadd, h.cellAt j (by have := h.1; omega)]
  exact hu
theorem len6 (a : Int) (s : ByteArray) : (OpsRow.flat (wordsTo a s 6)).length = 6 * 3 := by rw [OpsRow.length_flat, length_wordsTo]
end Go.Proofs.Ytmbgdidelbkdgaa.ActApp
