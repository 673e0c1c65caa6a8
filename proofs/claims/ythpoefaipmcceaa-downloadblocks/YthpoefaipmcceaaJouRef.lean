/- The contracts of the document's own journal (its records, the first blank place of a sector), and of the laws' helpers on rows of records. -/
import Derived.Test.YthpoefaipmcceaaJouWalk
import Derived.Test.YthpoefaipmcceaaNorRef
import Derived.Test.YthpoefaipmcceaaEntRef
import Derived.Laws.StructEq
namespace Go.Proofs.Ythpoefaipmcceaa.JouRef
open Go.Proofs.Ythpoefaipmcceaa Go.RowKit Go.Proofs.Ythpoefaipmcceaa.Bytes Go.Proofs.Ythpoefaipmcceaa.NorWalk Go.Proofs.Ythpoefaipmcceaa.NorRef Go.Proofs.Ythpoefaipmcceaa.Ent Go.Proofs.Ythpoefaipmcceaa.EntRow Go.Proofs.Ythpoefaipmcceaa.EntWalk Go.Proofs.Ythpoefaipmcceaa.EntRef Go.Proofs.Ythpoefaipmcceaa.Jou Go.Proofs.Ythpoefaipmcceaa.JouRow Go.Proofs.Ythpoefaipmcceaa.JouWalk

theorem numJ_any (n : Int) (w : World) : Calls Try.prog 12 #[.int .i64 n] w fun e w' => e = .returned (.int .i64 n) ∧ w' = w := by
  go_enter Try.func12, Try.ntmps12
  go_wp2
  go_ret
  exact ⟨rfl, rfl⟩
set_option maxRecDepth 100000 in
set_option maxHeartbeats 400000 in
theorem refScan_no (f : ByteArray) (w : World) (h : mayF f = false) : Calls Try.prog 51 #[.string f] w fun e w' => e = .returned (.tuple #[.slice none 0 0, .int .i64 500]) ∧ w' = w := by
  have h : mayB f = false := h
  go_enter Try.func51, Try.ntmps51
  go_wp2_with (first | (go_at_call 46; refine (flashMay_any _ _).mono ?_; rintro e w' ⟨rfl, rfl⟩))
  go_ret2
  exact ⟨rfl, rfl⟩
set_option maxRecDepth 100000 in
set_option maxHeartbeats 2000000 in
theorem refScan_yes (f : ByteArray) (w : World) (h : f.size = 768) : Calls Try.prog 51 #[.string f] w fun e w' => ∃ v, e = .returned (.tuple #[v, .int .i64 0]) ∧ w'.ownsRow w.heap.size 68 5 v (foundTo f 8).length (flatP (foundTo f 8)) ∧ Below w.heap.size w w' := by
  have hm : mayB f = true := mayF_t h
  have HF : Hid (f.size = 768) := h
  have hz1 : f.size ≤ 768 := by omega
  have hz2 : 768 ≤ f.size := by omega
  clear h
  obtain ⟨i, hi, hy0, hy1, hy2⟩ := info_parts info_pl
  have hbd := build_pl
  go_enter Try.func51, Try.ntmps51
  go_wp2_with (first | (go_at_call 46; refine (flashMay_any _ _).mono ?_; rintro e w' ⟨rfl, rfl⟩))
  go_loopw [4, 5] (fun s x wr => ∃ k : Nat, k ≤ 2 ∧ x = .int .i64 k ∧ wr.ownsRow w'.heap.size 68 5 s (foundTo f (4 * k)).length (flatP (foundTo f (4 * k))) ∧ Below w'.heap.size w' wr) (fun _ x _ => 2 - (intOf x).toNat)
  case atStart => exact ⟨0, Nat.zero_le _, rfl, ownsP_nil _ _ _, Below.refl _ _⟩
  case round =>
    obtain ⟨k, hk, rfl, hown0, hbel0⟩ := hrel
    by_cases hlt0 : k < 2
    · go_wp2
      rw [decide_eq_true (show (k : Int) < 2 by omega)]
      go_loopw [4, 6] (fun s x wr => ∃ j : Nat, 4 * k ≤ j ∧ j ≤ 4 * k + 4 ∧ x = .int .i64 ((24 * j : Nat) : Int) ∧ wr.ownsRow w'.heap.size 68 5 s (foundTo f j).length (flatP (foundTo f j)) ∧ Below w'.heap.size w' wr) (fun _ x _ => 24 * (4 * k + 4) - (intOf x).toNat)
      case atStart => exact ⟨4 * k, Nat.le_refl _, by omega, by go_num, hown0, hbel0⟩
      case round =>
        obtain ⟨j, hj0, hj, rfl, hown, hbel⟩ := hrel
        clear hown0 hbel0
        by_cases hlt : j < 4 * k + 4
        · have e0 : errE true = 0 := rfl
          have e1 : errE false = 400 := rfl
          have s1 := hbel.size
          have hlen := foundTo_len f j
          have hg0 : 24 * (j : Int) + 24 ≤ ((k : Int) + 1) * 96 := by omega
          have hz3 : 24 * j + 24 ≤ f.size := by omega
          have HR : Hid (recAt f j = ⟨24 * (j : Int), gq (slotS f j), gt (slotS f j), gz (slotS f j), gm (slotS f j)⟩) := rfl
          have HX : Hid (f.extract (24 * j) (24 * j + 24) = slotS f j) := rfl
          have HG := hide (fun w => refGet_any (slotS f j) w)
          cases hg : getOk (slotS f j) with
          | false =>
            have HS : Hid (foundTo f (j + 1) = foundTo f j) := foundTo_no f j hg
            rw [hg] at HG
            go_wp2_with (go_at_call 67; refine (HG.out _).mono ?_; rintro e w2 ⟨rfl, hb2⟩)
            have s2 := hb2.size
            refine ⟨⟨j + 1, by omega, by omega, by go_num, ?_, ?_⟩, by simp [intOf]; omega⟩
            · rw [HS.out]
              exact (OpsRow.owns_below hown hb2).alloc _
            · exact (thenB hbel hb2).alloc (Nat.le_trans s1 s2) _
          | true =>
            have HS : Hid (foundTo f (j + 1) = foundTo f j ++ [recAt f j]) := foundTo_yes f j hg
            rw [hg] at HG
            generalize hL : foundTo f j = L at *
            clear hL
            have b1 : L.length + 1 ≤ maxLen := by unfold maxLen; omega
            have b2 : (L.length + 1) * 40 ≤ 140737488355328 := by omega
            go_wp2_with (first | (go_at_call 67; refine (HG.out _).mono ?_; rintro e w2 ⟨rfl, hb2⟩; have s2 := hb2.size) | (at_builtin; refine wpList_append_lies _ rfl _ _ _ rfl w'.heap.size 68 i _ 5 40 Try.underlying86 hi hy0 hy1 hy2 rfl (by omega) u4 L.length _ rfl (((OpsRow.owns_below hown hb2).alloc _).alloc _) ⟨w2.heap.size + 1, 0, none⟩ 1 1 _ rfl rfl (World.news_of_block (new2 w2 _ _)) (flatP_oneCell [⟨_, _, _, _, _⟩]) (by omega) b1 b2 (by simp; omega) _ rfl ?_; intro g cap w3 hown1 hgrow hat hlt1))
            refine ⟨⟨j + 1, by omega, by omega, by go_num, ?_, ?_⟩, by simp [intOf]; omega⟩
            · rw [HS.out, flatP_append, List.length_append, HR.out]
              exact hown1
            · exact (((thenB hbel hb2).alloc (Nat.le_trans s1 s2) _).alloc (by simp; omega) _).grown hgrow (by simp; omega) (fun k hk => (hown.lt k hk).1)
        · have HJ : Hid (j = 4 * (k + 1)) := by show j = 4 * (k + 1); omega
          have hg0 : ¬ 24 * (j : Int) + 24 ≤ ((k : Int) + 1) * 96 := by omega
          have hj9 : j ≤ 12 := by omega
          clear hj hj0 hlt
          go_wp2
          exact ⟨⟨k + 1, by omega, by go_num, by rw [← HJ.out]; exact hown, hbel⟩, by simp [intOf]; omega⟩
    · obtain rfl : k = 2 := by omega
      go_wp2
      go_ret2
      exact ⟨_, rfl, hown0, hbel0⟩
theorem refScan_any (f : ByteArray) (w : World) : Calls Try.prog 51 #[.string f] w fun e w' => ∃ v, e = .returned (.tuple #[v, .int .i64 (errJ (mayF f))]) ∧ w'.ownsRow w.heap.size 68 5 v (scanL f).length (flatP (scanL f)) ∧ Below w.heap.size w w' := by
  by_cases h : f.size = 768
  · rw [mayF_t h, scan_ok h]
    exact refScan_yes f w h
  · rw [mayF_f h, Jou.scan_no h]
    refine (refScan_no f w (mayF_f h)).mono ?_
    rintro e w' ⟨rfl, rfl⟩
    exact ⟨_, rfl, ownsP_nil _ _ _, Below.refl _ _⟩

theorem freeRef_f {f : ByteArray} {s : Int} (h : freeOk f s = false) : mayB f = false ∨ mayB f = true ∧ upToB s 0 1 = false := by
  unfold freeOk at h
  have h' := of_decide_eq_false h
  unfold mayB upToB
  by_cases h1 : f.size = 768
  · rw [decide_eq_true h1]
    exact .inr ⟨rfl, decide_eq_false (fun g => h' ⟨h1, g⟩)⟩
  · rw [decide_eq_false h1]
    exact .inl rfl
theorem full24_any (w : World) : Calls Try.prog 32 #[.int .i64 24] w fun e w' => e = .returned (.string full24) ∧ Below w.heap.size w w' := full_any 24 w (by omega)
end Go.Proofs.Ythpoefaipmcceaa.JouRef
