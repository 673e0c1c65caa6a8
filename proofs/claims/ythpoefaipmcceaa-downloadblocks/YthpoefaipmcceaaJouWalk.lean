/- The contracts of package journal: each call returns what the plain functions give, whatever its arguments; of what was there nothing has turned. -/
import Derived.Test.YthpoefaipmcceaaJouRow
import Derived.Test.YthpoefaipmcceaaEntWalk
namespace Go.Proofs.Ythpoefaipmcceaa.JouWalk
open Go.Proofs.Ythpoefaipmcceaa Go.RowKit Go.Proofs.Ythpoefaipmcceaa.Bytes Go.Proofs.Ythpoefaipmcceaa.NorWalk Go.Proofs.Ythpoefaipmcceaa.Ent Go.Proofs.Ythpoefaipmcceaa.EntRow Go.Proofs.Ythpoefaipmcceaa.EntWalk Go.Proofs.Ythpoefaipmcceaa.Jou Go.Proofs.Ythpoefaipmcceaa.JouRow

theorem ret_str {a b : ByteArray} (h : a = b) : Ending.returned (.string a) = .returned (.string b) := by rw [h]
theorem bytesAt_any (f : ByteArray) (j a : Nat) (w : World) (hf : f.size = 768) (hj : j < 32) (ha : a = 24 * j) : Calls Try.prog 80 #[.string f, .int .i64 (a : Int)] w fun e w' => e = .returned (.string (slotS f j)) ∧ w' = w := by
  have h1 : a + 24 ≤ f.size := by omega
  have h2 : f.size ≤ 768 := by omega
  have HX : Hid (slotS f j = f.extract a (a + 24)) := by subst ha; rfl
  clear hf ha
  go_enter Try.func80, Try.ntmps80
  go_wp2
  go_ret
  exact ⟨ret_str HX.out.symm, rfl⟩
def ffB (s : ByteArray) : Bool := decide (s.data.toList = List.replicate s.size 255)
theorem ff_get {s : ByteArray} (h : ∀ i (hi : i < s.size), s[i] = 255) : ffB s = true := by
  unfold ffB
  refine decide_eq_true (List.ext_getElem? fun i => ?_)
  by_cases hi : i < s.size
  · rw [Nor.ba_get s i hi, h i hi, List.getElem?_replicate, if_pos hi]
  · rw [List.getElem?_eq_none (by rw [Nor.size_list]; omega), List.getElem?_replicate, if_neg hi]
theorem ff_not {s : ByteArray} {i : Nat} (hi : i < s.size) (h : ¬ s[i] = 255) : ffB s = false := by
  unfold ffB
  refine decide_eq_false (fun e => h ?_)
  have g := Nor.ba_get s i hi
  rw [e, List.getElem?_replicate, if_pos hi] at g
  exact (Option.some.inj g).symm
theorem u8_ne {b : UInt8} (h : ¬ b = 255) : ((b.toNat : Int) != 255) = true := by
  rw [bne_iff_ne]
  intro e
  exact h (UInt8.toNat_inj.1 (by simpa using (show b.toNat = 255 by omega)))
theorem ff_slot {f : ByteArray} {j : Nat} (hf : f.size = 768) (hj : j < 32) : ffB (slotS f j) = blankP f j := by
  unfold ffB blankP
  rw [size_slotS hf hj, decide_eq_decide]
  constructor
  · intro h; exact ba_ext h
  · intro h; rw [h]; rfl

theorem info_pl : (Try.prog.info? 68).map (fun i => (i.zero, i.size, i.bytes)) = some (some (.agg #[.int .i64 0, .int .i64 0, .int .i64 0, .int .i64 0, .int .i64 0]), 5, 40) := by kernel_rfl
theorem build_pl (a q t z m : Int) (w : World) : (Instr.build 68 #[(0, .int .i64 a), (1, .agg #[.int .i64 q, .int .i64 t, .int .i64 z, .int .i64 m])]).run Try.prog w = .ok (.agg #[.int .i64 a, .int .i64 q, .int .i64 t, .int .i64 z, .int .i64 m]) w := run_build w 68 _ _ (by kernel_rfl)
theorem may_f (f : ByteArray) : mayB f = mayF f := rfl
theorem new2 (w : World) (o p : Obj) : ((w.alloc o).alloc p).heap[w.heap.size + 1]? = some p := by
  have h := heap_alloc_new (w.alloc o) p
  rw [show (w.alloc o).heap.size = w.heap.size + 1 from by simp] at h
  exact h
set_option maxRecDepth 100000 in
set_option maxHeartbeats 400000 in
theorem scan_no (f : ByteArray) (w : World) (h : mayF f = false) : Calls Try.prog 72 #[.string f] w fun e w' => e = .returned (.tuple #[.slice none 0 0, .int .i64 500]) ∧ w' = w := by
  have h : mayB f = false := h
  go_enter Try.func72, Try.ntmps72
  go_wp2_with (first | (go_at_call 20; refine (may_any _ _).mono ?_; rintro e w' ⟨rfl, rfl⟩))
  go_ret2
  exact ⟨rfl, rfl⟩
set_option maxRecDepth 100000 in
set_option maxHeartbeats 1000000 in
theorem scan_yes (f : ByteArray) (w : World) (h : f.size = 768) : Calls Try.prog 72 #[.string f] w fun e w' => ∃ v, e = .returned (.tuple #[v, .int .i64 0]) ∧ w'.ownsRow w.heap.size 68 5 v (foundTo f 8).length (flatP (foundTo f 8)) ∧ Below w.heap.size w w' := by
  have hm : mayB f = true := mayF_t h
  have HF : Hid (f.size = 768) := h
  clear h
  obtain ⟨i, hi, hz0, hz1, hz2⟩ := info_parts info_pl
  have hbd := build_pl
  go_enter Try.func72, Try.ntmps72
  go_wp2_with (first | (go_at_call 20; refine (may_any _ _).mono ?_; rintro e w' ⟨rfl, rfl⟩))
  go_loopw [4, 12] (fun s x wr => ∃ j : Nat, j ≤ 8 ∧ x = .int .i64 j ∧ wr.ownsRow w'.heap.size 68 5 s (foundTo f j).length (flatP (foundTo f j)) ∧ Below w'.heap.size w' wr) (fun _ x _ => 8 - (intOf x).toNat)
  case atStart => exact ⟨0, Nat.zero_le _, rfl, ownsP_nil _ _ _, Below.refl _ _⟩
  case round =>
    obtain ⟨j, hj, rfl, hown, hbel⟩ := hrel
    by_cases hlt : j < 8
    · have hj1 : (j : Int) * 24 = ((24 * j : Nat) : Int) := by omega
      have e0 : errE true = 0 := rfl
      have e1 : errE false = 400 := rfl
      have s1 := hbel.size
      have hlen := foundTo_len f j
      have HR : Hid (recAt f j = ⟨((24 * j : Nat) : Int), gq (slotS f j), gt (slotS f j), gz (slotS f j), gm (slotS f j)⟩) := by unfold recAt; rw [Int.natCast_mul]; rfl
      cases hg : getOk (slotS f j) with
      | false =>
        have HS : Hid (foundTo f (j + 1) = foundTo f j) := foundTo_no f j hg
        go_wp2_with (first | (go_at_call 80; refine (bytesAt_any _ j _ _ HF.out (by omega) rfl).mono ?_; rintro e w1 ⟨rfl, rfl⟩) | (go_at_call 79; refine (get_any _ _).mono ?_; rintro e w2 ⟨rfl, hb2⟩))
        have s2 := hb2.size
        refine ⟨⟨j + 1, by omega, by go_num, ?_, ?_⟩, by simp [intOf]; omega⟩
        · rw [HS.out]
          exact (OpsRow.owns_below hown hb2).alloc _
        · exact (thenB hbel hb2).alloc (Nat.le_trans s1 s2) _
      | true =>
        have HS : Hid (foundTo f (j + 1) = foundTo f j ++ [recAt f j]) := foundTo_yes f j hg
        generalize hL : foundTo f j = L at *
        clear hL
        have b1 : L.length + 1 ≤ maxLen := by unfold maxLen; omega
        have b2 : (L.length + 1) * 40 ≤ 140737488355328 := by omega
        go_wp2_with (first | (go_at_call 80; refine (bytesAt_any _ j _ _ HF.out (by omega) rfl).mono ?_; rintro e w1 ⟨rfl, rfl⟩) | (go_at_call 79; refine (get_any _ _).mono ?_; rintro e w2 ⟨rfl, hb2⟩; have s2 := hb2.size) | (at_builtin; refine wpList_append_lies _ rfl _ _ _ rfl w'.heap.size 68 i _ 5 40 Try.underlying86 hi hz0 hz1 hz2 rfl (by omega) u4 L.length _ rfl (((OpsRow.owns_below hown hb2).alloc _).alloc _) ⟨w2.heap.size + 1, 0, none⟩ 1 1 _ rfl rfl (World.news_of_block (new2 w2 _ _)) (flatP_oneCell [⟨_, _, _, _, _⟩]) (by omega) b1 b2 (by simp; omega) _ rfl ?_; intro g cap w3 hown1 hgrow hat hlt1))
        refine ⟨⟨j + 1, by omega, by go_num, ?_, ?_⟩, by simp [intOf]; omega⟩
        · rw [HS.out, flatP_append, List.length_append, HR.out]
          exact hown1
        · exact (((thenB hbel hb2).alloc (Nat.le_trans s1 s2) _).alloc (by simp; omega) _).grown hgrow (by simp; omega) (fun k hk => (hown.lt k hk).1)
    · obtain rfl : j = 8 := by omega
      go_wp2
      go_ret2
      exact ⟨_, rfl, hown, hbel⟩
theorem scan_any (f : ByteArray) (w : World) : Calls Try.prog 72 #[.string f] w fun e w' => ∃ v, e = .returned (.tuple #[v, .int .i64 (errJ (mayF f))]) ∧ w'.ownsRow w.heap.size 68 5 v (scanL f).length (flatP (scanL f)) ∧ Below w.heap.size w w' := by
  by_cases h : f.size = 768
  · rw [mayF_t h, scan_ok h]
    exact scan_yes f w h
  · rw [mayF_f h, Jou.scan_no h]
    refine (scan_no f w (mayF_f h)).mono ?_
    rintro e w' ⟨rfl, rfl⟩
    exact ⟨_, rfl, ownsP_nil _ _ _, Below.refl _ _⟩
theorem freeOk_f {f : ByteArray} {s : Int} (h : freeOk f s = false) : mayB f = false ∨ mayB f = true ∧ s < 0 ∨ mayB f = true ∧ 0 ≤ s ∧ 2 ≤ s := by
  unfold freeOk at h
  have h' := of_decide_eq_false h
  unfold mayB
  by_cases h1 : f.size = 768
  · rw [decide_eq_true h1]
    by_cases h2 : s < 0
    · exact .inr (.inl ⟨rfl, h2⟩)
    · exact .inr (.inr ⟨rfl, by omega, by omega⟩)
  · rw [decide_eq_false h1]
    exact .inl rfl
theorem ret3 {a a' : Int} {b b' : Bool} {c c' : Int} (h1 : a = a') (h2 : b = b') (h3 : c = c') : Ending.returned (.tuple #[.int .i64 a, .bool b, .int .i64 c]) = .returned (.tuple #[.int .i64 a', .bool b', .int .i64 c']) := by rw [h1, h2, h3]
end Go.Proofs.Ythpoefaipmcceaa.JouWalk
