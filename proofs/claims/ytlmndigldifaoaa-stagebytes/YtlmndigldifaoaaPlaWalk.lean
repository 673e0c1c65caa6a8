/- The contracts of package place: the next record's number, the sector in which the active one stands, where the next one goes, the steps that lay it down; whatever the arguments. Of what was there nothing has turned. -/
import Derived.Test.YtlmndigldifaoaaChoWalk
import Derived.Test.YtlmndigldifaoaaActApp
import Derived.Test.YtlmndigldifaoaaOpsWords
import Derived.Laws.OwnMore
namespace Go.Proofs.Ytlmndigldifaoaa.PlaWalk
open Go.Proofs.Ytlmndigldifaoaa Go.RowKit Go.Proofs.Ytlmndigldifaoaa.Bytes Go.Proofs.Ytlmndigldifaoaa.NorWalk Go.Proofs.Ytlmndigldifaoaa.Ent Go.Proofs.Ytlmndigldifaoaa.EntRow Go.Proofs.Ytlmndigldifaoaa.EntWalk Go.Proofs.Ytlmndigldifaoaa.Jou Go.Proofs.Ytlmndigldifaoaa.JouRow Go.Proofs.Ytlmndigldifaoaa.JouWalk Go.Proofs.Ytlmndigldifaoaa.Ops Go.Proofs.Ytlmndigldifaoaa.Act Go.Proofs.Ytlmndigldifaoaa.ActRef Go.Proofs.Ytlmndigldifaoaa.ActNext Go.Proofs.Ytlmndigldifaoaa.ActApp Go.Proofs.Ytlmndigldifaoaa.Cho Go.Proofs.Ytlmndigldifaoaa.ChoWalk

set_option maxHeartbeats 400000 in
theorem next_none (f : ByteArray) (w : World) (h : mayF f = false) : Calls Try.prog 26 #[.string f] w fun e w' => e = .returned (.tuple #[.int .i64 0, .int .i64 800]) ∧ w' = w := by
  have hm : mayB f = false := h
  go_enter Try.func26, Try.ntmps26
  go_wp2_with (first | (go_at_call 25; refine (may_any _ _).mono ?_; rintro e w' ⟨rfl, rfl⟩))
  go_ret2
  exact ⟨rfl, rfl⟩
set_option maxRecDepth 100000 in
set_option maxHeartbeats 2000000 in
theorem next_some (f : ByteArray) (w : World) (h : mayF f = true) : Calls Try.prog 26 #[.string f] w fun e w' => e = .returned (.tuple #[.int .i64 (nextI f), .int .i64 (errX f)]) ∧ Below w.heap.size w w' := by
  have hm : mayB f = true := h
  have HS := hide (fun w => JouWalk.scan_any f w)
  rw [h] at HS
  have e0 : errJ true = 0 := rfl
  have hlen := scan_len f
  have HB := hide (scan_seq f)
  have HN : Hid (∀ x : Int, x = topI f → (1048576 ≤ x ∧ nextI f = 0 ∧ errX f = 801) ∨ (¬ 1048576 ≤ x ∧ x < 1048576 ∧ nextI f = x + 1 ∧ errX f = 0)) := fun x hx => by
    subst hx
    have := topI_bound f
    by_cases g : topI f < 1048576
    · exact .inr ⟨by omega, g, next_yes h g⟩
    · exact .inl ⟨by omega, next_full h g⟩
  have HT : Hid (topI f = topOf (scanL f)) := rfl
  clear h
  generalize scanL f = l at *
  go_enter Try.func26, Try.ntmps26
  go_wp2_with (first | (go_at_call 25; refine (may_any _ _).mono ?_; rintro e w' ⟨rfl, rfl⟩))
  refine (HS.out _).mono ?_
  rintro e w1 ⟨v, rfl, hown, hB⟩
  obtain ⟨a, cap, rfl, hin⟩ := ownsP_is hown
  clear hown HS
  go_wp2
  go_loopw [6, 19] (fun x y wr => ∃ (t : Int) (n : Nat), n ≤ l.length ∧ x = .int .i64 t ∧ y = .int .i64 n ∧ Hid (t = topOf (l.take n)) ∧ Below w1.heap.size w1 wr) (fun _ y _ => l.length - (intOf y).toNat)
  case atStart => exact ⟨0, 0, Nat.zero_le _, rfl, rfl, rfl, Below.refl _ _⟩
  case round =>
    obtain ⟨t, n, hn, rfl, rfl, HX, hbel⟩ := hrel
    have hb : 0 ≤ t ∧ t ≤ 1048576 := by rw [HX.out]; exact topOf_bound _ (fun p hp => HB.out p (List.mem_of_mem_take hp))
    obtain ⟨hb1, hb2⟩ := hb
    by_cases hlt : n < l.length
    · rcases hin with hin | ⟨g, rfl, hg, hin⟩
      · rw [hin] at hlt; simp at hlt
      have hin1 := hin.below hbel hg
      have c0 := hin1.pa n hlt
      have c1 := hin1.pq n hlt
      have c2 := hin1.pt n hlt
      have c3 := hin1.pz n hlt
      have c4 := hin1.pm n hlt
      obtain ⟨k, hk⟩ : ∃ k : Int, k = max t l[n].pq := ⟨_, rfl⟩
      have HX2 : Hid (k = topOf (l.take (n + 1))) := by show k = _; rw [topOf_take l n hlt, ← HX.out, hk]
      have hmx := run_maxI (P := Try.prog) t l[n].pq k hk
      clear hk hin hin1
      generalize l[n].pa = A at *
      generalize l[n].pq = Q at *
      generalize l[n].pt = T at *
      generalize l[n].pz = Z at *
      generalize l[n].pm = M at *
      go_wp2
      exact ⟨⟨k, n + 1, by omega, rfl, by go_num, HX2, hbel.alloc hbel.size _⟩, by simp [intOf]; omega⟩
    · have HT2 : Hid (t = topI f) := by show t = topI f; rw [HT.out, HX.out, List.take_of_length_le (by omega)]
      replace hB := thenB hB hbel
      rcases HN.out t HT2.out with ⟨g1, g2, g3⟩ | ⟨g1, g2, g3, g4⟩
      · have G2 := hide g2
        have G3 := hide g3
        clear g2 g3
        go_wp2
        go_ret2
        exact ⟨ret_ii G2.out.symm G3.out.symm, hB⟩
      · have G3 := hide g3
        have G4 := hide g4
        clear g3 g4
        go_wp2
        go_ret2
        exact ⟨ret_ii G3.out.symm G4.out.symm, hB⟩
theorem next_any (f : ByteArray) (w : World) : Calls Try.prog 26 #[.string f] w fun e w' => e = .returned (.tuple #[.int .i64 (nextI f), .int .i64 (errX f)]) ∧ Below w.heap.size w w' := by
  cases h : mayF f with
  | false =>
    rw [(next_no h).1, (next_no h).2]
    refine (next_none f w h).mono ?_
    rintro e w' ⟨rfl, rfl⟩
    exact ⟨rfl, Below.refl _ _⟩
  | true => exact next_some f w h
theorem ret_i {a b : Int} (h : a = b) : Ending.returned (.int .i64 a) = .returned (.int .i64 b) := by rw [h]
theorem ret_ib {a b : Int} {c d : Bool} (h : a = b) (g : c = d) : Ending.returned (.tuple #[.int .i64 a, .bool c]) = .returned (.tuple #[.int .i64 b, .bool d]) := by rw [h, g]
theorem act_pa (f : ByteArray) : 0 ≤ (actV f).pa ∧ (actV f).pa ≤ 168 := by
  rcases three f with ⟨_, _, h, _⟩ | ⟨_, _, h, _⟩ | ⟨_, h, _⟩
  · rw [h]; show (0 : Int) ≤ 0 ∧ (0 : Int) ≤ 168; omega
  · rw [h]; show (0 : Int) ≤ 0 ∧ (0 : Int) ≤ 168; omega
  · exact (act_rec h).2.2
theorem appOk_ff {f : ByteArray} {q t z m : Int} (h : appOk f q t z m = false) : recMay q t z m = false ∨ recMay q t z m = true ∧ mayB f = false := by
  unfold appOk at h
  cases hr : recMay q t z m with
  | false => exact .inl rfl
  | true => rw [hr, Bool.and_true] at h; exact .inr ⟨rfl, h⟩
end Go.Proofs.Ytlmndigldifaoaa.PlaWalk
