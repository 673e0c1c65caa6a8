/- The contracts of package stage and of the document's own steps that erase a slot: the row of steps, owned; the record of a slot's first bytes; whatever the arguments. Of what was there nothing has turned. -/
import Derived.Test.YtlmndigldifaoaaStaMath
import Derived.Test.YtlmndigldifaoaaPlaWalk
namespace Go.Proofs.Ytlmndigldifaoaa.StaWalk
open Go.Proofs.Ytlmndigldifaoaa Go.RowKit Go.Proofs.Ytlmndigldifaoaa.Bytes Go.Proofs.Ytlmndigldifaoaa.NorWalk Go.Proofs.Ytlmndigldifaoaa.Ent Go.Proofs.Ytlmndigldifaoaa.EntRow Go.Proofs.Ytlmndigldifaoaa.EntWalk Go.Proofs.Ytlmndigldifaoaa.Jou Go.Proofs.Ytlmndigldifaoaa.Ops Go.Proofs.Ytlmndigldifaoaa.Act Go.Proofs.Ytlmndigldifaoaa.ActRef Go.Proofs.Ytlmndigldifaoaa.ActApp Go.Proofs.Ytlmndigldifaoaa.ImgWalk Go.Proofs.Ytlmndigldifaoaa.PlaWalk Go.Proofs.Ytlmndigldifaoaa.Sta

theorem errG_t {ok : Bool} (h : ok = true) : errG ok = 0 := by rw [h]; rfl
set_option maxRecDepth 100000 in
set_option maxHeartbeats 400000 in
theorem erases_no (t : Int) (w : World) (h : baseOk t = false) : Calls Try.prog 8 #[.int .i64 t] w fun e w' => e = .returned (.tuple #[.slice none 0 0, .int .i64 900]) ∧ w' = w := by
  have e1 : errI false = 600 := rfl
  have HB := hide (fun w => base_any t w)
  rw [h] at HB
  go_enter Try.func8, Try.ntmps8
  go_wp2_with (go_at_call 23; refine (HB.out _).mono ?_; rintro e w' ⟨rfl, rfl⟩)
  go_ret2
  exact ⟨rfl, rfl⟩
set_option maxRecDepth 100000 in
set_option maxHeartbeats 1000000 in
theorem erases_yes (t p : Nat) (w : World) (ht : t ≤ 1) (hp : p = 192 + 288 * t) : Calls Try.prog 8 #[.int .i64 (t : Int)] w fun e w' => ∃ v, e = .returned (.tuple #[v, .int .i64 0]) ∧ w'.ownsRow w.heap.size 53 3 v 3 (OpsRow.flat (erTo (p : Int) 3)) ∧ Below w.heap.size w w' := by
  have HB := hide (fun w => base_nat t p w ht hp)
  have hp1 : p ≤ 480 := by omega
  obtain ⟨i, hi, hz0, hz1, hz2⟩ := info_parts OpsWalk.info_op
  have hbd := OpsWalk.build_er_at
  clear hp ht
  go_enter Try.func8, Try.ntmps8
  go_wp2_with (go_at_call 23; refine (HB.out _).mono ?_; rintro e w' ⟨rfl, rfl⟩)
  go_loopw [6, 15] (fun s x wr => ∃ j : Nat, j ≤ 3 ∧ x = .int .i64 j ∧ wr.ownsRow w'.heap.size 53 3 s j (OpsRow.flat (erTo (p : Int) j)) ∧ Below w'.heap.size w' wr) (fun _ x _ => 3 - (intOf x).toNat)
  case atStart => exact ⟨0, Nat.zero_le _, rfl, OpsRow.owns_nil _ _ _, Below.refl _ _⟩
  case round =>
    obtain ⟨j, hj, rfl, hown, hbel⟩ := hrel
    by_cases hlt : j < 3
    · have s1 := hbel.size
      have b1 : j + 1 ≤ maxLen := by unfold maxLen; omega
      have b2 : (j + 1) * 32 ≤ 140737488355328 := by omega
      go_wp2_with (at_builtin; refine wpList_append_lies _ rfl _ _ _ rfl w'.heap.size 53 i _ 3 32 Try.underlying22 hi hz0 hz1 hz2 rfl (by omega) u6 j _ rfl (hown.alloc _) ⟨wr.heap.size, 0, none⟩ 1 1 _ rfl rfl (World.news_of_block (heap_alloc_new wr _)) (OpsRow.flat_oneCell [⟨true, _, ⟨#[]⟩⟩]) (by omega) b1 b2 (by simp; omega) _ rfl ?_; intro g cap w1 hown1 hgrow hat hlt1)
      refine ⟨⟨j + 1, by omega, by go_num, ?_, ?_⟩, by simp [intOf]; omega⟩
      · rw [erTo_succ, OpsRow.flat_append, Int.mul_comm 96 (j : Int)]
        exact hown1
      · exact (hbel.alloc s1 _).grown hgrow (by simp; omega) (fun k hk => (hown.lt k hk).1)
    · obtain rfl : j = 3 := by omega
      go_wp2
      go_ret2
      exact ⟨_, rfl, hown, hbel⟩
theorem erases_any (t : Int) (w : World) : Calls Try.prog 8 #[.int .i64 t] w fun e w' => ∃ v, e = .returned (.tuple #[v, .int .i64 (errG (baseOk t))]) ∧ w'.ownsRow w.heap.size 53 3 v (erL t).length (OpsRow.flat (erL t)) ∧ Below w.heap.size w w' := by
  cases h : baseOk t with
  | false =>
    rw [erL_no h]
    refine (erases_no t w h).mono ?_
    rintro e w' ⟨rfl, rfl⟩
    exact ⟨_, rfl, OpsRow.owns_nil _ _ _, Below.refl _ _⟩
  | true =>
    obtain ⟨h1, h2⟩ := baseOk_parts.1 h
    obtain ⟨a, rfl⟩ := Int.eq_ofNat_of_zero_le h1
    have e : baseI (a : Int) = ((192 + 288 * a : Nat) : Int) := by unfold baseI; rw [if_pos h]; omega
    rw [erL_ok h, length_erTo, e]
    exact erases_yes a _ w (by omega) rfl
set_option maxRecDepth 100000 in
set_option maxHeartbeats 400000 in
theorem refErases_no (t : Int) (w : World) (h : baseOk t = false) : Calls Try.prog 9 #[.int .i64 t] w fun e w' => e = .returned (.tuple #[.slice none 0 0, .int .i64 900]) ∧ w' = w := by
  have e1 : errI false = 600 := rfl
  have HB := hide (fun w => refBase_any t w)
  rw [h] at HB
  go_enter Try.func9, Try.ntmps9
  go_wp2_with (go_at_call 24; refine (HB.out _).mono ?_; rintro e w' ⟨rfl, rfl⟩)
  go_ret2
  exact ⟨rfl, rfl⟩
set_option maxRecDepth 100000 in
set_option maxHeartbeats 1000000 in
theorem refErases_yes (t p : Nat) (w : World) (ht : t ≤ 1) (hp : p = 192 + 288 * t) : Calls Try.prog 9 #[.int .i64 (t : Int)] w fun e w' => ∃ v, e = .returned (.tuple #[v, .int .i64 0]) ∧ w'.ownsRow w.heap.size 53 3 v 3 (OpsRow.flat (erTo (p : Int) 3)) ∧ Below w.heap.size w w' := by
  have HB := hide (fun w => refBase_nat t p w ht hp)
  have hp1 : p ≤ 480 := by omega
  obtain ⟨i, hi, hz0, hz1, hz2⟩ := info_parts OpsWalk.info_op
  have hbd := OpsWalk.build_er_at
  clear hp ht
  go_enter Try.func9, Try.ntmps9
  go_wp2_with (go_at_call 24; refine (HB.out _).mono ?_; rintro e w' ⟨rfl, rfl⟩)
  go_loopw [6, 7] (fun s x wr => ∃ j : Nat, j ≤ 3 ∧ x = .int .i64 j ∧ wr.ownsRow w'.heap.size 53 3 s j (OpsRow.flat (erTo (p : Int) j)) ∧ Below w'.heap.size w' wr) (fun _ x _ => 3 - (intOf x).toNat)
  case atStart => exact ⟨0, Nat.zero_le _, rfl, OpsRow.owns_nil _ _ _, Below.refl _ _⟩
  case round =>
    obtain ⟨j, hj, rfl, hown, hbel⟩ := hrel
    by_cases hlt : j < 3
    · have s1 := hbel.size
      have b1 : j + 1 ≤ maxLen := by unfold maxLen; omega
      have b2 : (j + 1) * 32 ≤ 140737488355328 := by omega
      go_wp2_with (at_builtin; refine wpList_append_lies _ rfl _ _ _ rfl w'.heap.size 53 i _ 3 32 Try.underlying22 hi hz0 hz1 hz2 rfl (by omega) u6 j _ rfl (hown.alloc _) ⟨wr.heap.size, 0, none⟩ 1 1 _ rfl rfl (World.news_of_block (heap_alloc_new wr _)) (OpsRow.flat_oneCell [⟨true, _, ⟨#[]⟩⟩]) (by omega) b1 b2 (by simp; omega) _ rfl ?_; intro g cap w1 hown1 hgrow hat hlt1)
      refine ⟨⟨j + 1, by omega, by go_num, ?_, ?_⟩, by simp [intOf]; omega⟩
      · rw [erTo_succ, OpsRow.flat_append, Int.mul_comm 96 (j : Int)]
        exact hown1
      · exact (hbel.alloc s1 _).grown hgrow (by simp; omega) (fun k hk => (hown.lt k hk).1)
    · obtain rfl : j = 3 := by omega
      go_wp2
      go_ret2
      exact ⟨_, rfl, hown, hbel⟩
theorem refErases_any (t : Int) (w : World) : Calls Try.prog 9 #[.int .i64 t] w fun e w' => ∃ v, e = .returned (.tuple #[v, .int .i64 (errG (baseOk t))]) ∧ w'.ownsRow w.heap.size 53 3 v (erL t).length (OpsRow.flat (erL t)) ∧ Below w.heap.size w w' := by
  cases h : baseOk t with
  | false =>
    rw [erL_no h]
    refine (refErases_no t w h).mono ?_
    rintro e w' ⟨rfl, rfl⟩
    exact ⟨_, rfl, OpsRow.owns_nil _ _ _, Below.refl _ _⟩
  | true =>
    obtain ⟨h1, h2⟩ := baseOk_parts.1 h
    obtain ⟨a, rfl⟩ := Int.eq_ofNat_of_zero_le h1
    have e : baseI (a : Int) = ((192 + 288 * a : Nat) : Int) := by unfold baseI; rw [if_pos h]; omega
    rw [erL_ok h, length_erTo, e]
    exact refErases_yes a _ w (by omega) rfl
theorem rof_c {f : ByteArray} {t z : Int} (h : rofOk f t z = false) : baseOk t = false ∨ (baseOk t = true ∧ mayB f = false) ∨ (baseOk t = true ∧ mayB f = true ∧ z < 1) ∨ (baseOk t = true ∧ mayB f = true ∧ ¬ z < 1 ∧ 288 < z) := by
  unfold rofOk at h
  have h' := of_decide_eq_false h
  unfold mayB baseOk
  by_cases h2 : 0 ≤ t ∧ t ≤ 1
  · rw [decide_eq_true h2]
    by_cases h1 : f.size = 768
    · rw [decide_eq_true h1]
      by_cases h3 : z < 1
      · exact .inr (.inr (.inl ⟨rfl, rfl, h3⟩))
      · exact .inr (.inr (.inr ⟨rfl, rfl, h3, by omega⟩))
    · rw [decide_eq_false h1]
      exact .inr (.inl ⟨rfl, rfl⟩)
  · rw [decide_eq_false h2]
    exact .inl rfl
set_option maxRecDepth 100000 in
set_option maxHeartbeats 400000 in
theorem record_no (f : ByteArray) (t z : Int) (w : World) (h : rofOk f t z = false) : Calls Try.prog 10 #[.string f, .int .i64 t, .int .i64 z] w fun e w' => e = .returned (.tuple #[.agg #[.int .i64 0, .int .i64 0, .int .i64 0, .int .i64 0], .int .i64 900]) ∧ Below w.heap.size w w' := by
  have b2 := build_none
  have e0 : errI true = 0 := rfl
  have e1 : errI false = 600 := rfl
  have HB := hide (fun w => base_any t w)
  have HM := hide (fun w => may_any f w)
  rcases rof_c h with h1 | ⟨h1, h2⟩ | ⟨h1, h2, h3⟩ | ⟨h1, h2, h3, h4⟩
  · rw [h1] at HB
    clear h
    go_enter Try.func10, Try.ntmps10
    go_wp2_with (go_at_call 23; refine (HB.out _).mono ?_; rintro e w' ⟨rfl, rfl⟩)
    exact bodyPost_ret (v := .tuple #[.agg #[.int .i64 0, .int .i64 0, .int .i64 0, .int .i64 0], .int .i64 900]) (by simp [results, Try.results10, go_sem]) rfl ⟨rfl, (Below.refl _ _).alloc (Nat.le_refl _) _⟩
  all_goals
    rw [h1] at HB
    rw [h2] at HM
    clear h
    go_enter Try.func10, Try.ntmps10
    go_wp2_with (first | (go_at_call 23; refine (HB.out _).mono ?_; rintro e w' ⟨rfl, rfl⟩) | (go_at_call 25; refine (HM.out _).mono ?_; rintro e w' ⟨rfl, rfl⟩))
    exact bodyPost_ret (v := .tuple #[.agg #[.int .i64 0, .int .i64 0, .int .i64 0, .int .i64 0], .int .i64 900]) (by simp [results, Try.results10, go_sem]) rfl ⟨rfl, (Below.refl _ _).alloc (Nat.le_refl _) _⟩
set_option maxRecDepth 100000 in
set_option maxHeartbeats 1000000 in
theorem record_yes (f : ByteArray) (t z : Nat) (w : World) (h : rofOk f t z = true) : Calls Try.prog 10 #[.string f, .int .i64 (t : Int), .int .i64 (z : Int)] w fun e w' => e = .returned (.tuple #[.agg #[.int .i64 (rofQ f t z), .int .i64 (rofT f t z), .int .i64 (rofZ f t z), .int .i64 (rofM f t z)], .int .i64 (errS f t z)]) ∧ Below w.heap.size w w' := by
  have b1 := build_rec
  have b2 := build_none
  obtain ⟨hf, h1, h2, h3, h4⟩ := rofOk_parts.1 h
  have hm : mayB f = true := mayF_t hf
  obtain ⟨p, hp⟩ : ∃ p : Nat, p = 192 + 288 * t := ⟨_, rfl⟩
  have hp1 : p + z ≤ f.size := by omega
  have hp2 : f.size ≤ 768 := by omega
  have hz0 : (f.extract p (p + z)).size < 9223372036854775808 := by rw [ByteArray.size_extract]; omega
  have hz1 : ¬ (z : Int) < 1 := by omega
  have hz2 : ¬ (288 : Int) < (z : Int) := by omega
  have HC : Hid (∀ w, Calls Try.prog 27 #[.string (f.extract p (p + z))] w fun e w' => e = .returned (.int .i64 (sumI f t z)) ∧ w' = w) := fun w => by
    have h := CrcSum.sum_any (f.extract p (p + z)) w hz0
    have e : sumI f t z = ((Crc.sum (f.extract p (p + z)).data.toList : Nat) : Int) := by unfold sumI cutI; rw [Int.toNat_natCast, Int.toNat_natCast, hp]
    rw [e]
    exact h
  have HBa := hide (fun w => base_nat t p w (by omega) hp)
  have HM := hide (fun w => may_any f w)
  rw [hm] at HM
  have HNx := hide (fun w => next_any f w)
  have hB := (Below.refl w.heap.size w).alloc (Nat.le_refl _) (.cells #[.int .i64 0, .int .i64 0, .int .i64 0, .int .i64 0] 29)
  have hR := resM w (.int .i64 0) (.int .i64 0) (.int .i64 0) (.int .i64 0) 29
  have hmF : mayF f = true := hm
  by_cases hg : topI f < 1048576
  · obtain ⟨n1, n2⟩ := next_yes hmF hg
    rw [n1, n2] at HNx
    have HV := hide (rof_yes h hg)
    have ht := topI_bound f
    clear h hf h1 h2 h3 h4 hp hz0 n1 n2 hmF hm
    generalize topI f + 1 = Q at *
    generalize sumI f t z = M at *
    go_enter Try.func10, Try.ntmps10
    go_wp2_with (first | (go_at_call 23; refine (HBa.out _).mono ?_; rintro e w' ⟨rfl, rfl⟩) | (go_at_call 25; refine (HM.out _).mono ?_; rintro e w' ⟨rfl, rfl⟩) | (go_at_call 26; refine (HNx.out _).mono ?_; rintro e w2 ⟨rfl, hb⟩; replace hB := thenB hB hb; replace hR := resB hR hb; clear hb) | (go_at_call 27; refine (HC.out _).mono ?_; rintro e w3 ⟨rfl, rfl⟩))
    exact bodyPost_ret (v := .tuple #[.agg #[.int .i64 Q, .int .i64 (t : Int), .int .i64 (z : Int), .int .i64 M], .int .i64 0]) (by simp [results, Try.results10, go_sem, hR]) rfl ⟨ret_rec (by obtain ⟨v1, v2, v3, v4, v5⟩ := HV.out; exact ⟨v1.symm, v2.symm, v3.symm, v4.symm, v5.symm⟩), set4 hB _ _ _ _⟩
  · obtain ⟨n1, n2⟩ := next_full hmF hg
    rw [n1, n2] at HNx
    have HV := hide (rof_full h hg)
    clear h hf h1 h2 h3 h4 hp hz0 n1 n2 hmF hg hm
    go_enter Try.func10, Try.ntmps10
    go_wp2_with (first | (go_at_call 23; refine (HBa.out _).mono ?_; rintro e w' ⟨rfl, rfl⟩) | (go_at_call 25; refine (HM.out _).mono ?_; rintro e w' ⟨rfl, rfl⟩) | (go_at_call 26; refine (HNx.out _).mono ?_; rintro e w2 ⟨rfl, hb⟩; replace hB := thenB hB hb; replace hR := resB hR hb; clear hb))
    exact bodyPost_ret (v := .tuple #[.agg #[.int .i64 0, .int .i64 0, .int .i64 0, .int .i64 0], .int .i64 801]) (by simp [results, Try.results10, go_sem, hR]) rfl ⟨ret_rec (by obtain ⟨v1, v2, v3, v4, v5⟩ := HV.out; exact ⟨v1.symm, v2.symm, v3.symm, v4.symm, v5.symm⟩), set4 hB _ _ _ _⟩
theorem record_any (f : ByteArray) (t z : Int) (w : World) : Calls Try.prog 10 #[.string f, .int .i64 t, .int .i64 z] w fun e w' => e = .returned (.tuple #[.agg #[.int .i64 (rofQ f t z), .int .i64 (rofT f t z), .int .i64 (rofZ f t z), .int .i64 (rofM f t z)], .int .i64 (errS f t z)]) ∧ Below w.heap.size w w' := by
  cases h : rofOk f t z with
  | false =>
    obtain ⟨v1, v2, v3, v4, v5⟩ := rof_no h
    rw [v1, v2, v3, v4, v5]
    exact record_no f t z w h
  | true =>
    obtain ⟨_, h1, h2, h3, h4⟩ := rofOk_parts.1 h
    obtain ⟨a, rfl⟩ := Int.eq_ofNat_of_zero_le h1
    obtain ⟨b, rfl⟩ := Int.eq_ofNat_of_zero_le (show 0 ≤ z by omega)
    exact record_yes f a b w h
end Go.Proofs.Ytlmndigldifaoaa.StaWalk
