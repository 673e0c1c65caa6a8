/- The contracts of the document's own staged record and of where the next record goes. -/
import Derived.Test.YtlmndigldifaoaaActNext
namespace Go.Proofs.Ytlmndigldifaoaa.ActApp
open Go.Proofs.Ytlmndigldifaoaa Go.RowKit Go.Proofs.Ytlmndigldifaoaa.Bytes Go.Proofs.Ytlmndigldifaoaa.NorWalk Go.Proofs.Ytlmndigldifaoaa.NorRef Go.Proofs.Ytlmndigldifaoaa.Ent Go.Proofs.Ytlmndigldifaoaa.EntRow Go.Proofs.Ytlmndigldifaoaa.EntWalk Go.Proofs.Ytlmndigldifaoaa.EntRef Go.Proofs.Ytlmndigldifaoaa.Jou Go.Proofs.Ytlmndigldifaoaa.JouRow Go.Proofs.Ytlmndigldifaoaa.JouWalk Go.Proofs.Ytlmndigldifaoaa.JouRef Go.Proofs.Ytlmndigldifaoaa.Ops Go.Proofs.Ytlmndigldifaoaa.Act Go.Proofs.Ytlmndigldifaoaa.ActRef Go.Proofs.Ytlmndigldifaoaa.ActNext

theorem rofOk_f {f : ByteArray} {t z : Int} (h : rofOk f t z = false) : mayB f = false ∨ mayB f = true ∧ baseOk t = false ∨ mayB f = true ∧ baseOk t = true ∧ upToB z 1 288 = false := by
  unfold rofOk at h
  have h' := of_decide_eq_false h
  unfold mayB baseOk upToB
  by_cases h1 : f.size = 768
  · rw [decide_eq_true h1]
    by_cases h2 : 0 ≤ t ∧ t ≤ 1
    · rw [decide_eq_true h2]
      exact .inr (.inr ⟨rfl, rfl, decide_eq_false (fun g => h' ⟨h1, h2.1, h2.2, g⟩)⟩)
    · rw [decide_eq_false h2]
      exact .inr (.inl ⟨rfl, rfl⟩)
  · rw [decide_eq_false h1]
    exact .inl rfl
set_option maxRecDepth 100000 in
set_option maxHeartbeats 400000 in
theorem refRof_no (f : ByteArray) (t z : Int) (w : World) (h : rofOk f t z = false) : Calls Try.prog 11 #[.string f, .int .i64 t, .int .i64 z] w fun e w' => e = .returned (.tuple #[.agg #[.int .i64 0, .int .i64 0, .int .i64 0, .int .i64 0], .int .i64 900]) ∧ Below w.heap.size w w' := by
  have b2 := build_none
  have e0 : errI true = 0 := rfl
  have e1 : errI false = 600 := rfl
  cases hb : baseOk t with
  | false =>
    have HBa := hide (fun w => refBase_any t w)
    rw [hb] at HBa
    cases hm : mayB f
    all_goals
      go_enter Try.func11, Try.ntmps11
      go_wp2_with (first | (first | (go_at_call 28; refine (flashMay_any _ _).mono ?_; rintro e w' ⟨rfl, rfl⟩) | (go_at_call 29; refine (upTo_any _ _ _ _).mono ?_; rintro e w' ⟨rfl, rfl⟩)) | (go_at_call 24; refine (HBa.out _).mono ?_; rintro e w' ⟨rfl, rfl⟩))
      exact bodyPost_ret (v := .tuple #[.agg #[.int .i64 0, .int .i64 0, .int .i64 0, .int .i64 0], .int .i64 900]) (by simp [results, Try.results11, go_sem]) rfl ⟨rfl, (Below.refl _ _).alloc (Nat.le_refl _) _⟩
  | true =>
    have HBa := hide (fun w => refBase_any t w)
    rw [hb] at HBa
    rcases rofOk_f h with h1 | ⟨h1, h2⟩ | ⟨h1, _, h2⟩
    · go_enter Try.func11, Try.ntmps11
      go_wp2_with (first | (first | (go_at_call 28; refine (flashMay_any _ _).mono ?_; rintro e w' ⟨rfl, rfl⟩) | (go_at_call 29; refine (upTo_any _ _ _ _).mono ?_; rintro e w' ⟨rfl, rfl⟩)) | (go_at_call 24; refine (HBa.out _).mono ?_; rintro e w' ⟨rfl, rfl⟩))
      exact bodyPost_ret (v := .tuple #[.agg #[.int .i64 0, .int .i64 0, .int .i64 0, .int .i64 0], .int .i64 900]) (by simp [results, Try.results11, go_sem]) rfl ⟨rfl, (Below.refl _ _).alloc (Nat.le_refl _) _⟩
    · rw [hb] at h2; cases h2
    · go_enter Try.func11, Try.ntmps11
      go_wp2_with (first | (first | (go_at_call 28; refine (flashMay_any _ _).mono ?_; rintro e w' ⟨rfl, rfl⟩) | (go_at_call 29; refine (upTo_any _ _ _ _).mono ?_; rintro e w' ⟨rfl, rfl⟩)) | (go_at_call 24; refine (HBa.out _).mono ?_; rintro e w' ⟨rfl, rfl⟩))
      exact bodyPost_ret (v := .tuple #[.agg #[.int .i64 0, .int .i64 0, .int .i64 0, .int .i64 0], .int .i64 900]) (by simp [results, Try.results11, go_sem]) rfl ⟨rfl, (Below.refl _ _).alloc (Nat.le_refl _) _⟩
theorem set4 {w W : World} (h : Below w.heap.size w W) (a b c d : Value) : Below w.heap.size w ((((W.setCell ⟨w.heap.size, 0, none⟩ a).setCell ⟨w.heap.size, 1, none⟩ b).setCell ⟨w.heap.size, 2, none⟩ c).setCell ⟨w.heap.size, 3, none⟩ d) :=
  (((h.setCell (p := ⟨w.heap.size, 0, none⟩) (Nat.le_refl _) _).setCell (p := ⟨w.heap.size, 1, none⟩) (Nat.le_refl _) _).setCell (p := ⟨w.heap.size, 2, none⟩) (Nat.le_refl _) _).setCell (p := ⟨w.heap.size, 3, none⟩) (Nat.le_refl _) _
set_option maxRecDepth 100000 in
set_option maxHeartbeats 1000000 in
theorem refRof_yes (f : ByteArray) (t z : Nat) (w : World) (h : rofOk f t z = true) : Calls Try.prog 11 #[.string f, .int .i64 (t : Int), .int .i64 (z : Int)] w fun e w' => e = .returned (.tuple #[.agg #[.int .i64 (rofQ f t z), .int .i64 (rofT f t z), .int .i64 (rofZ f t z), .int .i64 (rofM f t z)], .int .i64 (errS f t z)]) ∧ Below w.heap.size w w' := by
  have b1 := build_rec
  have b2 := build_none
  obtain ⟨hf, h1, h2, h3, h4⟩ := rofOk_parts.1 h
  have hm : mayB f = true := mayF_t hf
  have hu : upToB (z : Int) 1 288 = true := by unfold upToB; exact decide_eq_true ⟨h3, h4⟩
  obtain ⟨p, hp⟩ : ∃ p : Nat, p = 192 + 288 * t := ⟨_, rfl⟩
  have hp1 : p + z ≤ f.size := by omega
  have hp2 : f.size ≤ 768 := by omega
  have hz0 : (f.extract p (p + z)).size < 9223372036854775808 := by rw [ByteArray.size_extract]; omega
  have HC : Hid (∀ w, Calls Try.prog 22 #[.string (f.extract p (p + z))] w fun e w' => e = .returned (.int .i64 (sumI f t z)) ∧ w' = w) := fun w => by
    have h := CrcAwake.ref_any (f.extract p (p + z)) w hz0
    have e : sumI f t z = ((Crc.sum (f.extract p (p + z)).data.toList : Nat) : Int) := by unfold sumI cutI; rw [Int.toNat_natCast, Int.toNat_natCast, hp]
    rw [e]
    exact h
  have HBa := hide (fun w => refBase_nat t p w (by omega) hp)
  have HNx := hide (fun w => refNext_any f w)
  have hB := (Below.refl w.heap.size w).alloc (Nat.le_refl _) (.cells #[.int .i64 0, .int .i64 0, .int .i64 0, .int .i64 0] 29)
  have hR := resM w (.int .i64 0) (.int .i64 0) (.int .i64 0) (.int .i64 0) 29
  have hmF : mayF f = true := hm
  by_cases hg : topI f < 1048576
  · obtain ⟨n1, n2⟩ := next_yes hmF hg
    rw [n1, n2] at HNx
    have HV := hide (rof_yes h hg)
    have ht := topI_bound f
    clear h hf h1 h2 h3 h4 hp hz0 n1 n2 hmF
    generalize topI f + 1 = Q at *
    generalize sumI f t z = M at *
    go_enter Try.func11, Try.ntmps11
    go_wp2_with (first | (first | (go_at_call 28; refine (flashMay_any _ _).mono ?_; rintro e w' ⟨rfl, rfl⟩) | (go_at_call 29; refine (upTo_any _ _ _ _).mono ?_; rintro e w' ⟨rfl, rfl⟩)) | (go_at_call 24; refine (HBa.out _).mono ?_; rintro e w' ⟨rfl, rfl⟩) | (go_at_call 30; refine (HNx.out _).mono ?_; rintro e w2 ⟨rfl, hb⟩; replace hB := thenB hB hb; replace hR := resB hR hb; clear hb) | (go_at_call 22; refine (HC.out _).mono ?_; rintro e w3 ⟨rfl, rfl⟩))
    exact bodyPost_ret (v := .tuple #[.agg #[.int .i64 Q, .int .i64 (t : Int), .int .i64 (z : Int), .int .i64 M], .int .i64 0]) (by simp [results, Try.results11, go_sem, hR]) rfl ⟨ret_rec (by obtain ⟨v1, v2, v3, v4, v5⟩ := HV.out; exact ⟨v1.symm, v2.symm, v3.symm, v4.symm, v5.symm⟩), set4 hB _ _ _ _⟩
  · obtain ⟨n1, n2⟩ := next_full hmF hg
    rw [n1, n2] at HNx
    have HV := hide (rof_full h hg)
    clear h hf h1 h2 h3 h4 hp hz0 n1 n2 hmF hg
    go_enter Try.func11, Try.ntmps11
    go_wp2_with (first | (first | (go_at_call 28; refine (flashMay_any _ _).mono ?_; rintro e w' ⟨rfl, rfl⟩) | (go_at_call 29; refine (upTo_any _ _ _ _).mono ?_; rintro e w' ⟨rfl, rfl⟩)) | (go_at_call 24; refine (HBa.out _).mono ?_; rintro e w' ⟨rfl, rfl⟩) | (go_at_call 30; refine (HNx.out _).mono ?_; rintro e w2 ⟨rfl, hb⟩; replace hB := thenB hB hb; replace hR := resB hR hb; clear hb))
    exact bodyPost_ret (v := .tuple #[.agg #[.int .i64 0, .int .i64 0, .int .i64 0, .int .i64 0], .int .i64 801]) (by simp [results, Try.results11, go_sem, hR]) rfl ⟨ret_rec (by obtain ⟨v1, v2, v3, v4, v5⟩ := HV.out; exact ⟨v1.symm, v2.symm, v3.symm, v4.symm, v5.symm⟩), set4 hB _ _ _ _⟩
theorem refRof_any (f : ByteArray) (t z : Int) (w : World) : Calls Try.prog 11 #[.string f, .int .i64 t, .int .i64 z] w fun e w' => e = .returned (.tuple #[.agg #[.int .i64 (rofQ f t z), .int .i64 (rofT f t z), .int .i64 (rofZ f t z), .int .i64 (rofM f t z)], .int .i64 (errS f t z)]) ∧ Below w.heap.size w w' := by
  cases h : rofOk f t z with
  | false =>
    obtain ⟨v1, v2, v3, v4, v5⟩ := rof_no h
    rw [v1, v2, v3, v4, v5]
    exact refRof_no f t z w h
  | true =>
    obtain ⟨_, h1, h2, h3, h4⟩ := rofOk_parts.1 h
    obtain ⟨a, rfl⟩ := Int.eq_ofNat_of_zero_le h1
    obtain ⟨b, rfl⟩ := Int.eq_ofNat_of_zero_le (show 0 ≤ z by omega)
    exact refRof_yes f a b w h
theorem appOk_f {f : ByteArray} {q t z m : Int} (h : appOk f q t z m = false) : mayB f = false ∨ mayB f = true ∧ recMay q t z m = false := imgOk_f h
set_option maxRecDepth 100000 in
set_option maxHeartbeats 400000 in
theorem refApp_no (f : ByteArray) (q t z m : Int) (w : World) (h : appOk f q t z m = false) : Calls Try.prog 37 #[.string f, .agg #[.int .i64 q, .int .i64 t, .int .i64 z, .int .i64 m]] w fun e w' => e = .returned (.tuple #[.slice none 0 0, .int .i64 800]) ∧ Below w.heap.size w w' := by
  have hB := (Below.refl w.heap.size w).alloc (Nat.le_refl _) (.cells #[.int .i64 q, .int .i64 t, .int .i64 z, .int .i64 m] 29)
  have hX := boxM w (.int .i64 q) (.int .i64 t) (.int .i64 z) (.int .i64 m) 29
  have e1 : errE false = 400 := rfl
  rcases appOk_f h with h1 | ⟨h1, h2⟩
  all_goals
    go_enter Try.func37, Try.ntmps37
    go_wp2_with (first | (go_at_call 28; refine (flashMay_any _ _).mono ?_; rintro e w' ⟨rfl, rfl⟩) | (go_at_call 19; refine (refPut_any _ _ _ _ _).mono ?_; rintro e w' ⟨rfl, hb⟩; replace hB := hB.trans (hb.mono hB.size); replace hX := boxB hX hb; clear hb))
    go_ret2
    exact ⟨rfl, hB⟩
theorem news_of_owns {w : World} {base : Nat} {e : TypeId} {size g cap n : Nat} {xs : List Value} (h : w.ownsRow base e size (.slice (some ⟨g, 0, none⟩) n cap) n xs) : ∀ j u, xs[j]? = some u → w.cell? ((⟨g, 0, none⟩ : Addr).add j) = some u := by
  intro j u hu
  have hj : j < xs.length := (List.getElem?_eq_some_iff.1 hu).1
  have hadd : (⟨g, 0, none⟩ : Addr).add j = ⟨g, j, none⟩ := by unfold Addr.add; split <;> simp_all
  rw [hadd, h.cellAt j (by have := h.1; omega)]
  exact hu
theorem len6 (a : Int) (s : ByteArray) : (OpsRow.flat (wordsTo a s 6)).length = 6 * 3 := by rw [OpsRow.length_flat, length_wordsTo]
set_option maxRecDepth 100000 in
set_option maxHeartbeats 2000000 in
theorem refApp_yes (f : ByteArray) (q t z m : Int) (w : World) (h : appOk f q t z m = true) : Calls Try.prog 37 #[.string f, .agg #[.int .i64 q, .int .i64 t, .int .i64 z, .int .i64 m]] w fun e w' => ∃ v, e = .returned (.tuple #[v, .int .i64 0]) ∧ w'.ownsRow w.heap.size 53 3 v (appL f q t z m).length (OpsRow.flat (appL f q t z m)) ∧ Below w.heap.size w w' := by
  have hB := (Below.refl w.heap.size w).alloc (Nat.le_refl _) (.cells #[.int .i64 q, .int .i64 t, .int .i64 z, .int .i64 m] 29)
  have hX := boxM w (.int .i64 q) (.int .i64 t) (.int .i64 z) (.int .i64 m) 29
  have e1 : errE true = 0 := rfl
  obtain ⟨hf, hr⟩ := imgOk_parts.1 h
  have hm : mayB f = true := mayF_t hf
  obtain ⟨i, hi, hz0, hz1, hz2⟩ := info_parts OpsWalk.info_op
  have hbd := OpsWalk.build_er_at
  obtain ⟨o1, o2, o3⟩ := app_words h
  have HW := hide (fun w => OpsHelp.refWords_any (appA f) (putS q t z m) w)
  rw [o1, o3, length_wordsTo] at HW
  have e2 : errO true = 0 := rfl
  have HL := hide (app_ok h)
  have hhome := home_01 f
  obtain ⟨H, hH⟩ : ∃ H : Int, homeI f = H := ⟨_, rfl⟩
  have HFr := hide (fun w => refFree_any f H w)
  have HAc := hide (fun w => refActive_any f w)
  have hpa : Hid ((actV f).pa / 96 = H) := hH
  rw [hH] at hhome
  obtain ⟨hh0, hh1⟩ := hhome
  have HA : Hid (errA f = 0 ∧ 0 ≤ (actV f).pa ∧ (actV f).pa ≤ 168 ∨ errA f = 701 ∧ H = 0) := by
    show _ ∨ _
    cases hb : bestO f with
    | none =>
      obtain ⟨_, a2, a3⟩ := act_none (mayF_t hf) hb
      refine .inr ⟨a3, ?_⟩
      rw [← hH]
      unfold homeI
      rw [a2]
      rfl
    | some k =>
      obtain ⟨a1, a2, a3⟩ := act_some (mayF_t hf) (bestTo_lt hb) hb
      obtain ⟨_, _, m1, m2⟩ := scan_mem (act_mem a1)
      rw [a2]
      exact .inl ⟨a3, m1, m2⟩
  have HE : Hid (appA f = (if freeIs f H then freeAt f H else (1 - H) * 96) ∧ appE f = (if freeIs f H then [] else [⟨true, (1 - H) * 96, ⟨#[]⟩⟩])) := by
    show _ ∧ _
    unfold appA appE
    rw [hH]
    exact ⟨rfl, rfl⟩
  have HPu := hide (fun w => refPut_any q t z m w)
  rw [hr] at HPu
  clear h hf hH o1 o2 o3 hr
  generalize putS q t z m = S at *
  generalize (actV f).pq = Aq at *
  generalize (actV f).pt = At at *
  generalize (actV f).pz = Az at *
  generalize (actV f).pm = Am at *
  generalize (actV f).pa = Aa at *
  rcases HA.out with ⟨ha, ha1, ha2⟩ | ⟨ha, rfl⟩
  · rw [ha] at HAc
    have hdiv := hpa.out
    clear HA ha
    go_enter Try.func37, Try.ntmps37
    go_wp2_with (first | (first | (go_at_call 28; refine (flashMay_any _ _).mono ?_; rintro e w' ⟨rfl, rfl⟩)) | (go_at_call 19; refine (HPu.out _).mono ?_; rintro e w' ⟨rfl, hb⟩; replace hB := hB.trans (hb.mono hB.size); replace hX := boxB hX hb; clear hb))
    refine (HAc.out _).mono ?_
    rintro e w2 ⟨rfl, hb⟩
    replace hB := thenB hB hb
    clear hb hX
    replace hB := hB.alloc hB.size (.cells #[.int .i64 Aa, .int .i64 Aq, .int .i64 At, .int .i64 Az, .int .i64 Am] 45)
    go_wp2_with fail
    refine (HFr.out _).mono ?_
    rintro e w3 ⟨rfl, hb⟩
    replace hB := thenB hB hb
    clear hb
    obtain ⟨hA, hE⟩ := HE.out
    have hb3 := hB.size
    cases hfr : freeIs f H with
    | true =>
      rw [hfr, if_pos rfl] at hA hE
      rw [hA] at HW HL
      rw [hE] at HL
      clear hA hE HE HFr HAc hdiv
      generalize freeAt f H = A at *
      go_wp2_with fail
      refine (HW.out _).mono ?_
      rintro e w4 ⟨v, rfl, hown, hb⟩
      replace hB := thenB hB hb
      clear hb HW
      obtain ⟨g, cap, rfl, _, _⟩ := hown.form (by omega)
      have hb4 := hB.size
      go_wp2_with (at_builtin; refine wpList_append_lies _ rfl _ _ _ rfl w.heap.size 53 i _ 3 32 Try.underlying22 hi hz0 hz1 hz2 rfl (by omega) (.slice none 0 0) 0 _ rfl (OpsRow.owns_nil _ _ _) ⟨g, 0, none⟩ 6 cap _ rfl (len6 A S) (news_of_owns hown) (OpsRow.flat_oneCell _) (by omega) (by decide) (by decide) hb4 _ rfl ?_; intro g2 cap2 w5 hown1 hgrow hat hlt1)
      go_ret2
      refine ⟨_, rfl, ?_, hB.grown hgrow hb4 (fun k hk => by cases hk)⟩
      rw [HL.out, List.length_append, length_wordsTo, OpsRow.flat_append]
      exact hown1
    | false =>
      rw [hfr, if_neg (by decide)] at hA hE
      rw [hA] at HW HL
      rw [hE] at HL
      clear hA hE HE HFr HAc hpa
      generalize freeAt f H = A0 at *
      go_wp2_with (at_builtin; refine wpList_append_lies _ rfl _ _ _ rfl w.heap.size 53 i _ 3 32 Try.underlying22 hi hz0 hz1 hz2 rfl (by omega) (.slice none 0 0) 0 _ rfl (OpsRow.owns_nil _ _ _) ⟨w3.heap.size, 0, none⟩ 1 1 _ rfl rfl (World.news_of_block (heap_alloc_new w3 _)) (OpsRow.flat_oneCell [⟨true, _, _⟩]) (by omega) (by decide) (by decide) (by simp; omega) _ rfl ?_; intro g2 cap2 w5 hown1 hgrow hat hlt1; replace hB := (hB.alloc hb3 _).grown hgrow (by simp; omega) (fun k hk => by cases hk))
      refine (HW.out _).mono ?_
      rintro e w4 ⟨v, rfl, hown, hb⟩
      replace hB := thenB hB hb
      replace hown1 := OpsRow.owns_below hown1 hb
      clear hb HW
      obtain ⟨g, cap, rfl, _, _⟩ := hown.form (by omega)
      have hb4 := hB.size
      go_wp2_with (at_builtin; refine wpList_append_lies _ rfl _ _ _ rfl w.heap.size 53 i _ 3 32 Try.underlying22 hi hz0 hz1 hz2 rfl (by omega) _ 1 _ rfl hown1 ⟨g, 0, none⟩ 6 cap _ rfl (len6 _ S) (news_of_owns hown) (OpsRow.flat_oneCell _) (by omega) (by decide) (by decide) hb4 _ rfl ?_; intro g3 cap3 w6 hown2 hgrow2 hat2 hlt2)
      go_ret2
      refine ⟨_, rfl, ?_, hB.grown hgrow2 hb4 (fun k hk => (hown1.lt k hk).1)⟩
      rw [HL.out, List.length_append, length_wordsTo, OpsRow.flat_append]
      exact hown2
  · rw [ha] at HAc
    clear HA ha
    go_enter Try.func37, Try.ntmps37
    go_wp2_with (first | (first | (go_at_call 28; refine (flashMay_any _ _).mono ?_; rintro e w' ⟨rfl, rfl⟩)) | (go_at_call 19; refine (HPu.out _).mono ?_; rintro e w' ⟨rfl, hb⟩; replace hB := hB.trans (hb.mono hB.size); replace hX := boxB hX hb; clear hb))
    refine (HAc.out _).mono ?_
    rintro e w2 ⟨rfl, hb⟩
    replace hB := thenB hB hb
    clear hb hX
    replace hB := hB.alloc hB.size (.cells #[.int .i64 Aa, .int .i64 Aq, .int .i64 At, .int .i64 Az, .int .i64 Am] 45)
    go_wp2_with fail
    refine (HFr.out _).mono ?_
    rintro e w3 ⟨rfl, hb⟩
    replace hB := thenB hB hb
    clear hb
    obtain ⟨hA, hE⟩ := HE.out
    have hb3 := hB.size
    cases hfr : freeIs f 0 with
    | true =>
      rw [hfr, if_pos rfl] at hA hE
      rw [hA] at HW HL
      rw [hE] at HL
      clear hA hE HE HFr HAc
      generalize freeAt f 0 = A at *
      go_wp2_with fail
      refine (HW.out _).mono ?_
      rintro e w4 ⟨v, rfl, hown, hb⟩
      replace hB := thenB hB hb
      clear hb HW
      obtain ⟨g, cap, rfl, _, _⟩ := hown.form (by omega)
      have hb4 := hB.size
      go_wp2_with (at_builtin; refine wpList_append_lies _ rfl _ _ _ rfl w.heap.size 53 i _ 3 32 Try.underlying22 hi hz0 hz1 hz2 rfl (by omega) (.slice none 0 0) 0 _ rfl (OpsRow.owns_nil _ _ _) ⟨g, 0, none⟩ 6 cap _ rfl (len6 A S) (news_of_owns hown) (OpsRow.flat_oneCell _) (by omega) (by decide) (by decide) hb4 _ rfl ?_; intro g2 cap2 w5 hown1 hgrow hat hlt1)
      go_ret2
      refine ⟨_, rfl, ?_, hB.grown hgrow hb4 (fun k hk => by cases hk)⟩
      rw [HL.out, List.length_append, length_wordsTo, OpsRow.flat_append]
      exact hown1
    | false =>
      rw [hfr, if_neg (by decide), show (1 - (0 : Int)) * 96 = 96 from rfl] at hA hE
      rw [hA] at HW HL
      rw [hE] at HL
      clear hA hE HE HFr HAc hpa
      generalize freeAt f 0 = A0 at *
      go_wp2_with (at_builtin; refine wpList_append_lies _ rfl _ _ _ rfl w.heap.size 53 i _ 3 32 Try.underlying22 hi hz0 hz1 hz2 rfl (by omega) (.slice none 0 0) 0 _ rfl (OpsRow.owns_nil _ _ _) ⟨w3.heap.size, 0, none⟩ 1 1 _ rfl rfl (World.news_of_block (heap_alloc_new w3 _)) (OpsRow.flat_oneCell [⟨true, _, _⟩]) (by omega) (by decide) (by decide) (by simp; omega) _ rfl ?_; intro g2 cap2 w5 hown1 hgrow hat hlt1; replace hB := (hB.alloc hb3 _).grown hgrow (by simp; omega) (fun k hk => by cases hk))
      refine (HW.out _).mono ?_
      rintro e w4 ⟨v, rfl, hown, hb⟩
      replace hB := thenB hB hb
      replace hown1 := OpsRow.owns_below hown1 hb
      clear hb HW
      obtain ⟨g, cap, rfl, _, _⟩ := hown.form (by omega)
      have hb4 := hB.size
      go_wp2_with (at_builtin; refine wpList_append_lies _ rfl _ _ _ rfl w.heap.size 53 i _ 3 32 Try.underlying22 hi hz0 hz1 hz2 rfl (by omega) _ 1 _ rfl hown1 ⟨g, 0, none⟩ 6 cap _ rfl (len6 _ S) (news_of_owns hown) (OpsRow.flat_oneCell _) (by omega) (by decide) (by decide) hb4 _ rfl ?_; intro g3 cap3 w6 hown2 hgrow2 hat2 hlt2)
      go_ret2
      refine ⟨_, rfl, ?_, hB.grown hgrow2 hb4 (fun k hk => (hown1.lt k hk).1)⟩
      rw [HL.out, List.length_append, length_wordsTo, OpsRow.flat_append]
      exact hown2
theorem refApp_any (f : ByteArray) (q t z m : Int) (w : World) : Calls Try.prog 37 #[.string f, .agg #[.int .i64 q, .int .i64 t, .int .i64 z, .int .i64 m]] w fun e w' => ∃ v, e = .returned (.tuple #[v, .int .i64 (errP (appOk f q t z m))]) ∧ w'.ownsRow w.heap.size 53 3 v (appL f q t z m).length (OpsRow.flat (appL f q t z m)) ∧ Below w.heap.size w w' := by
  cases h : appOk f q t z m with
  | false =>
    rw [app_no h]
    refine (refApp_no f q t z m w h).mono ?_
    rintro e w' ⟨rfl, hb⟩
    exact ⟨_, rfl, OpsRow.owns_nil _ _ _, hb⟩
  | true => exact refApp_yes f q t z m w h
end Go.Proofs.Ytlmndigldifaoaa.ActApp
