/- The contracts of package place: the next record's number, the sector in which the active one stands, where the next one goes, the steps that lay it down; whatever the arguments. Of what was there nothing has turned. -/
import Derived.Test.YtmlfkbkpkgaefaaGreatDoorBagCho
import Derived.Test.YtmlfkbkpkgaefaaGreatDoorBagAct
import Derived.Test.YtmlfkbkpkgaefaaGreatDoorBagOps
import Derived.Laws.OwnMore
namespace Go.Proofs.YtmlfkbkpkgaefaaGreatDoor.PlaWalk
open Go.Proofs.YtmlfkbkpkgaefaaGreatDoor Go.RowKit Go.Proofs.YtmlfkbkpkgaefaaGreatDoor.Bytes Go.Proofs.YtmlfkbkpkgaefaaGreatDoor.NorWalk Go.Proofs.YtmlfkbkpkgaefaaGreatDoor.Ent Go.Proofs.YtmlfkbkpkgaefaaGreatDoor.EntRow Go.Proofs.YtmlfkbkpkgaefaaGreatDoor.EntWalk Go.Proofs.YtmlfkbkpkgaefaaGreatDoor.Jou Go.Proofs.YtmlfkbkpkgaefaaGreatDoor.JouRow Go.Proofs.YtmlfkbkpkgaefaaGreatDoor.JouWalk Go.Proofs.YtmlfkbkpkgaefaaGreatDoor.Ops Go.Proofs.YtmlfkbkpkgaefaaGreatDoor.Act Go.Proofs.YtmlfkbkpkgaefaaGreatDoor.ActRef Go.Proofs.YtmlfkbkpkgaefaaGreatDoor.ActNext Go.Proofs.YtmlfkbkpkgaefaaGreatDoor.ActApp Go.Proofs.YtmlfkbkpkgaefaaGreatDoor.Cho Go.Proofs.YtmlfkbkpkgaefaaGreatDoor.ChoWalk

set_option maxHeartbeats 400000 in
theorem next_none (f : ByteArray) (w : World) (h : mayF f = false) : Calls Tryz.prog 138 #[.string f] w fun e w' => e = .returned (.tuple #[.int .i64 0, .int .i64 800]) ∧ w' = w := by
  have hm : mayB f = false := h
  go_enter Tryz.func138, Tryz.ntmps138
  go_wp2_with (first | (go_at_call 21; refine (may_any _ _).mono ?_; rintro e w' ⟨rfl, rfl⟩))
  go_ret2
  exact ⟨rfl, rfl⟩
set_option maxRecDepth 100000 in
set_option maxHeartbeats 2000000 in
theorem next_some (f : ByteArray) (w : World) (h : mayF f = true) : Calls Tryz.prog 138 #[.string f] w fun e w' => e = .returned (.tuple #[.int .i64 (nextI f), .int .i64 (errX f)]) ∧ Below w.heap.size w w' := by
  have hm : mayB f = true := h
  have HS := hide (fun w => JouWalk.scan_any f w)
  rw [h] at HS
  have e0 : errJ true = 0 := rfl
  have hlen := scan_len f
  have HB := hide (scan_seq f)
  have HN : Hid (∀ x : Int, x = topI f → (1048576 ≤ x ∧ nextI f = 0 ∧ errX f = 801) ∨ (¬ 1048576 ≤ x ∧ x < 1048576 ∧ nextI f = x + 1 ∧ errX f = 0)) := fun x hx => by
    subst hx
    have := topI_bound f
    by_cases g : topI f < 1048576
    · exact .inr ⟨by omega, g, next_yes h g⟩
    · exact .inl ⟨by omega, next_full h g⟩
  have HT : Hid (topI f = topOf (scanL f)) := rfl
  clear h
  generalize scanL f = l at *
  go_enter Tryz.func138, Tryz.ntmps138
  go_wp2_with (first | (go_at_call 21; refine (may_any _ _).mono ?_; rintro e w' ⟨rfl, rfl⟩))
  refine (HS.out _).mono ?_
  rintro e w1 ⟨v, rfl, hown, hB⟩
  obtain ⟨a, cap, rfl, hin⟩ := ownsP_is hown
  clear hown HS
  go_wp2
  go_loopw [6, 19] (fun x y wr => ∃ (t : Int) (n : Nat), n ≤ l.length ∧ x = .int .i64 t ∧ y = .int .i64 n ∧ Hid (t = topOf (l.take n)) ∧ Below w1.heap.size w1 wr) (fun _ y _ => l.length - (intOf y).toNat)
  case atStart => exact ⟨0, 0, Nat.zero_le _, rfl, rfl, rfl, Below.refl _ _⟩
  case round =>
    obtain ⟨t, n, hn, rfl, rfl, HX, hbel⟩ := hrel
    have hb : 0 ≤ t ∧ t ≤ 1048576 := by rw [HX.out]; exact topOf_bound _ (fun p hp => HB.out p (List.mem_of_mem_take hp))
    obtain ⟨hb1, hb2⟩ := hb
    by_cases hlt : n < l.length
    · rcases hin with hin | ⟨g, rfl, hg, hin⟩
      · rw [hin] at hlt; simp at hlt
      have hin1 := hin.below hbel hg
      have c0 := hin1.pa n hlt
      have c1 := hin1.pq n hlt
      have c2 := hin1.pt n hlt
      have c3 := hin1.pz n hlt
      have c4 := hin1.pm n hlt
      obtain ⟨k, hk⟩ : ∃ k : Int, k = max t l[n].pq := ⟨_, rfl⟩
      have HX2 : Hid (k = topOf (l.take (n + 1))) := by show k = _; rw [topOf_take l n hlt, ← HX.out, hk]
      have hmx := run_maxI (P := Tryz.prog) t l[n].pq k hk
      clear hk hin hin1
      generalize l[n].pa = A at *
      generalize l[n].pq = Q at *
      generalize l[n].pt = T at *
      generalize l[n].pz = Z at *
      generalize l[n].pm = M at *
      go_wp2
      exact ⟨⟨k, n + 1, by omega, rfl, by go_num, HX2, hbel.alloc hbel.size _⟩, by simp [intOf]; omega⟩
    · have HT2 : Hid (t = topI f) := by show t = topI f; rw [HT.out, HX.out, List.take_of_length_le (by omega)]
      replace hB := thenB hB hbel
      rcases HN.out t HT2.out with ⟨g1, g2, g3⟩ | ⟨g1, g2, g3, g4⟩
      · have G2 := hide g2
        have G3 := hide g3
        clear g2 g3
        go_wp2
        go_ret2
        exact ⟨ret_ii G2.out.symm G3.out.symm, hB⟩
      · have G3 := hide g3
        have G4 := hide g4
        clear g3 g4
        go_wp2
        go_ret2
        exact ⟨ret_ii G3.out.symm G4.out.symm, hB⟩
theorem next_any (f : ByteArray) (w : World) : Calls Tryz.prog 138 #[.string f] w fun e w' => e = .returned (.tuple #[.int .i64 (nextI f), .int .i64 (errX f)]) ∧ Below w.heap.size w w' := by
  cases h : mayF f with
  | false =>
    rw [(next_no h).1, (next_no h).2]
    refine (next_none f w h).mono ?_
    rintro e w' ⟨rfl, rfl⟩
    exact ⟨rfl, Below.refl _ _⟩
  | true => exact next_some f w h
theorem ret_i {a b : Int} (h : a = b) : Ending.returned (.int .i64 a) = .returned (.int .i64 b) := by rw [h]
theorem ret_ib {a b : Int} {c d : Bool} (h : a = b) (g : c = d) : Ending.returned (.tuple #[.int .i64 a, .bool c]) = .returned (.tuple #[.int .i64 b, .bool d]) := by rw [h, g]
theorem act_pa (f : ByteArray) : 0 ≤ (actV f).pa ∧ (actV f).pa ≤ 168 := by
  rcases three f with ⟨_, _, h, _⟩ | ⟨_, _, h, _⟩ | ⟨_, h, _⟩
  · rw [h]; show (0 : Int) ≤ 0 ∧ (0 : Int) ≤ 168; omega
  · rw [h]; show (0 : Int) ≤ 0 ∧ (0 : Int) ≤ 168; omega
  · exact (act_rec h).2.2
set_option maxHeartbeats 400000 in
theorem home_any (f : ByteArray) (w : World) : Calls Tryz.prog 141 #[.string f] w fun e w' => e = .returned (.int .i64 (homeI f)) ∧ Below w.heap.size w w' := by
  have HA := hide (fun w => active_any f w)
  obtain ⟨h1, h2⟩ := act_pa f
  obtain ⟨H, hH⟩ : ∃ H : Int, homeI f = H := ⟨_, rfl⟩
  have hd : (actV f).pa / 96 = H := hH
  rw [hH]
  clear hH
  generalize errA f = E at *
  generalize (actV f).pq = Aq at *
  generalize (actV f).pt = At at *
  generalize (actV f).pz = Az at *
  generalize (actV f).pm = Am at *
  generalize (actV f).pa = Aa at *
  go_enter Tryz.func141, Tryz.ntmps141
  go_wp2_with (go_at_call 116; refine (HA.out _).mono ?_; rintro e w1 ⟨rfl, hb⟩)
  go_ret
  exact ⟨ret_i hd, hb.alloc hb.size _⟩
set_option maxHeartbeats 400000 in
theorem room_any (f : ByteArray) (w : World) : Calls Tryz.prog 139 #[.string f] w fun e w' => e = .returned (.tuple #[.int .i64 (appA f), .bool (!freeIs f (homeI f))]) ∧ Below w.heap.size w w' := by
  have HH := hide (fun w => home_any f w)
  have HF := hide (fun w => JouWalk.free_any f (homeI f) w)
  obtain ⟨h0, h1⟩ := home_01 f
  have HA : Hid (appA f = if freeIs f (homeI f) then freeAt f (homeI f) else (1 - homeI f) * 96) := rfl
  generalize errJ (freeOk f (homeI f)) = E at *
  cases hfr : freeIs f (homeI f) with
  | true =>
    rw [hfr] at HF HA
    generalize freeAt f (homeI f) = A at *
    generalize homeI f = H at *
    clear hfr
    go_enter Tryz.func139, Tryz.ntmps139
    go_wp2_with (first | (go_at_call 141; refine (HH.out _).mono ?_; rintro e w1 ⟨rfl, hb⟩) | (go_at_call 142; refine (HF.out _).mono ?_; rintro e w' ⟨rfl, rfl⟩))
    go_ret2
    exact ⟨ret_ib HA.out.symm rfl, hb⟩
  | false =>
    rw [hfr] at HF HA
    generalize freeAt f (homeI f) = A at *
    generalize homeI f = H at *
    clear hfr
    go_enter Tryz.func139, Tryz.ntmps139
    go_wp2_with (first | (go_at_call 141; refine (HH.out _).mono ?_; rintro e w1 ⟨rfl, hb⟩) | (go_at_call 142; refine (HF.out _).mono ?_; rintro e w' ⟨rfl, rfl⟩))
    go_ret2
    exact ⟨ret_ib HA.out.symm rfl, hb⟩
theorem appOk_ff {f : ByteArray} {q t z m : Int} (h : appOk f q t z m = false) : recMay q t z m = false ∨ recMay q t z m = true ∧ mayB f = false := by
  unfold appOk at h
  cases hr : recMay q t z m with
  | false => exact .inl rfl
  | true => rw [hr, Bool.and_true] at h; exact .inr ⟨rfl, h⟩
set_option maxHeartbeats 400000 in
theorem append_no (f : ByteArray) (q t z m : Int) (w : World) (h : appOk f q t z m = false) : Calls Tryz.prog 134 #[.string f, .agg #[.int .i64 q, .int .i64 t, .int .i64 z, .int .i64 m]] w fun e w' => e = .returned (.tuple #[.slice none 0 0, .int .i64 800]) ∧ Below w.heap.size w w' := by
  have hB := (Below.refl w.heap.size w).alloc (Nat.le_refl _) (.cells #[.int .i64 q, .int .i64 t, .int .i64 z, .int .i64 m] 88)
  have hX := boxM w (.int .i64 q) (.int .i64 t) (.int .i64 z) (.int .i64 m) 88
  have e1 : errE false = 400 := rfl
  have e2 : errE true = 0 := rfl
  have HP := hide (fun w => put_any q t z m w)
  rcases appOk_ff h with h1 | ⟨h1, h2⟩
  all_goals
    rw [h1] at HP
    generalize putS q t z m = S at *
    go_enter Tryz.func134, Tryz.ntmps134
    go_wp2_with (first | (first | (go_at_call 21; refine (may_any _ _).mono ?_; rintro e w' ⟨rfl, rfl⟩)) | (go_at_call 132; refine (HP.out _).mono ?_; rintro e w' ⟨rfl, hb⟩; replace hB := hB.trans (hb.mono hB.size); replace hX := boxB hX hb; clear hb))
    go_ret2
    exact ⟨rfl, hB⟩
set_option maxRecDepth 100000 in
set_option maxHeartbeats 2000000 in
theorem append_yes (f : ByteArray) (q t z m : Int) (w : World) (h : appOk f q t z m = true) : Calls Tryz.prog 134 #[.string f, .agg #[.int .i64 q, .int .i64 t, .int .i64 z, .int .i64 m]] w fun e w' => ∃ v, e = .returned (.tuple #[v, .int .i64 0]) ∧ w'.ownsRow w.heap.size 86 3 v (appL f q t z m).length (OpsRow.flat (appL f q t z m)) ∧ Below w.heap.size w w' := by
  have hB := (Below.refl w.heap.size w).alloc (Nat.le_refl _) (.cells #[.int .i64 q, .int .i64 t, .int .i64 z, .int .i64 m] 88)
  have hX := boxM w (.int .i64 q) (.int .i64 t) (.int .i64 z) (.int .i64 m) 88
  have e1 : errE true = 0 := rfl
  obtain ⟨hf, hr⟩ := imgOk_parts.1 h
  have hm : mayB f = true := mayF_t hf
  obtain ⟨i, hi, hz0, hz1, hz2⟩ := info_parts OpsWalk.info_op
  have hbd := OpsWalk.build_er_at
  obtain ⟨o1, o2, o3⟩ := app_words h
  have HW := hide (fun w => OpsWords.words_any (appA f) (putS q t z m) w)
  rw [o1, o3, length_wordsTo] at HW
  have e2 : errO true = 0 := rfl
  have HL := hide (app_ok h)
  have HR := hide (fun w => room_any f w)
  have HE : Hid (appE f = (if freeIs f (homeI f) then [] else [⟨true, appA f, ⟨#[]⟩⟩])) := by
    show appE f = _
    unfold appE appA
    cases freeIs f (homeI f)
    · rfl
    · rfl
  have HP := hide (fun w => put_any q t z m w)
  rw [hr] at HP
  clear h hf o1 o2 o3 hr
  generalize putS q t z m = S at *
  generalize appA f = A at *
  cases hfr : freeIs f (homeI f) with
  | true =>
    rw [hfr] at HR HE
    have hE := HE.out
    rw [if_pos rfl] at hE
    rw [hE, List.nil_append] at HL
    clear hE HE hfr
    go_enter Tryz.func134, Tryz.ntmps134
    go_wp2_with (first | (first | (go_at_call 21; refine (may_any _ _).mono ?_; rintro e w' ⟨rfl, rfl⟩)) | (go_at_call 132; refine (HP.out _).mono ?_; rintro e w' ⟨rfl, hb⟩; replace hB := hB.trans (hb.mono hB.size); replace hX := boxB hX hb; clear hb) | (go_at_call 139; refine (HR.out _).mono ?_; rintro e w' ⟨rfl, hb⟩; replace hB := hB.trans (hb.mono hB.size); replace hX := boxB hX hb; clear hb))
    refine (HW.out _).mono ?_
    rintro e w4 ⟨v, rfl, hown, hb⟩
    replace hown := OpsRow.owns_mono hown hB.size
    replace hB := thenB hB hb
    clear hb HW
    obtain ⟨g, cap, rfl, _, _⟩ := hown.form (by omega)
    go_wp2_with fail
    go_ret2
    refine ⟨_, rfl, ?_, hB⟩
    rw [HL.out, length_wordsTo]
    exact hown
  | false =>
    rw [hfr] at HR HE
    have hE := HE.out
    rw [if_neg (by decide)] at hE
    rw [hE] at HL
    clear hE HE hfr
    go_enter Tryz.func134, Tryz.ntmps134
    go_wp2_with (first | (first | (go_at_call 21; refine (may_any _ _).mono ?_; rintro e w' ⟨rfl, rfl⟩)) | (go_at_call 132; refine (HP.out _).mono ?_; rintro e w' ⟨rfl, hb⟩; replace hB := hB.trans (hb.mono hB.size); replace hX := boxB hX hb; clear hb) | (go_at_call 139; refine (HR.out _).mono ?_; rintro e w' ⟨rfl, hb⟩; replace hB := hB.trans (hb.mono hB.size); replace hX := boxB hX hb; clear hb))
    refine (HW.out _).mono ?_
    rintro e w4 ⟨v, rfl, hown, hb⟩
    replace hB := thenB hB hb
    clear hb HW
    obtain ⟨g, cap, rfl, _, _⟩ := hown.form (by omega)
    have hb4 := hB.size
    have hlit := World.ownsRow_lit (base := w.heap.size) (e := 86) (size := 3) w4 #[.bool true, .int .i64 A, .string ⟨#[]⟩] 1 hb4 (by decide) rfl
    go_wp2_with (at_builtin; refine wpList_append_lies _ rfl _ _ _ rfl w.heap.size 86 i _ 3 32 Tryz.underlying22 hi hz0 hz1 hz2 rfl (by omega) _ 1 _ rfl hlit ⟨g, 0, none⟩ 6 cap _ rfl (len6 _ S) (news_of_owns (hown.alloc _)) (OpsRow.flat_oneCell _) (by omega) (by decide) (by decide) (by simp; omega) _ rfl ?_; intro g3 cap3 w6 hown2 hgrow2 hat2 hlt2)
    go_ret2
    refine ⟨_, rfl, ?_, (hB.alloc hb4 _).grown hgrow2 (by simp; omega) (fun k hk => (hlit.lt k hk).1)⟩
    rw [HL.out, List.length_append, length_wordsTo, OpsRow.flat_append]
    exact hown2
theorem append_any (f : ByteArray) (q t z m : Int) (w : World) : Calls Tryz.prog 134 #[.string f, .agg #[.int .i64 q, .int .i64 t, .int .i64 z, .int .i64 m]] w fun e w' => ∃ v, e = .returned (.tuple #[v, .int .i64 (errP (appOk f q t z m))]) ∧ w'.ownsRow w.heap.size 86 3 v (appL f q t z m).length (OpsRow.flat (appL f q t z m)) ∧ Below w.heap.size w w' := by
  cases h : appOk f q t z m with
  | false =>
    rw [app_no h]
    refine (append_no f q t z m w h).mono ?_
    rintro e w' ⟨rfl, hb⟩
    exact ⟨_, rfl, OpsRow.owns_nil _ _ _, hb⟩
  | true => exact append_yes f q t z m w h
end Go.Proofs.YtmlfkbkpkgaefaaGreatDoor.PlaWalk

/- The contracts of package stage and of the document's own steps that erase a slot: the row of steps, owned; the record of a slot's first bytes; whatever the arguments. Of what was there nothing has turned. -/
namespace Go.Proofs.YtmlfkbkpkgaefaaGreatDoor.StaWalk
open Go.Proofs.YtmlfkbkpkgaefaaGreatDoor Go.RowKit Go.Proofs.YtmlfkbkpkgaefaaGreatDoor.Bytes Go.Proofs.YtmlfkbkpkgaefaaGreatDoor.NorWalk Go.Proofs.YtmlfkbkpkgaefaaGreatDoor.Ent Go.Proofs.YtmlfkbkpkgaefaaGreatDoor.EntRow Go.Proofs.YtmlfkbkpkgaefaaGreatDoor.EntWalk Go.Proofs.YtmlfkbkpkgaefaaGreatDoor.Jou Go.Proofs.YtmlfkbkpkgaefaaGreatDoor.Ops Go.Proofs.YtmlfkbkpkgaefaaGreatDoor.Act Go.Proofs.YtmlfkbkpkgaefaaGreatDoor.ActRef Go.Proofs.YtmlfkbkpkgaefaaGreatDoor.ActApp Go.Proofs.YtmlfkbkpkgaefaaGreatDoor.ImgWalk Go.Proofs.YtmlfkbkpkgaefaaGreatDoor.PlaWalk Go.Proofs.YtmlfkbkpkgaefaaGreatDoor.Sta

theorem errG_t {ok : Bool} (h : ok = true) : errG ok = 0 := by rw [h]; rfl
set_option maxRecDepth 100000 in
set_option maxHeartbeats 400000 in
theorem erases_no (t : Int) (w : World) (h : baseOk t = false) : Calls Tryz.prog 112 #[.int .i64 t] w fun e w' => e = .returned (.tuple #[.slice none 0 0, .int .i64 900]) ∧ w' = w := by
  have e1 : errI false = 600 := rfl
  have HB := hide (fun w => base_any t w)
  rw [h] at HB
  go_enter Tryz.func112, Tryz.ntmps112
  go_wp2_with (go_at_call 121; refine (HB.out _).mono ?_; rintro e w' ⟨rfl, rfl⟩)
  go_ret2
  exact ⟨rfl, rfl⟩
set_option maxRecDepth 100000 in
set_option maxHeartbeats 1000000 in
theorem erases_yes (t p : Nat) (w : World) (ht : t ≤ 1) (hp : p = 192 + 288 * t) : Calls Tryz.prog 112 #[.int .i64 (t : Int)] w fun e w' => ∃ v, e = .returned (.tuple #[v, .int .i64 0]) ∧ w'.ownsRow w.heap.size 86 3 v 3 (OpsRow.flat (erTo (p : Int) 3)) ∧ Below w.heap.size w w' := by
  have HB := hide (fun w => base_nat t p w ht hp)
  have hp1 : p ≤ 480 := by omega
  obtain ⟨i, hi, hz0, hz1, hz2⟩ := info_parts OpsWalk.info_op
  have hbd := OpsWalk.build_er_at
  clear hp ht
  go_enter Tryz.func112, Tryz.ntmps112
  go_wp2_with (go_at_call 121; refine (HB.out _).mono ?_; rintro e w' ⟨rfl, rfl⟩)
  go_loopw [6, 15] (fun s x wr => ∃ j : Nat, j ≤ 3 ∧ x = .int .i64 j ∧ wr.ownsRow w'.heap.size 86 3 s j (OpsRow.flat (erTo (p : Int) j)) ∧ Below w'.heap.size w' wr) (fun _ x _ => 3 - (intOf x).toNat)
  case atStart => exact ⟨0, Nat.zero_le _, rfl, OpsRow.owns_nil _ _ _, Below.refl _ _⟩
  case round =>
    obtain ⟨j, hj, rfl, hown, hbel⟩ := hrel
    by_cases hlt : j < 3
    · have s1 := hbel.size
      have b1 : j + 1 ≤ maxLen := by unfold maxLen; omega
      have b2 : (j + 1) * 32 ≤ 140737488355328 := by omega
      go_wp2_with (at_builtin; refine wpList_append_lies _ rfl _ _ _ rfl w'.heap.size 86 i _ 3 32 Tryz.underlying22 hi hz0 hz1 hz2 rfl (by omega) u6 j _ rfl (hown.alloc _) ⟨wr.heap.size, 0, none⟩ 1 1 _ rfl rfl (World.news_of_block (heap_alloc_new wr _)) (OpsRow.flat_oneCell [⟨true, _, ⟨#[]⟩⟩]) (by omega) b1 b2 (by simp; omega) _ rfl ?_; intro g cap w1 hown1 hgrow hat hlt1)
      refine ⟨⟨j + 1, by omega, by go_num, ?_, ?_⟩, by simp [intOf]; omega⟩
      · rw [erTo_succ, OpsRow.flat_append, Int.mul_comm 96 (j : Int)]
        exact hown1
      · exact (hbel.alloc s1 _).grown hgrow (by simp; omega) (fun k hk => (hown.lt k hk).1)
    · obtain rfl : j = 3 := by omega
      go_wp2
      go_ret2
      exact ⟨_, rfl, hown, hbel⟩
theorem erases_any (t : Int) (w : World) : Calls Tryz.prog 112 #[.int .i64 t] w fun e w' => ∃ v, e = .returned (.tuple #[v, .int .i64 (errG (baseOk t))]) ∧ w'.ownsRow w.heap.size 86 3 v (erL t).length (OpsRow.flat (erL t)) ∧ Below w.heap.size w w' := by
  cases h : baseOk t with
  | false =>
    rw [erL_no h]
    refine (erases_no t w h).mono ?_
    rintro e w' ⟨rfl, rfl⟩
    exact ⟨_, rfl, OpsRow.owns_nil _ _ _, Below.refl _ _⟩
  | true =>
    obtain ⟨h1, h2⟩ := baseOk_parts.1 h
    obtain ⟨a, rfl⟩ := Int.eq_ofNat_of_zero_le h1
    have e : baseI (a : Int) = ((192 + 288 * a : Nat) : Int) := by unfold baseI; rw [if_pos h]; omega
    rw [erL_ok h, length_erTo, e]
    exact erases_yes a _ w (by omega) rfl
set_option maxRecDepth 100000 in
set_option maxHeartbeats 400000 in
theorem refErases_no (t : Int) (w : World) (h : baseOk t = false) : Calls Tryz.prog 66 #[.int .i64 t] w fun e w' => e = .returned (.tuple #[.slice none 0 0, .int .i64 900]) ∧ w' = w := by
  have e1 : errI false = 600 := rfl
  have HB := hide (fun w => refBase_any t w)
  rw [h] at HB
  go_enter Tryz.func66, Tryz.ntmps66
  go_wp2_with (go_at_call 65; refine (HB.out _).mono ?_; rintro e w' ⟨rfl, rfl⟩)
  go_ret2
  exact ⟨rfl, rfl⟩
set_option maxRecDepth 100000 in
set_option maxHeartbeats 1000000 in
theorem refErases_yes (t p : Nat) (w : World) (ht : t ≤ 1) (hp : p = 192 + 288 * t) : Calls Tryz.prog 66 #[.int .i64 (t : Int)] w fun e w' => ∃ v, e = .returned (.tuple #[v, .int .i64 0]) ∧ w'.ownsRow w.heap.size 86 3 v 3 (OpsRow.flat (erTo (p : Int) 3)) ∧ Below w.heap.size w w' := by
  have HB := hide (fun w => refBase_nat t p w ht hp)
  have hp1 : p ≤ 480 := by omega
  obtain ⟨i, hi, hz0, hz1, hz2⟩ := info_parts OpsWalk.info_op
  have hbd := OpsWalk.build_er_at
  clear hp ht
  go_enter Tryz.func66, Tryz.ntmps66
  go_wp2_with (go_at_call 65; refine (HB.out _).mono ?_; rintro e w' ⟨rfl, rfl⟩)
  go_loopw [6, 7] (fun s x wr => ∃ j : Nat, j ≤ 3 ∧ x = .int .i64 j ∧ wr.ownsRow w'.heap.size 86 3 s j (OpsRow.flat (erTo (p : Int) j)) ∧ Below w'.heap.size w' wr) (fun _ x _ => 3 - (intOf x).toNat)
  case atStart => exact ⟨0, Nat.zero_le _, rfl, OpsRow.owns_nil _ _ _, Below.refl _ _⟩
  case round =>
    obtain ⟨j, hj, rfl, hown, hbel⟩ := hrel
    by_cases hlt : j < 3
    · have s1 := hbel.size
      have b1 : j + 1 ≤ maxLen := by unfold maxLen; omega
      have b2 : (j + 1) * 32 ≤ 140737488355328 := by omega
      go_wp2_with (at_builtin; refine wpList_append_lies _ rfl _ _ _ rfl w'.heap.size 86 i _ 3 32 Tryz.underlying22 hi hz0 hz1 hz2 rfl (by omega) u6 j _ rfl (hown.alloc _) ⟨wr.heap.size, 0, none⟩ 1 1 _ rfl rfl (World.news_of_block (heap_alloc_new wr _)) (OpsRow.flat_oneCell [⟨true, _, ⟨#[]⟩⟩]) (by omega) b1 b2 (by simp; omega) _ rfl ?_; intro g cap w1 hown1 hgrow hat hlt1)
      refine ⟨⟨j + 1, by omega, by go_num, ?_, ?_⟩, by simp [intOf]; omega⟩
      · rw [erTo_succ, OpsRow.flat_append, Int.mul_comm 96 (j : Int)]
        exact hown1
      · exact (hbel.alloc s1 _).grown hgrow (by simp; omega) (fun k hk => (hown.lt k hk).1)
    · obtain rfl : j = 3 := by omega
      go_wp2
      go_ret2
      exact ⟨_, rfl, hown, hbel⟩
theorem refErases_any (t : Int) (w : World) : Calls Tryz.prog 66 #[.int .i64 t] w fun e w' => ∃ v, e = .returned (.tuple #[v, .int .i64 (errG (baseOk t))]) ∧ w'.ownsRow w.heap.size 86 3 v (erL t).length (OpsRow.flat (erL t)) ∧ Below w.heap.size w w' := by
  cases h : baseOk t with
  | false =>
    rw [erL_no h]
    refine (refErases_no t w h).mono ?_
    rintro e w' ⟨rfl, rfl⟩
    exact ⟨_, rfl, OpsRow.owns_nil _ _ _, Below.refl _ _⟩
  | true =>
    obtain ⟨h1, h2⟩ := baseOk_parts.1 h
    obtain ⟨a, rfl⟩ := Int.eq_ofNat_of_zero_le h1
    have e : baseI (a : Int) = ((192 + 288 * a : Nat) : Int) := by unfold baseI; rw [if_pos h]; omega
    rw [erL_ok h, length_erTo, e]
    exact refErases_yes a _ w (by omega) rfl
theorem rof_c {f : ByteArray} {t z : Int} (h : rofOk f t z = false) : baseOk t = false ∨ (baseOk t = true ∧ mayB f = false) ∨ (baseOk t = true ∧ mayB f = true ∧ z < 1) ∨ (baseOk t = true ∧ mayB f = true ∧ ¬ z < 1 ∧ 288 < z) := by
  unfold rofOk at h
  have h' := of_decide_eq_false h
  unfold mayB baseOk
  by_cases h2 : 0 ≤ t ∧ t ≤ 1
  · rw [decide_eq_true h2]
    by_cases h1 : f.size = 768
    · rw [decide_eq_true h1]
      by_cases h3 : z < 1
      · exact .inr (.inr (.inl ⟨rfl, rfl, h3⟩))
      · exact .inr (.inr (.inr ⟨rfl, rfl, h3, by omega⟩))
    · rw [decide_eq_false h1]
      exact .inr (.inl ⟨rfl, rfl⟩)
  · rw [decide_eq_false h2]
    exact .inl rfl
set_option maxRecDepth 100000 in
set_option maxHeartbeats 400000 in
theorem record_no (f : ByteArray) (t z : Int) (w : World) (h : rofOk f t z = false) : Calls Tryz.prog 133 #[.string f, .int .i64 t, .int .i64 z] w fun e w' => e = .returned (.tuple #[.agg #[.int .i64 0, .int .i64 0, .int .i64 0, .int .i64 0], .int .i64 900]) ∧ Below w.heap.size w w' := by
  have b2 := build_none
  have e0 : errI true = 0 := rfl
  have e1 : errI false = 600 := rfl
  have HB := hide (fun w => base_any t w)
  have HM := hide (fun w => may_any f w)
  rcases rof_c h with h1 | ⟨h1, h2⟩ | ⟨h1, h2, h3⟩ | ⟨h1, h2, h3, h4⟩
  · rw [h1] at HB
    clear h
    go_enter Tryz.func133, Tryz.ntmps133
    go_wp2_with (go_at_call 121; refine (HB.out _).mono ?_; rintro e w' ⟨rfl, rfl⟩)
    exact bodyPost_ret (v := .tuple #[.agg #[.int .i64 0, .int .i64 0, .int .i64 0, .int .i64 0], .int .i64 900]) (by simp [results, Tryz.results133, go_sem]) rfl ⟨rfl, (Below.refl _ _).alloc (Nat.le_refl _) _⟩
  all_goals
    rw [h1] at HB
    rw [h2] at HM
    clear h
    go_enter Tryz.func133, Tryz.ntmps133
    go_wp2_with (first | (go_at_call 121; refine (HB.out _).mono ?_; rintro e w' ⟨rfl, rfl⟩) | (go_at_call 21; refine (HM.out _).mono ?_; rintro e w' ⟨rfl, rfl⟩))
    exact bodyPost_ret (v := .tuple #[.agg #[.int .i64 0, .int .i64 0, .int .i64 0, .int .i64 0], .int .i64 900]) (by simp [results, Tryz.results133, go_sem]) rfl ⟨rfl, (Below.refl _ _).alloc (Nat.le_refl _) _⟩
set_option maxRecDepth 100000 in
set_option maxHeartbeats 1000000 in
theorem record_yes (f : ByteArray) (t z : Nat) (w : World) (h : rofOk f t z = true) : Calls Tryz.prog 133 #[.string f, .int .i64 (t : Int), .int .i64 (z : Int)] w fun e w' => e = .returned (.tuple #[.agg #[.int .i64 (rofQ f t z), .int .i64 (rofT f t z), .int .i64 (rofZ f t z), .int .i64 (rofM f t z)], .int .i64 (errS f t z)]) ∧ Below w.heap.size w w' := by
  have b1 := build_rec
  have b2 := build_none
  obtain ⟨hf, h1, h2, h3, h4⟩ := rofOk_parts.1 h
  have hm : mayB f = true := mayF_t hf
  obtain ⟨p, hp⟩ : ∃ p : Nat, p = 192 + 288 * t := ⟨_, rfl⟩
  have hp1 : p + z ≤ f.size := by omega
  have hp2 : f.size ≤ 768 := by omega
  have hz0 : (f.extract p (p + z)).size < 9223372036854775808 := by rw [ByteArray.size_extract]; omega
  have hz1 : ¬ (z : Int) < 1 := by omega
  have hz2 : ¬ (288 : Int) < (z : Int) := by omega
  have HC : Hid (∀ w, Calls Tryz.prog 135 #[.string (f.extract p (p + z))] w fun e w' => e = .returned (.int .i64 (sumI f t z)) ∧ w' = w) := fun w => by
    have h := CrcSum.sum_any (f.extract p (p + z)) w hz0
    have e : sumI f t z = ((Crc.sum (f.extract p (p + z)).data.toList : Nat) : Int) := by unfold sumI cutI; rw [Int.toNat_natCast, Int.toNat_natCast, hp]
    rw [e]
    exact h
  have HBa := hide (fun w => base_nat t p w (by omega) hp)
  have HM := hide (fun w => may_any f w)
  rw [hm] at HM
  have HNx := hide (fun w => next_any f w)
  have hB := (Below.refl w.heap.size w).alloc (Nat.le_refl _) (.cells #[.int .i64 0, .int .i64 0, .int .i64 0, .int .i64 0] 88)
  have hR := resM w (.int .i64 0) (.int .i64 0) (.int .i64 0) (.int .i64 0) 88
  have hmF : mayF f = true := hm
  by_cases hg : topI f < 1048576
  · obtain ⟨n1, n2⟩ := next_yes hmF hg
    rw [n1, n2] at HNx
    have HV := hide (rof_yes h hg)
    have ht := topI_bound f
    clear h hf h1 h2 h3 h4 hp hz0 n1 n2 hmF hm
    generalize topI f + 1 = Q at *
    generalize sumI f t z = M at *
    go_enter Tryz.func133, Tryz.ntmps133
    go_wp2_with (first | (go_at_call 121; refine (HBa.out _).mono ?_; rintro e w' ⟨rfl, rfl⟩) | (go_at_call 21; refine (HM.out _).mono ?_; rintro e w' ⟨rfl, rfl⟩) | (go_at_call 138; refine (HNx.out _).mono ?_; rintro e w2 ⟨rfl, hb⟩; replace hB := thenB hB hb; replace hR := resB hR hb; clear hb) | (go_at_call 135; refine (HC.out _).mono ?_; rintro e w3 ⟨rfl, rfl⟩))
    exact bodyPost_ret (v := .tuple #[.agg #[.int .i64 Q, .int .i64 (t : Int), .int .i64 (z : Int), .int .i64 M], .int .i64 0]) (by simp [results, Tryz.results133, go_sem, hR]) rfl ⟨ret_rec (by obtain ⟨v1, v2, v3, v4, v5⟩ := HV.out; exact ⟨v1.symm, v2.symm, v3.symm, v4.symm, v5.symm⟩), set4 hB _ _ _ _⟩
  · obtain ⟨n1, n2⟩ := next_full hmF hg
    rw [n1, n2] at HNx
    have HV := hide (rof_full h hg)
    clear h hf h1 h2 h3 h4 hp hz0 n1 n2 hmF hg hm
    go_enter Tryz.func133, Tryz.ntmps133
    go_wp2_with (first | (go_at_call 121; refine (HBa.out _).mono ?_; rintro e w' ⟨rfl, rfl⟩) | (go_at_call 21; refine (HM.out _).mono ?_; rintro e w' ⟨rfl, rfl⟩) | (go_at_call 138; refine (HNx.out _).mono ?_; rintro e w2 ⟨rfl, hb⟩; replace hB := thenB hB hb; replace hR := resB hR hb; clear hb))
    exact bodyPost_ret (v := .tuple #[.agg #[.int .i64 0, .int .i64 0, .int .i64 0, .int .i64 0], .int .i64 801]) (by simp [results, Tryz.results133, go_sem, hR]) rfl ⟨ret_rec (by obtain ⟨v1, v2, v3, v4, v5⟩ := HV.out; exact ⟨v1.symm, v2.symm, v3.symm, v4.symm, v5.symm⟩), set4 hB _ _ _ _⟩
theorem record_any (f : ByteArray) (t z : Int) (w : World) : Calls Tryz.prog 133 #[.string f, .int .i64 t, .int .i64 z] w fun e w' => e = .returned (.tuple #[.agg #[.int .i64 (rofQ f t z), .int .i64 (rofT f t z), .int .i64 (rofZ f t z), .int .i64 (rofM f t z)], .int .i64 (errS f t z)]) ∧ Below w.heap.size w w' := by
  cases h : rofOk f t z with
  | false =>
    obtain ⟨v1, v2, v3, v4, v5⟩ := rof_no h
    rw [v1, v2, v3, v4, v5]
    exact record_no f t z w h
  | true =>
    obtain ⟨_, h1, h2, h3, h4⟩ := rofOk_parts.1 h
    obtain ⟨a, rfl⟩ := Int.eq_ofNat_of_zero_le h1
    obtain ⟨b, rfl⟩ := Int.eq_ofNat_of_zero_le (show 0 ≤ z by omega)
    exact record_yes f a b w h
end Go.Proofs.YtmlfkbkpkgaefaaGreatDoor.StaWalk
