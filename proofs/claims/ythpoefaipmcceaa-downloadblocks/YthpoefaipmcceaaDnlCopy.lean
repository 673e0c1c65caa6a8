/- The contracts of package fresh (a device that shares no memory) and of the smaller parts of package download. -/
import Derived.Test.YthpoefaipmcceaaDnlMath
import Derived.Test.YthpoefaipmcceaaDevSet
import Derived.Test.YthpoefaipmcceaaDevFail
import Derived.Test.YthpoefaipmcceaaImgWalk
import Derived.Test.YthpoefaipmcceaaOpsWords
import Derived.Laws.OwnMore
import Derived.Deep.Cut
namespace Go.Proofs.Ythpoefaipmcceaa.DnlCopy
open Go.Proofs.Ythpoefaipmcceaa Go.RowKit Go.Proofs.Ythpoefaipmcceaa.Bytes Go.Proofs.Ythpoefaipmcceaa.Ops Go.Proofs.Ythpoefaipmcceaa.OpsRow Go.Proofs.Ythpoefaipmcceaa.Act Go.Proofs.Ythpoefaipmcceaa.Dev Go.Proofs.Ythpoefaipmcceaa.DevRow Go.Proofs.Ythpoefaipmcceaa.DevSet Go.Proofs.Ythpoefaipmcceaa.Dnl
open Go.Proofs.Ythpoefaipmcceaa.OpsWalk (size_alloc1 info_op)
open Go.Proofs.Ythpoefaipmcceaa.NorWalk (ret_bool)
open Go.Proofs.Ythpoefaipmcceaa.ImgClone (clone_any)
attribute [local go_sem ↓] Go.wp_at_zero Go.wp_at_succ
theorem text_small {l : List FOp} (h : mayAll l = true) {j : Nat} (hj : j < l.length) : l[j].tx.size ≤ 4 := by
  have := mayAll_get h hj
  cases e : l[j].er with
  | true => rw [e] at this; have := (may_er.1 this).2.2.2; omega
  | false => rw [e] at this; have := (may_pr.1 this).2.2.2; omega
theorem take_flat {l : List FOp} {j : Nat} (h : j < l.length) : flat (l.take (j + 1)) = flat (l.take j) ++ [.bool l[j].er, .int .i64 l[j].pl, .string l[j].tx] := by
  rw [List.take_succ_eq_append_getElem h, flat_append]; rfl
set_option maxRecDepth 100000 in
set_option maxHeartbeats 2000000 in
theorem steps_any (v : Value) (l : List FOp) (w : World) (hv : IsSt w v l) (hm : mayAll l = true) (hl : l.length ≤ 768) : Calls Try.prog 75 #[v] w fun e w' => ∃ u, e = .returned u ∧ w'.ownsRow w.heap.size 44 3 u l.length (flat l) ∧ Below w.heap.size w w' := by
  obtain ⟨i, hi, hz0, hz1, hz2⟩ := info_parts info_op
  obtain ⟨a, ca, rfl, _, ha⟩ := hv
  have HT : Hid (∀ j (hj : j < l.length), l[j].tx.size ≤ 4) := fun j hj => text_small hm hj
  have HF : Hid (∀ j (hj : j < l.length), flat (l.take (j + 1)) = flat (l.take j) ++ [.bool l[j].er, .int .i64 l[j].pl, .string l[j].tx]) := fun j hj => take_flat hj
  clear hm
  go_enter Try.func75, Try.ntmps75
  go_wp2
  go_loopw [3, 8] (fun s x wr => ∃ j : Nat, j ≤ l.length ∧ x = .int .i64 j ∧ wr.ownsRow w.heap.size 44 3 s j (flat (l.take j)) ∧ Below w.heap.size w wr) (fun _ x _ => l.length - (intOf x).toNat)
  case atStart => exact ⟨0, Nat.zero_le _, rfl, owns_nil _ _ _, Below.refl _ _⟩
  case round =>
    obtain ⟨j, hj, rfl, hown, hbel⟩ := hrel
    by_cases hlt : j < l.length
    · rcases ha with ha | ⟨g, o, rfl, _, _, hg, ha⟩
      · rw [ha] at hlt; simp at hlt
      have ha' := ha.below hbel hg
      have a1 := ha'.er j hlt
      have a2 := ha'.pl j hlt
      have a3 := ha'.tx j hlt
      have h4 := HT.out j hlt
      have HN := hide (HF.out j hlt)
      generalize l[j].er = E at *
      generalize l[j].pl = A at *
      generalize l[j].tx = T at *
      clear ha ha' HF HT
      have s1 := hbel.size
      have b1 : j + 1 ≤ maxLen := by unfold maxLen; omega
      have b2 : (j + 1) * 32 ≤ 140737488355328 := by omega
      go_wp2_with fail
      have hX := AnsWalk.resM wr (.bool E) (.int .i64 A) (.string T) 44
      have hal : Below wr.heap.size wr (wr.alloc (.cells #[.bool E, .int .i64 A, .string T] 44)) := (Below.refl _ _).alloc (Nat.le_refl _) _
      replace hbel := thenB hbel hal
      have hlt' : ∀ k, u3.ownBlock = some k → k ≠ wr.heap.size := fun k hk => Nat.ne_of_lt (hown.lt k hk).2
      replace hown := owns_below hown hal
      clear hal
      generalize wr.alloc (.cells #[.bool E, .int .i64 A, .string T] 44) = W at *
      generalize wr.heap.size = G at *
      refine (clone_any _ _ (by omega)).mono ?_
      rintro e w2 ⟨rfl, hb⟩
      replace hX := AnsWalk.resB hX hb
      replace hown := owns_below hown hb
      replace hbel := thenB hbel hb
      clear hb
      have s2 := hbel.size
      replace hown := ownsRow_setCell_other hown (a := ⟨G, 2, none⟩) (fun h => hlt' G h rfl) (.string T)
      have hbs := hbel.setCell (p := ⟨G, 2, none⟩) s1 (.string T)
      have s3 := hbs.size
      go_wp2_with (at_builtin; refine wpList_append_lies _ rfl _ _ _ rfl w.heap.size 44 i _ 3 32 Try.underlying22 hi hz0 hz1 hz2 rfl (by omega) _ j _ rfl (hown.alloc _) ⟨w2.heap.size, 0, none⟩ 1 1 _ rfl rfl (World.news_of_block (by rw [← size_set w2 ⟨G, 2, none⟩ (.string T)]; exact heap_alloc_new _ _)) (flat_oneCell [⟨E, _, _⟩]) (by omega) b1 b2 (by simp; omega) _ rfl ?_; intro g2 cap w1 hown1 hgrow hat hlt1)
      refine ⟨⟨j + 1, by omega, by go_num, ?_, ?_⟩, by simp [intOf]; omega⟩
      · rw [HN.out]; exact hown1
      · exact (hbs.alloc s3 _).grown hgrow (by simp; omega) (fun k hk => (hown.lt k hk).1)
    · obtain rfl : j = l.length := by omega
      go_wp2
      go_ret
      rw [List.take_length] at hown
      exact ⟨_, rfl, hown, hbel⟩
theorem owns_form {w : World} {base : Nat} {e : TypeId} {size : Nat} {v : Value} {n : Nat} {xs : List Value} (h : w.ownsRow base e size v n xs) : ∃ a c, v = .slice a n c := by
  rcases h.2 with ⟨rfl, rfl⟩ | ⟨g, cap, cur, rfl, _⟩
  · exact ⟨none, 0, rfl⟩
  · exact ⟨_, _, rfl⟩
/-- A device in memory and the zero that is the result's: the boxes of a function that takes one and gives one. -/
theorem two_boxes (w : World) (x0 x1 x2 x3 x4 x5 : Value) : Res ((w.alloc (.cells #[x0, x1, x2, x3, x4, x5] 24)).alloc (.cells #[.int .i64 0, .int .i64 0, .int .i64 0, .int .i64 0, .int .i64 0, .slice none 0 0] 24)) w.heap.size x0 x1 x2 x3 x4 x5 ∧ Res ((w.alloc (.cells #[x0, x1, x2, x3, x4, x5] 24)).alloc (.cells #[.int .i64 0, .int .i64 0, .int .i64 0, .int .i64 0, .int .i64 0, .slice none 0 0] 24)) (w.heap.size + 1) (.int .i64 0) (.int .i64 0) (.int .i64 0) (.int .i64 0) (.int .i64 0) (.slice none 0 0) ∧ Below w.heap.size w ((w.alloc (.cells #[x0, x1, x2, x3, x4, x5] 24)).alloc (.cells #[.int .i64 0, .int .i64 0, .int .i64 0, .int .i64 0, .int .i64 0, .slice none 0 0] 24)) ∧ w.heap.size + 1 + 1 = ((w.alloc (.cells #[x0, x1, x2, x3, x4, x5] 24)).alloc (.cells #[.int .i64 0, .int .i64 0, .int .i64 0, .int .i64 0, .int .i64 0, .slice none 0 0] 24)).heap.size := by
  have hR := resM (w.alloc (.cells #[x0, x1, x2, x3, x4, x5] 24)) (.int .i64 0) (.int .i64 0) (.int .i64 0) (.int .i64 0) (.int .i64 0) (.slice none 0 0) 24
  rw [show (w.alloc (.cells #[x0, x1, x2, x3, x4, x5] 24)).heap.size = w.heap.size + 1 from by simp] at hR
  exact ⟨resB (resM w x0 x1 x2 x3 x4 x5 24) ((Below.refl _ _).alloc (Nat.le_refl _) _), hR, ((Below.refl _ _).alloc (Nat.le_refl _) _).alloc (Nat.le_of_lt (size_alloc1 _ _)) _, by simp⟩
set_option maxRecDepth 100000 in
set_option maxHeartbeats 1000000 in
theorem fresh_any (d : FDev) (v : Value) (w : World) (hv : IsSt w v d.ops) (hm : mayAll d.ops = true) (hl : d.ops.length ≤ 768) : Calls Try.prog 63 #[.agg #[.int .i64 d.sa, .int .i64 d.su, .int .i64 d.nx, .int .i64 d.gt, .int .i64 d.sl, v]] w fun e w' => ∃ u, e = .returned (.agg #[.int .i64 d.sa, .int .i64 d.su, .int .i64 d.nx, .int .i64 d.gt, .int .i64 d.sl, u]) ∧ w'.ownsRow w.heap.size 44 3 u d.ops.length (flat d.ops) ∧ Below w.heap.size w w' := by
  have HS : Hid (∀ w', Below w.heap.size w w' → Calls Try.prog 75 #[v] w' fun e w'' => ∃ u, e = .returned u ∧ w''.ownsRow w'.heap.size 44 3 u d.ops.length (flat d.ops) ∧ Below w'.heap.size w' w'') := fun w' hb => steps_any v d.ops w' (hv.below hb) hm hl
  obtain ⟨hD, hR, hB, hs⟩ := two_boxes w (.int .i64 d.sa) (.int .i64 d.su) (.int .i64 d.nx) (.int .i64 d.gt) (.int .i64 d.sl) v
  obtain ⟨a, ca, rfl, _, _⟩ := hv
  obtain ⟨sa, su, nx, gt, sl, l⟩ := d
  dsimp only at *
  go_enter Try.func63, Try.ntmps63
  go_wp2_with fail
  refine (HS.out _ hB).mono ?_
  generalize (w.alloc _).alloc _ = W at *
  rintro e w2 ⟨u, rfl, hown, hb⟩
  replace hB := thenB hB hb
  replace hD := resB hD hb
  replace hR := resB hR hb
  rw [← hs] at hown
  clear hb HS
  obtain ⟨a', c', rfl⟩ := owns_form hown
  have HB := hide hB
  have HO := hide hown
  clear hB hown
  go_wp2_with fail
  replace hR := resO hR (Nat.ne_of_lt (Nat.lt_succ_self _)) 5 (.slice a' l.length c')
  have hbs := set6 (x0 := .int .i64 sa) (x1 := .int .i64 su) (x2 := .int .i64 nx) (x3 := .int .i64 gt) (x4 := .int .i64 sl) (x5 := .slice a' l.length c') (HB.out.setCell (p := ⟨w.heap.size, 5, none⟩) (Nat.le_refl _) (.slice a' l.length c')) (Nat.le_succ w.heap.size)
  refine bodyPost_ret (v := .agg #[.int .i64 sa, .int .i64 su, .int .i64 nx, .int .i64 gt, .int .i64 sl, .slice a' l.length c']) (by simp [results, Try.results63, go_sem, hR]) rfl ⟨_, rfl, owns_mono (base := w.heap.size + 1 + 1) ?_ (by omega), hbs⟩
  exact own6 (own1 HO.out (by omega) 5 _) (Nat.lt_succ_self _) _ _ _ _ _ _
set_option maxRecDepth 100000 in
set_option maxHeartbeats 1000000 in
theorem turned_any (d : FDev) (v : Value) (s : Int) (w : World) (hv : IsSt w v d.ops) (hm : mayAll d.ops = true) (hl : d.ops.length ≤ 768) : Calls Try.prog 44 #[.agg #[.int .i64 d.sa, .int .i64 d.su, .int .i64 d.nx, .int .i64 d.gt, .int .i64 d.sl, v], .int .i64 s] w fun e w' => ∃ u, e = .returned (.agg #[.int .i64 s, .int .i64 d.su, .int .i64 d.nx, .int .i64 d.gt, .int .i64 d.sl, u]) ∧ w'.ownsRow w.heap.size 44 3 u d.ops.length (flat d.ops) ∧ Below w.heap.size w w' := by
  have HS : Hid (∀ w', Below w.heap.size w w' → _) := fun w' hb => fresh_any d v w' (hv.below hb) hm hl
  obtain ⟨hD, hR, hB, hs⟩ := two_boxes w (.int .i64 d.sa) (.int .i64 d.su) (.int .i64 d.nx) (.int .i64 d.gt) (.int .i64 d.sl) v
  obtain ⟨a, ca, rfl, _, _⟩ := hv
  obtain ⟨sa, su, nx, gt, sl, l⟩ := d
  dsimp only at *
  go_enter Try.func44, Try.ntmps44
  go_wp2_with fail
  refine (HS.out _ hB).mono ?_
  generalize (w.alloc _).alloc _ = W at *
  rintro e w2 ⟨u, rfl, hown, hb⟩
  replace hB := thenB hB hb
  replace hD := resB hD hb
  replace hR := resB hR hb
  rw [← hs] at hown
  clear hb HS
  obtain ⟨a', c', rfl⟩ := owns_form hown
  have HB := hide hB
  have HO := hide hown
  have HR := hide hR
  clear hB hown hR
  go_upto_region 2 with fail
  replace hD := res6 hD (.int .i64 sa) (.int .i64 su) (.int .i64 nx) (.int .i64 gt) (.int .i64 sl) (.slice a' l.length c')
  have hR := resO6 HR.out (Nat.ne_of_lt (Nat.lt_succ_self _)) (.int .i64 sa) (.int .i64 su) (.int .i64 nx) (.int .i64 gt) (.int .i64 sl) (.slice a' l.length c')
  have hB := set6 (x0 := .int .i64 sa) (x1 := .int .i64 su) (x2 := .int .i64 nx) (x3 := .int .i64 gt) (x4 := .int .i64 sl) (x5 := .slice a' l.length c') HB.out (Nat.le_refl w.heap.size)
  have hO := own6 HO.out (B := w.heap.size) (by omega) (.int .i64 sa) (.int .i64 su) (.int .i64 nx) (.int .i64 gt) (.int .i64 sl) (.slice a' l.length c')
  clear HB HO HR
  generalize (((((w2.setCell _ _).setCell _ _).setCell _ _).setCell _ _).setCell _ _).setCell _ _ = W3 at *
  have HB := hide hB
  have HO := hide hO
  clear hB hO
  go_wp2_with fail
  replace hR := resO hR (Nat.ne_of_lt (Nat.lt_succ_self _)) 0 (.int .i64 s)
  have hbs := set6 (x0 := .int .i64 s) (x1 := .int .i64 su) (x2 := .int .i64 nx) (x3 := .int .i64 gt) (x4 := .int .i64 sl) (x5 := .slice a' l.length c') (HB.out.setCell (p := ⟨w.heap.size, 0, none⟩) (Nat.le_refl _) (.int .i64 s)) (Nat.le_succ w.heap.size)
  refine bodyPost_ret (v := .agg #[.int .i64 s, .int .i64 su, .int .i64 nx, .int .i64 gt, .int .i64 sl, .slice a' l.length c']) (by simp [results, Try.results44, go_sem, hR]) rfl ⟨_, rfl, owns_mono (base := w.heap.size + 1 + 1) ?_ (by omega), hbs⟩
  exact own6 (own1 HO.out (by omega) 0 _) (Nat.lt_succ_self _) _ _ _ _ _ _
/-- The steps that program a text so far behind a slot's beginning. -/
theorem words_at (s k : Int) (t : ByteArray) (w : World) (h0 : 0 ≤ k) (h1 : k ≤ 288) : Calls Try.prog 43 #[.int .i64 s, .int .i64 k, .string t] w fun e w' => ∃ v, e = .returned v ∧ w'.ownsRow w.heap.size 44 3 v (wordsL (baseI s + k) t).length (flat (wordsL (baseI s + k) t)) ∧ Below w.heap.size w w' := by
  have C0 := hide (fun w => ImgWalk.base_any s w)
  have C1 := hide (fun w => OpsWords.words_any (baseI s + k) t w)
  obtain ⟨b0, b1⟩ := base_le s
  generalize errI (baseOk s) = E at *
  generalize errO (wordsOk (baseI s + k) t) = F at *
  generalize wordsL (baseI s + k) t = L at *
  generalize baseI s = B at *
  go_enter Try.func43, Try.ntmps43
  go_wp2_with (go_at_call 61; refine (C0.out _).mono ?_; rintro e w' ⟨rfl, rfl⟩)
  refine (C1.out _).mono ?_
  rintro e w2 ⟨v, rfl, hown, hb⟩
  obtain ⟨a', c', rfl⟩ := owns_form hown
  go_wp2_with fail
  go_ret
  exact ⟨_, rfl, hown, hb⟩
theorem room_ways (d : FDev) (n : Int) : (¬ d.gt % 32 = 0 ∧ roomB d n = false) ∨ (d.gt % 32 = 0 ∧ ¬ d.gt + n ≤ 288 ∧ roomB d n = false) ∨ (d.gt % 32 = 0 ∧ d.gt + n ≤ 288 ∧ roomB d n = decide (d.nx < 16)) := by
  unfold roomB
  by_cases h1 : d.gt % 32 = 0 <;> by_cases h2 : d.gt + n ≤ 288 <;> simp [h1, h2]
set_option maxRecDepth 100000 in
set_option maxHeartbeats 1000000 in
theorem room_any (d : FDev) (v : Value) (n : Int) (w : World) (hv : IsSt w v d.ops) (h0 : 0 ≤ d.gt) (h1 : d.gt ≤ 288) (h2 : 0 ≤ n) (h3 : n ≤ 32) : Calls Try.prog 45 #[.agg #[.int .i64 d.sa, .int .i64 d.su, .int .i64 d.nx, .int .i64 d.gt, .int .i64 d.sl, v], .int .i64 n] w fun e w' => e = .returned (.bool (roomB d n)) ∧ Below w.heap.size w w' := by
  have hB := (Below.refl w.heap.size w).alloc (Nat.le_refl _) (.cells #[.int .i64 d.sa, .int .i64 d.su, .int .i64 d.nx, .int .i64 d.gt, .int .i64 d.sl, v] 24)
  have HW := hide (room_ways d n)
  obtain ⟨a, ca, rfl, _, _⟩ := hv
  generalize roomB d n = R at *
  obtain ⟨sa, su, nx, gt, sl, l⟩ := d
  dsimp only at *
  have hw : ∃ g : Nat, gt = (g : Int) := ⟨gt.toNat, by omega⟩
  obtain ⟨g, rfl⟩ := hw
  rcases HW.out with ⟨h4, rfl⟩ | ⟨h4, h5, rfl⟩ | ⟨h4, h5, rfl⟩
  all_goals
    clear HW
    go_enter Try.func45, Try.ntmps45
    go_wp2_with fail
    go_ret
    first | exact ⟨rfl, hB⟩ | exact ⟨ret_bool (by simp), hB⟩ | exact ⟨ret_bool (by rw [Bool.eq_iff_iff]; simp; try omega), hB⟩
end Go.Proofs.Ythpoefaipmcceaa.DnlCopy
