/- A block taken: which may be asked, what becomes of the device. No program is named here. -/
import Derived.Test.YtmlfkbkpkgaefaaGreatDoorBagCho
import Derived.Test.YtmlfkbkpkgaefaaGreatDoorBagDev
import Derived.Test.YtmlfkbkpkgaefaaGreatDoorBagImg
import Derived.Test.YtmlfkbkpkgaefaaGreatDoorBagOps
import Derived.Laws.OwnMore
import Derived.Deep.Cut
import Derived.Test.YtmlfkbkpkgaefaaGreatDoorBagPla
namespace Go.Proofs.YtmlfkbkpkgaefaaGreatDoor.Dnl
open Go.Proofs.YtmlfkbkpkgaefaaGreatDoor Go.Proofs.YtmlfkbkpkgaefaaGreatDoor.Nor Go.Proofs.YtmlfkbkpkgaefaaGreatDoor.Ops Go.Proofs.YtmlfkbkpkgaefaaGreatDoor.Jou Go.Proofs.YtmlfkbkpkgaefaaGreatDoor.Act Go.Proofs.YtmlfkbkpkgaefaaGreatDoor.Cho Go.Proofs.YtmlfkbkpkgaefaaGreatDoor.Sta Go.Proofs.YtmlfkbkpkgaefaaGreatDoor.Ans Go.Proofs.YtmlfkbkpkgaefaaGreatDoor.Dev

/-- May this be asked? -/
def okB (f : ByteArray) (d : FDev) (b : Int) (t : ByteArray) : Bool := mayF f && devB d && decide (d.sa = 0 ∨ d.sa = 3) && upB b 65535 && decide (t.size ≤ 32)
def errL (ok : Bool) : Int := if ok then 0 else 1700
def failedD (s : Int) : FDev := ⟨7, s, 0, 0, 0, []⟩
/-- Does the device take so many bytes more? -/
def roomB (d : FDev) (n : Int) : Bool := decide (d.gt % 32 = 0) && decide (d.gt + n ≤ 288) && decide (d.nx < 16)
def startD (f : ByteArray) (d : FDev) (t : ByteArray) : FDev := ⟨1, d.su, 1, t.size, othI f, erL (othI f) ++ wordsL (baseI (othI f)) t⟩
def turnD (d : FDev) (s : Int) : FDev := ⟨s, d.su, d.nx, d.gt, d.sl, d.ops⟩
def moreD (d : FDev) (t : ByteArray) : FDev := ⟨1, d.su, d.nx + 1, d.gt + t.size, d.sl, wordsL (baseI d.sl + d.gt) t⟩
def firstD (f : ByteArray) (d : FDev) (b : Int) (t : ByteArray) : FDev := if t.size = 0 then failedD 5 else if b = 0 then startD f d t else failedD 4
def furtherD (d : FDev) (b : Int) (t : ByteArray) : FDev := if b = d.nx - 1 then turnD d 1 else if ¬ b = d.nx then failedD 4 else if t.size = 0 then turnD d 4 else if roomB d t.size then moreD d t else failedD 4
/-- What Take answers, whatever it is asked. -/
def takeD (f : ByteArray) (d : FDev) (b : Int) (t : ByteArray) : FDev := if okB f d b t then (if d.sa = 0 then firstD f d b t else furtherD d b t) else newD
theorem take_no {f : ByteArray} {d : FDev} {b : Int} {t : ByteArray} (h : okB f d b t = false) : takeD f d b t = newD := by unfold takeD; rw [h]; rfl
theorem take_first {f : ByteArray} {d : FDev} {b : Int} {t : ByteArray} (h : okB f d b t = true) (h0 : d.sa = 0) : takeD f d b t = firstD f d b t := by unfold takeD; rw [if_pos h, if_pos h0]
theorem take_further {f : ByteArray} {d : FDev} {b : Int} {t : ByteArray} (h : okB f d b t = true) (h0 : d.sa = 3) : takeD f d b t = furtherD d b t := by unfold takeD; rw [if_pos h, if_neg (by omega)]
theorem errL_t {ok : Bool} (h : ok = true) : errL ok = 0 := by rw [h]; rfl
theorem errL_f {ok : Bool} (h : ok = false) : errL ok = 1700 := by rw [h]; rfl
theorem upB_iff {x k : Int} : upB x k = true ↔ 0 ≤ x ∧ x ≤ k := by unfold upB; rw [decide_eq_true_iff]
theorem okB_parts {f : ByteArray} {d : FDev} {b : Int} {t : ByteArray} : okB f d b t = true ↔ mayF f = true ∧ devB d = true ∧ (d.sa = 0 ∨ d.sa = 3) ∧ (0 ≤ b ∧ b ≤ 65535) ∧ t.size ≤ 32 := by
  unfold okB
  simp only [Bool.and_eq_true, decide_eq_true_iff, upB_iff]
  constructor
  · rintro ⟨⟨⟨⟨h1, h2⟩, h3⟩, h4⟩, h5⟩; exact ⟨h1, h2, h3, h4, h5⟩
  · rintro ⟨h1, h2, h3, h4, h5⟩; exact ⟨⟨⟨⟨h1, h2⟩, h3⟩, h4⟩, h5⟩
theorem dev_parts {d : FDev} (h : devB d = true) : (0 ≤ d.nx ∧ d.nx ≤ 16) ∧ (0 ≤ d.gt ∧ d.gt ≤ 288) ∧ (0 ≤ d.sl ∧ d.sl ≤ 1) ∧ d.ops.length ≤ 768 := by
  unfold devB stepsB at h
  simp only [Bool.and_eq_true, decide_eq_true_iff, upB_iff] at h
  obtain ⟨⟨⟨⟨_, h1⟩, h2⟩, h3⟩, h4, _⟩ := h
  exact ⟨h1, h2, h3, h4⟩
theorem may_size {f : ByteArray} (h : mayF f = true) : f.size = 768 := by unfold mayF at h; exact of_decide_eq_true h
theorem oth_01 (f : ByteArray) : 0 ≤ othI f ∧ othI f ≤ 1 := by
  unfold othI
  cases h : actO f with
  | none => exact ⟨Int.le_refl _, by decide⟩
  | some p =>
    rcases act_slot h with h1 | h1
    all_goals
      show 0 ≤ 1 - p.pt ∧ 1 - p.pt ≤ 1
      omega
theorem base_of {t : Int} (h0 : 0 ≤ t) (h1 : t ≤ 1) : baseOk t = true ∧ baseI t = 192 + 288 * t := by
  have : baseOk t = true := by unfold baseOk; exact decide_eq_true ⟨h0, h1⟩
  exact ⟨this, by unfold baseI; rw [this]; rfl⟩
theorem base_le (t : Int) : 0 ≤ baseI t ∧ baseI t ≤ 480 := by
  unfold baseI
  split
  · rename_i h; unfold baseOk at h; have := of_decide_eq_true h; omega
  · omega
theorem room_iff {d : FDev} {n : Int} : roomB d n = true ↔ d.gt % 32 = 0 ∧ d.gt + n ≤ 288 ∧ d.nx < 16 := by
  unfold roomB
  simp only [Bool.and_eq_true, decide_eq_true_iff]
  exact ⟨fun ⟨⟨a, b⟩, c⟩ => ⟨a, b, c⟩, fun ⟨a, b, c⟩ => ⟨⟨a, b⟩, c⟩⟩
theorem words_few (a : Int) (t : ByteArray) (h : t.size ≤ 32) : (wordsL a t).length ≤ 8 := by
  unfold wordsL
  split
  · rw [length_wordsTo]; unfold wordsN; omega
  · exact Nat.zero_le _
theorem er_three (f : ByteArray) : (erL (othI f)).length = 3 := by
  obtain ⟨h0, h1⟩ := oth_01 f
  rw [erL_ok (base_of h0 h1).1, length_erTo]
theorem start_ok {s : Int} {t : ByteArray} (h0 : 0 ≤ s) (h1 : s ≤ 1) (ht : t.size ≤ 32) : wordsOk (baseI s) t = true := by
  rw [wordsOk_parts, (base_of h0 h1).2]
  omega
theorem more_ok {s g : Int} {t : ByteArray} (h0 : 0 ≤ s) (h1 : s ≤ 1) (h2 : 0 ≤ g) (h3 : g % 32 = 0) (h4 : g + t.size ≤ 288) : wordsOk (baseI s + g) t = true := by
  rw [wordsOk_parts, (base_of h0 h1).2]
  omega
end Go.Proofs.YtmlfkbkpkgaefaaGreatDoor.Dnl

/- The contracts of package fresh (a device that shares no memory) and of the smaller parts of package download. -/
namespace Go.Proofs.YtmlfkbkpkgaefaaGreatDoor.DnlCopy
open Go.Proofs.YtmlfkbkpkgaefaaGreatDoor Go.RowKit Go.Proofs.YtmlfkbkpkgaefaaGreatDoor.Bytes Go.Proofs.YtmlfkbkpkgaefaaGreatDoor.Ops Go.Proofs.YtmlfkbkpkgaefaaGreatDoor.OpsRow Go.Proofs.YtmlfkbkpkgaefaaGreatDoor.Act Go.Proofs.YtmlfkbkpkgaefaaGreatDoor.Dev Go.Proofs.YtmlfkbkpkgaefaaGreatDoor.DevRow Go.Proofs.YtmlfkbkpkgaefaaGreatDoor.DevSet Go.Proofs.YtmlfkbkpkgaefaaGreatDoor.Dnl
open Go.Proofs.YtmlfkbkpkgaefaaGreatDoor.OpsWalk (size_alloc1 info_op)
open Go.Proofs.YtmlfkbkpkgaefaaGreatDoor.NorWalk (ret_bool)
open Go.Proofs.YtmlfkbkpkgaefaaGreatDoor.ImgClone (clone_any)
attribute [local go_sem ↓] Go.wp_at_zero Go.wp_at_succ
theorem text_small {l : List FOp} (h : mayAll l = true) {j : Nat} (hj : j < l.length) : l[j].tx.size ≤ 4 := by
  have := mayAll_get h hj
  cases e : l[j].er with
  | true => rw [e] at this; have := (may_er.1 this).2.2.2; omega
  | false => rw [e] at this; have := (may_pr.1 this).2.2.2; omega
theorem take_flat {l : List FOp} {j : Nat} (h : j < l.length) : flat (l.take (j + 1)) = flat (l.take j) ++ [.bool l[j].er, .int .i64 l[j].pl, .string l[j].tx] := by
  rw [List.take_succ_eq_append_getElem h, flat_append]; rfl
set_option maxRecDepth 100000 in
set_option maxHeartbeats 2000000 in
theorem steps_any (v : Value) (l : List FOp) (w : World) (hv : IsSt w v l) (hm : mayAll l = true) (hl : l.length ≤ 768) : Calls Tryz.prog 110 #[v] w fun e w' => ∃ u, e = .returned u ∧ w'.ownsRow w.heap.size 86 3 u l.length (flat l) ∧ Below w.heap.size w w' := by
  obtain ⟨i, hi, hz0, hz1, hz2⟩ := info_parts info_op
  obtain ⟨a, ca, rfl, _, ha⟩ := hv
  have HT : Hid (∀ j (hj : j < l.length), l[j].tx.size ≤ 4) := fun j hj => text_small hm hj
  have HF : Hid (∀ j (hj : j < l.length), flat (l.take (j + 1)) = flat (l.take j) ++ [.bool l[j].er, .int .i64 l[j].pl, .string l[j].tx]) := fun j hj => take_flat hj
  clear hm
  go_enter Tryz.func110, Tryz.ntmps110
  go_wp2
  go_loopw [3, 8] (fun s x wr => ∃ j : Nat, j ≤ l.length ∧ x = .int .i64 j ∧ wr.ownsRow w.heap.size 86 3 s j (flat (l.take j)) ∧ Below w.heap.size w wr) (fun _ x _ => l.length - (intOf x).toNat)
  case atStart => exact ⟨0, Nat.zero_le _, rfl, owns_nil _ _ _, Below.refl _ _⟩
  case round =>
    obtain ⟨j, hj, rfl, hown, hbel⟩ := hrel
    by_cases hlt : j < l.length
    · rcases ha with ha | ⟨g, o, rfl, _, _, hg, ha⟩
      · rw [ha] at hlt; simp at hlt
      have ha' := ha.below hbel hg
      have a1 := ha'.er j hlt
      have a2 := ha'.pl j hlt
      have a3 := ha'.tx j hlt
      have h4 := HT.out j hlt
      have HN := hide (HF.out j hlt)
      generalize l[j].er = E at *
      generalize l[j].pl = A at *
      generalize l[j].tx = T at *
      clear ha ha' HF HT
      have s1 := hbel.size
      have b1 : j + 1 ≤ maxLen := by unfold maxLen; omega
      have b2 : (j + 1) * 32 ≤ 140737488355328 := by omega
      go_wp2_with fail
      have hX := AnsWalk.resM wr (.bool E) (.int .i64 A) (.string T) 86
      have hal : Below wr.heap.size wr (wr.alloc (.cells #[.bool E, .int .i64 A, .string T] 86)) := (Below.refl _ _).alloc (Nat.le_refl _) _
      replace hbel := thenB hbel hal
      have hlt' : ∀ k, u3.ownBlock = some k → k ≠ wr.heap.size := fun k hk => Nat.ne_of_lt (hown.lt k hk).2
      replace hown := owns_below hown hal
      clear hal
      generalize wr.alloc (.cells #[.bool E, .int .i64 A, .string T] 86) = W at *
      generalize wr.heap.size = G at *
      refine (clone_any _ _ (by omega)).mono ?_
      rintro e w2 ⟨rfl, hb⟩
      replace hX := AnsWalk.resB hX hb
      replace hown := owns_below hown hb
      replace hbel := thenB hbel hb
      clear hb
      have s2 := hbel.size
      replace hown := ownsRow_setCell_other hown (a := ⟨G, 2, none⟩) (fun h => hlt' G h rfl) (.string T)
      have hbs := hbel.setCell (p := ⟨G, 2, none⟩) s1 (.string T)
      have s3 := hbs.size
      go_wp2_with (at_builtin; refine wpList_append_lies _ rfl _ _ _ rfl w.heap.size 86 i _ 3 32 Tryz.underlying22 hi hz0 hz1 hz2 rfl (by omega) _ j _ rfl (hown.alloc _) ⟨w2.heap.size, 0, none⟩ 1 1 _ rfl rfl (World.news_of_block (by rw [← size_set w2 ⟨G, 2, none⟩ (.string T)]; exact heap_alloc_new _ _)) (flat_oneCell [⟨E, _, _⟩]) (by omega) b1 b2 (by simp; omega) _ rfl ?_; intro g2 cap w1 hown1 hgrow hat hlt1)
      refine ⟨⟨j + 1, by omega, by go_num, ?_, ?_⟩, by simp [intOf]; omega⟩
      · rw [HN.out]; exact hown1
      · exact (hbs.alloc s3 _).grown hgrow (by simp; omega) (fun k hk => (hown.lt k hk).1)
    · obtain rfl : j = l.length := by omega
      go_wp2
      go_ret
      rw [List.take_length] at hown
      exact ⟨_, rfl, hown, hbel⟩
theorem owns_form {w : World} {base : Nat} {e : TypeId} {size : Nat} {v : Value} {n : Nat} {xs : List Value} (h : w.ownsRow base e size v n xs) : ∃ a c, v = .slice a n c := by
  rcases h.2 with ⟨rfl, rfl⟩ | ⟨g, cap, cur, rfl, _⟩
  · exact ⟨none, 0, rfl⟩
  · exact ⟨_, _, rfl⟩
/-- A device in memory and the zero that is the result's: the boxes of a function that takes one and gives one. -/
theorem two_boxes (w : World) (x0 x1 x2 x3 x4 x5 : Value) : Res ((w.alloc (.cells #[x0, x1, x2, x3, x4, x5] 24)).alloc (.cells #[.int .i64 0, .int .i64 0, .int .i64 0, .int .i64 0, .int .i64 0, .slice none 0 0] 24)) w.heap.size x0 x1 x2 x3 x4 x5 ∧ Res ((w.alloc (.cells #[x0, x1, x2, x3, x4, x5] 24)).alloc (.cells #[.int .i64 0, .int .i64 0, .int .i64 0, .int .i64 0, .int .i64 0, .slice none 0 0] 24)) (w.heap.size + 1) (.int .i64 0) (.int .i64 0) (.int .i64 0) (.int .i64 0) (.int .i64 0) (.slice none 0 0) ∧ Below w.heap.size w ((w.alloc (.cells #[x0, x1, x2, x3, x4, x5] 24)).alloc (.cells #[.int .i64 0, .int .i64 0, .int .i64 0, .int .i64 0, .int .i64 0, .slice none 0 0] 24)) ∧ w.heap.size + 1 + 1 = ((w.alloc (.cells #[x0, x1, x2, x3, x4, x5] 24)).alloc (.cells #[.int .i64 0, .int .i64 0, .int .i64 0, .int .i64 0, .int .i64 0, .slice none 0 0] 24)).heap.size := by
  have hR := resM (w.alloc (.cells #[x0, x1, x2, x3, x4, x5] 24)) (.int .i64 0) (.int .i64 0) (.int .i64 0) (.int .i64 0) (.int .i64 0) (.slice none 0 0) 24
  rw [show (w.alloc (.cells #[x0, x1, x2, x3, x4, x5] 24)).heap.size = w.heap.size + 1 from by simp] at hR
  exact ⟨resB (resM w x0 x1 x2 x3 x4 x5 24) ((Below.refl _ _).alloc (Nat.le_refl _) _), hR, ((Below.refl _ _).alloc (Nat.le_refl _) _).alloc (Nat.le_of_lt (size_alloc1 _ _)) _, by simp⟩
set_option maxRecDepth 100000 in
set_option maxHeartbeats 1000000 in
theorem fresh_any (d : FDev) (v : Value) (w : World) (hv : IsSt w v d.ops) (hm : mayAll d.ops = true) (hl : d.ops.length ≤ 768) : Calls Tryz.prog 92 #[.agg #[.int .i64 d.sa, .int .i64 d.su, .int .i64 d.nx, .int .i64 d.gt, .int .i64 d.sl, v]] w fun e w' => ∃ u, e = .returned (.agg #[.int .i64 d.sa, .int .i64 d.su, .int .i64 d.nx, .int .i64 d.gt, .int .i64 d.sl, u]) ∧ w'.ownsRow w.heap.size 86 3 u d.ops.length (flat d.ops) ∧ Below w.heap.size w w' := by
  have HS : Hid (∀ w', Below w.heap.size w w' → Calls Tryz.prog 110 #[v] w' fun e w'' => ∃ u, e = .returned u ∧ w''.ownsRow w'.heap.size 86 3 u d.ops.length (flat d.ops) ∧ Below w'.heap.size w' w'') := fun w' hb => steps_any v d.ops w' (hv.below hb) hm hl
  obtain ⟨hD, hR, hB, hs⟩ := two_boxes w (.int .i64 d.sa) (.int .i64 d.su) (.int .i64 d.nx) (.int .i64 d.gt) (.int .i64 d.sl) v
  obtain ⟨a, ca, rfl, _, _⟩ := hv
  obtain ⟨sa, su, nx, gt, sl, l⟩ := d
  dsimp only at *
  go_enter Tryz.func92, Tryz.ntmps92
  go_wp2_with fail
  refine (HS.out _ hB).mono ?_
  generalize (w.alloc _).alloc _ = W at *
  rintro e w2 ⟨u, rfl, hown, hb⟩
  replace hB := thenB hB hb
  replace hD := resB hD hb
  replace hR := resB hR hb
  rw [← hs] at hown
  clear hb HS
  obtain ⟨a', c', rfl⟩ := owns_form hown
  have HB := hide hB
  have HO := hide hown
  clear hB hown
  go_wp2_with fail
  replace hR := resO hR (Nat.ne_of_lt (Nat.lt_succ_self _)) 5 (.slice a' l.length c')
  have hbs := set6 (x0 := .int .i64 sa) (x1 := .int .i64 su) (x2 := .int .i64 nx) (x3 := .int .i64 gt) (x4 := .int .i64 sl) (x5 := .slice a' l.length c') (HB.out.setCell (p := ⟨w.heap.size, 5, none⟩) (Nat.le_refl _) (.slice a' l.length c')) (Nat.le_succ w.heap.size)
  refine bodyPost_ret (v := .agg #[.int .i64 sa, .int .i64 su, .int .i64 nx, .int .i64 gt, .int .i64 sl, .slice a' l.length c']) (by simp [results, Tryz.results92, go_sem, hR]) rfl ⟨_, rfl, owns_mono (base := w.heap.size + 1 + 1) ?_ (by omega), hbs⟩
  exact own6 (own1 HO.out (by omega) 5 _) (Nat.lt_succ_self _) _ _ _ _ _ _
set_option maxRecDepth 100000 in
set_option maxHeartbeats 1000000 in
theorem turned_any (d : FDev) (v : Value) (s : Int) (w : World) (hv : IsSt w v d.ops) (hm : mayAll d.ops = true) (hl : d.ops.length ≤ 768) : Calls Tryz.prog 114 #[.agg #[.int .i64 d.sa, .int .i64 d.su, .int .i64 d.nx, .int .i64 d.gt, .int .i64 d.sl, v], .int .i64 s] w fun e w' => ∃ u, e = .returned (.agg #[.int .i64 s, .int .i64 d.su, .int .i64 d.nx, .int .i64 d.gt, .int .i64 d.sl, u]) ∧ w'.ownsRow w.heap.size 86 3 u d.ops.length (flat d.ops) ∧ Below w.heap.size w w' := by
  have HS : Hid (∀ w', Below w.heap.size w w' → _) := fun w' hb => fresh_any d v w' (hv.below hb) hm hl
  obtain ⟨hD, hR, hB, hs⟩ := two_boxes w (.int .i64 d.sa) (.int .i64 d.su) (.int .i64 d.nx) (.int .i64 d.gt) (.int .i64 d.sl) v
  obtain ⟨a, ca, rfl, _, _⟩ := hv
  obtain ⟨sa, su, nx, gt, sl, l⟩ := d
  dsimp only at *
  go_enter Tryz.func114, Tryz.ntmps114
  go_wp2_with fail
  refine (HS.out _ hB).mono ?_
  generalize (w.alloc _).alloc _ = W at *
  rintro e w2 ⟨u, rfl, hown, hb⟩
  replace hB := thenB hB hb
  replace hD := resB hD hb
  replace hR := resB hR hb
  rw [← hs] at hown
  clear hb HS
  obtain ⟨a', c', rfl⟩ := owns_form hown
  have HB := hide hB
  have HO := hide hown
  have HR := hide hR
  clear hB hown hR
  go_upto_region 2 with fail
  replace hD := res6 hD (.int .i64 sa) (.int .i64 su) (.int .i64 nx) (.int .i64 gt) (.int .i64 sl) (.slice a' l.length c')
  have hR := resO6 HR.out (Nat.ne_of_lt (Nat.lt_succ_self _)) (.int .i64 sa) (.int .i64 su) (.int .i64 nx) (.int .i64 gt) (.int .i64 sl) (.slice a' l.length c')
  have hB := set6 (x0 := .int .i64 sa) (x1 := .int .i64 su) (x2 := .int .i64 nx) (x3 := .int .i64 gt) (x4 := .int .i64 sl) (x5 := .slice a' l.length c') HB.out (Nat.le_refl w.heap.size)
  have hO := own6 HO.out (B := w.heap.size) (by omega) (.int .i64 sa) (.int .i64 su) (.int .i64 nx) (.int .i64 gt) (.int .i64 sl) (.slice a' l.length c')
  clear HB HO HR
  generalize (((((w2.setCell _ _).setCell _ _).setCell _ _).setCell _ _).setCell _ _).setCell _ _ = W3 at *
  have HB := hide hB
  have HO := hide hO
  clear hB hO
  go_wp2_with fail
  replace hR := resO hR (Nat.ne_of_lt (Nat.lt_succ_self _)) 0 (.int .i64 s)
  have hbs := set6 (x0 := .int .i64 s) (x1 := .int .i64 su) (x2 := .int .i64 nx) (x3 := .int .i64 gt) (x4 := .int .i64 sl) (x5 := .slice a' l.length c') (HB.out.setCell (p := ⟨w.heap.size, 0, none⟩) (Nat.le_refl _) (.int .i64 s)) (Nat.le_succ w.heap.size)
  refine bodyPost_ret (v := .agg #[.int .i64 s, .int .i64 su, .int .i64 nx, .int .i64 gt, .int .i64 sl, .slice a' l.length c']) (by simp [results, Tryz.results114, go_sem, hR]) rfl ⟨_, rfl, owns_mono (base := w.heap.size + 1 + 1) ?_ (by omega), hbs⟩
  exact own6 (own1 HO.out (by omega) 0 _) (Nat.lt_succ_self _) _ _ _ _ _ _
/-- The steps that program a text so far behind a slot's beginning. -/
theorem words_at (s k : Int) (t : ByteArray) (w : World) (h0 : 0 ≤ k) (h1 : k ≤ 288) : Calls Tryz.prog 113 #[.int .i64 s, .int .i64 k, .string t] w fun e w' => ∃ v, e = .returned v ∧ w'.ownsRow w.heap.size 86 3 v (wordsL (baseI s + k) t).length (flat (wordsL (baseI s + k) t)) ∧ Below w.heap.size w w' := by
  have C0 := hide (fun w => ImgWalk.base_any s w)
  have C1 := hide (fun w => OpsWords.words_any (baseI s + k) t w)
  obtain ⟨b0, b1⟩ := base_le s
  generalize errI (baseOk s) = E at *
  generalize errO (wordsOk (baseI s + k) t) = F at *
  generalize wordsL (baseI s + k) t = L at *
  generalize baseI s = B at *
  go_enter Tryz.func113, Tryz.ntmps113
  go_wp2_with (go_at_call 121; refine (C0.out _).mono ?_; rintro e w' ⟨rfl, rfl⟩)
  refine (C1.out _).mono ?_
  rintro e w2 ⟨v, rfl, hown, hb⟩
  obtain ⟨a', c', rfl⟩ := owns_form hown
  go_wp2_with fail
  go_ret
  exact ⟨_, rfl, hown, hb⟩
theorem room_ways (d : FDev) (n : Int) : (¬ d.gt % 32 = 0 ∧ roomB d n = false) ∨ (d.gt % 32 = 0 ∧ ¬ d.gt + n ≤ 288 ∧ roomB d n = false) ∨ (d.gt % 32 = 0 ∧ d.gt + n ≤ 288 ∧ roomB d n = decide (d.nx < 16)) := by
  unfold roomB
  by_cases h1 : d.gt % 32 = 0 <;> by_cases h2 : d.gt + n ≤ 288 <;> simp [h1, h2]
set_option maxRecDepth 100000 in
set_option maxHeartbeats 1000000 in
theorem room_any (d : FDev) (v : Value) (n : Int) (w : World) (hv : IsSt w v d.ops) (h0 : 0 ≤ d.gt) (h1 : d.gt ≤ 288) (h2 : 0 ≤ n) (h3 : n ≤ 32) : Calls Tryz.prog 115 #[.agg #[.int .i64 d.sa, .int .i64 d.su, .int .i64 d.nx, .int .i64 d.gt, .int .i64 d.sl, v], .int .i64 n] w fun e w' => e = .returned (.bool (roomB d n)) ∧ Below w.heap.size w w' := by
  have hB := (Below.refl w.heap.size w).alloc (Nat.le_refl _) (.cells #[.int .i64 d.sa, .int .i64 d.su, .int .i64 d.nx, .int .i64 d.gt, .int .i64 d.sl, v] 24)
  have HW := hide (room_ways d n)
  obtain ⟨a, ca, rfl, _, _⟩ := hv
  generalize roomB d n = R at *
  obtain ⟨sa, su, nx, gt, sl, l⟩ := d
  dsimp only at *
  have hw : ∃ g : Nat, gt = (g : Int) := ⟨gt.toNat, by omega⟩
  obtain ⟨g, rfl⟩ := hw
  rcases HW.out with ⟨h4, rfl⟩ | ⟨h4, h5, rfl⟩ | ⟨h4, h5, rfl⟩
  all_goals
    clear HW
    go_enter Tryz.func115, Tryz.ntmps115
    go_wp2_with fail
    go_ret
    first | exact ⟨rfl, hB⟩ | exact ⟨ret_bool (by simp), hB⟩ | exact ⟨ret_bool (by rw [Bool.eq_iff_iff]; simp; try omega), hB⟩
end Go.Proofs.YtmlfkbkpkgaefaaGreatDoor.DnlCopy

/- The contracts of package download: each call answers the device that the plain functions give, whatever its arguments; its steps lie in memory of their own. -/
namespace Go.Proofs.YtmlfkbkpkgaefaaGreatDoor.DnlWalk
open Go.Proofs.YtmlfkbkpkgaefaaGreatDoor Go.RowKit Go.Proofs.YtmlfkbkpkgaefaaGreatDoor.Bytes Go.Proofs.YtmlfkbkpkgaefaaGreatDoor.Ops Go.Proofs.YtmlfkbkpkgaefaaGreatDoor.OpsRow Go.Proofs.YtmlfkbkpkgaefaaGreatDoor.Jou Go.Proofs.YtmlfkbkpkgaefaaGreatDoor.Act Go.Proofs.YtmlfkbkpkgaefaaGreatDoor.Cho Go.Proofs.YtmlfkbkpkgaefaaGreatDoor.Sta Go.Proofs.YtmlfkbkpkgaefaaGreatDoor.Dev Go.Proofs.YtmlfkbkpkgaefaaGreatDoor.DevRow Go.Proofs.YtmlfkbkpkgaefaaGreatDoor.DevSet Go.Proofs.YtmlfkbkpkgaefaaGreatDoor.Dnl Go.Proofs.YtmlfkbkpkgaefaaGreatDoor.DnlCopy
open Go.Proofs.YtmlfkbkpkgaefaaGreatDoor.OpsWalk (size_alloc1 info_op)
open Go.Proofs.YtmlfkbkpkgaefaaGreatDoor.EntRow (text_ne)
open Go.Proofs.YtmlfkbkpkgaefaaGreatDoor.DevWalk (build_d0)
attribute [local go_sem ↓] Go.wp_at_zero Go.wp_at_succ
/-- A device and an error are given back; the device's steps lie in memory made since. -/
abbrev Gave (w : World) (D : FDev) (e : Int) (r : Ending) (w' : World) : Prop := ∃ u, r = .returned (.tuple #[.agg #[.int .i64 D.sa, .int .i64 D.su, .int .i64 D.nx, .int .i64 D.gt, .int .i64 D.sl, u], .int .i64 e]) ∧ w'.ownsRow w.heap.size 86 3 u D.ops.length (flat D.ops) ∧ Below w.heap.size w w'
theorem fail_is (d : FDev) (v : Value) (s : Int) (w : World) (hv : IsSt w v d.ops) (hd : devB d = true) (hs : flB s = true) : Calls Tryz.prog 56 #[.agg #[.int .i64 d.sa, .int .i64 d.su, .int .i64 d.nx, .int .i64 d.gt, .int .i64 d.sl, v], .int .i64 s] w fun r w' => r = .returned (.tuple #[.agg #[.int .i64 7, .int .i64 s, .int .i64 0, .int .i64 0, .int .i64 0, .slice none 0 0], .int .i64 0]) ∧ Below w.heap.size w w' := by
  have g := DevFail.fail_any d v s w hv
  have hF : failB d s = true := by unfold failB; rw [hd, hs]; rfl
  rw [hF] at g
  exact g
theorem text_none {t : ByteArray} (h : t.size = 0) : t = ⟨#[]⟩ := by
  apply ba_ext
  have : t.data.toList.length = 0 := by rw [Nor.size_list]; exact h
  exact List.length_eq_zero_iff.1 this
theorem list_none : (⟨#[]⟩ : ByteArray).toList = [] := by kernel_rfl
theorem text_some {t : ByteArray} (h : ¬ t.size = 0) : t.toList.isEmpty = false := by
  have g := text_ne (a := t) (b := ⟨#[]⟩) (fun e => h (by rw [e]; rfl))
  rw [list_none] at g
  cases hc : t.toList with
  | nil => rw [hc] at g; cases g
  | cons x l => rfl
theorem ne_t {a b : Int} (h : ¬ a = b) : (a != b) = true := bne_iff_ne.2 h
theorem eq_f {a b : Int} (h : ¬ a = b) : (a == b) = false := beq_eq_false_iff_ne.2 h
/-- A struct that lies below what was written. -/
theorem resL {w w' : World} {B K : Nat} {x0 x1 x2 x3 x4 x5 : Value} (h : Res w B x0 x1 x2 x3 x4 x5) (hb : Below K w w') (hK : B < K) : Res w' B x0 x1 x2 x3 x4 x5 := by
  obtain ⟨h, h0, h1, h2, h3, h4, h5, h6⟩ := h
  exact ⟨Nat.lt_of_lt_of_le h hb.size, by rw [hb.cell (p := ⟨B, 0, none⟩) hK]; exact h0, by rw [hb.cell (p := ⟨B, 1, none⟩) hK]; exact h1, by rw [hb.cell (p := ⟨B, 2, none⟩) hK]; exact h2, by rw [hb.cell (p := ⟨B, 3, none⟩) hK]; exact h3, by rw [hb.cell (p := ⟨B, 4, none⟩) hK]; exact h4, by rw [hb.cell (p := ⟨B, 5, none⟩) hK]; exact h5, fun i => by rw [hb.frozen (p := ⟨B, i, none⟩) hK]; exact h6 i⟩
set_option maxRecDepth 100000 in
set_option maxHeartbeats 2000000 in
theorem first_any (f : ByteArray) (d : FDev) (v : Value) (b : Int) (t : ByteArray) (w : World) (hv : IsSt w v d.ops) (hd : devB d = true) (ht : t.size ≤ 32) : Calls Tryz.prog 99 #[.string f, .agg #[.int .i64 d.sa, .int .i64 d.su, .int .i64 d.nx, .int .i64 d.gt, .int .i64 d.sl, v], .int .i64 b, .string t] w (Gave w (firstD f d b t) 0) := by
  have HF : Hid (∀ (s : Int) (w' : World), flB s = true → Below w.heap.size w w' → Calls Tryz.prog 56 #[.agg #[.int .i64 d.sa, .int .i64 d.su, .int .i64 d.nx, .int .i64 d.gt, .int .i64 d.sl, v], .int .i64 s] w' fun r w'' => r = .returned (.tuple #[.agg #[.int .i64 7, .int .i64 s, .int .i64 0, .int .i64 0, .int .i64 0, .slice none 0 0], .int .i64 0]) ∧ Below w'.heap.size w' w'') := fun s w' hs hb => fail_is d v s w' (hv.below hb) hd hs
  obtain ⟨hD, hR, hB, hs⟩ := two_boxes w (.int .i64 d.sa) (.int .i64 d.su) (.int .i64 d.nx) (.int .i64 d.gt) (.int .i64 d.sl) v
  obtain ⟨a, ca, rfl, _, _⟩ := hv
  by_cases h0 : t.size = 0
  · have hf : firstD f d b t = failedD 5 := by unfold firstD; rw [if_pos h0]
    rw [hf]
    obtain rfl := text_none h0
    clear h0 hf
    go_enter Tryz.func99, Tryz.ntmps99
    go_wp2_with fail
    refine (HF.out _ _ rfl hB).mono ?_
    generalize (w.alloc _).alloc _ = W at *
    rintro e w2 ⟨rfl, hb⟩
    replace hB := thenB hB hb
    replace hR := resB hR hb
    clear hb HF hD
    go_wp2_with fail
    exact bodyPost_ret (v := .tuple #[.agg #[.int .i64 7, .int .i64 5, .int .i64 0, .int .i64 0, .int .i64 0, .slice none 0 0], .int .i64 0]) (by simp [results, Tryz.results99, go_sem, hR]) rfl ⟨_, rfl, owns_nil _ _ _, set6 hB (Nat.le_succ _)⟩
  have ht0 := text_some h0
  by_cases h1 : b = 0
  · have hf : firstD f d b t = startD f d t := by unfold firstD; rw [if_neg h0, if_pos h1]
    rw [hf]
    subst h1
    obtain ⟨i, hi, hz0, hz1, hz2⟩ := info_parts info_op
    have C1 := hide (fun w => ChoWalk.other_any f w)
    have C2 := hide (fun w => StaWalk.erases_any (othI f) w)
    have C3 := hide (fun w => words_at (othI f) 0 t w (by omega) (by omega))
    have hE := er_three f
    rw [hE] at C2
    obtain ⟨o0, o1⟩ := oth_01 f
    have hN := words_few (baseI (othI f)) t ht
    have hok := start_ok o0 o1 ht
    have hlen : 1 ≤ (wordsL (baseI (othI f)) t).length := by rw [wordsL_ok hok, length_wordsTo]; unfold wordsN; omega
    have HE := hide hE
    clear hE
    simp only [Int.add_zero] at C3
    unfold startD
    generalize errG (baseOk (othI f)) = G1 at *
    generalize errOt f = G2 at *
    generalize erL (othI f) = LE at *
    generalize wordsL (baseI (othI f)) t = LW at *
    generalize othI f = S at *
    obtain ⟨sa, su, nx, gt, sl, l⟩ := d
    dsimp only at *
    clear hf hd HF hok
    go_enter Tryz.func99, Tryz.ntmps99
    go_wp2_with fail
    refine (C1.out _).mono ?_
    generalize (w.alloc _).alloc _ = W at *
    rintro e w2 ⟨rfl, hb⟩
    replace hB := thenB hB hb
    replace hR := resB hR hb
    replace hD := resB hD hb
    replace hs := Nat.le_trans (Nat.le_of_eq hs) hb.size
    clear hb C1
    go_wp2_with fail
    refine (C2.out _).mono ?_
    rintro e w3 ⟨ve, rfl, hown, hb⟩
    replace hB := thenB hB hb
    replace hR := resB hR hb
    replace hD := resB hD hb
    replace hown := owns_mono hown hs
    replace hs := Nat.le_trans hs hb.size
    clear hb C2
    obtain ⟨a', c', rfl⟩ := owns_form hown
    have HB := hide hB
    have HO := hide hown
    have HR := hide hR
    clear hB hown hR
    go_upto_region 8 with fail
    replace hD := res4 (res3 (res2 (res0 hD (.int .i64 1)) (.int .i64 1)) (.int .i64 (t.size : Int))) (.int .i64 S)
    have hne : w.heap.size ≠ w.heap.size + 1 := Nat.ne_of_lt (Nat.lt_succ_self _)
    have hR := resO (resO (resO (resO HR.out hne 0 (.int .i64 1)) hne 2 (.int .i64 1)) hne 3 (.int .i64 (t.size : Int))) hne 4 (.int .i64 S)
    have hB := (((HB.out.setCell (p := ⟨w.heap.size, 0, none⟩) (Nat.le_refl _) (.int .i64 1)).setCell (p := ⟨w.heap.size, 2, none⟩) (Nat.le_refl _) (.int .i64 1)).setCell (p := ⟨w.heap.size, 3, none⟩) (Nat.le_refl _) (.int .i64 (t.size : Int))).setCell (p := ⟨w.heap.size, 4, none⟩) (Nat.le_refl _) (.int .i64 S)
    have hlw : w.heap.size < w.heap.size + 1 + 1 := by omega
    have hO := own1 (own1 (own1 (own1 HO.out hlw 0 (.int .i64 1)) hlw 2 (.int .i64 1)) hlw 3 (.int .i64 (t.size : Int))) hlw 4 (.int .i64 S)
    have hs2 : w.heap.size + 1 + 1 ≤ ((((w3.setCell ⟨w.heap.size, 0, none⟩ (.int .i64 1)).setCell ⟨w.heap.size, 2, none⟩ (.int .i64 1)).setCell ⟨w.heap.size, 3, none⟩ (.int .i64 (t.size : Int))).setCell ⟨w.heap.size, 4, none⟩ (.int .i64 S)).heap.size := by simp only [size_set]; exact hs
    clear HB HO HR hs
    generalize (((w3.setCell _ _).setCell _ _).setCell _ _).setCell _ _ = W3 at *
    go_wp2_with fail
    refine (C3.out _).mono ?_
    rintro e w4 ⟨vw, rfl, hown, hb⟩
    replace hB := thenB hB hb
    replace hR := resB hR hb
    replace hD := resB hD hb
    replace hO := owns_below hO hb
    replace hs2 := Nat.le_trans hs2 hb.size
    clear hb C3
    obtain ⟨g, cap, rfl, _, _⟩ := hown.form (by omega)
    have HB := hide hB
    clear hB
    go_wp2_with (at_builtin; refine wpList_append_lies _ rfl _ _ _ rfl (w.heap.size + 1 + 1) 86 i _ 3 32 Tryz.underlying22 hi hz0 hz1 hz2 rfl (by omega) _ 3 _ rfl hO ⟨g, 0, none⟩ LW.length cap _ rfl (length_flat LW) (news_of hown) (flat_oneCell _) (by omega) (by unfold maxLen; omega) (by omega) hs2 _ rfl ?_; intro g3 cap3 w6 hown2 hgrow2 hat2 hlt2; have hb6 := (Below.refl (w.heap.size + 1 + 1) w4).grown hgrow2 hs2 (fun k hk => (hO.lt k hk).1); replace hD := resL hD hb6 (by omega); replace hR := resL hR hb6 (by omega); replace hb6 := HB.out.trans (hb6.mono (by omega)); clear hgrow2 hat2)
    replace hR := resO hR hne 5 (.slice (some ⟨g3, 0, none⟩) (3 + LW.length) cap3)
    have hbs := set6 (x0 := .int .i64 1) (x1 := .int .i64 su) (x2 := .int .i64 1) (x3 := .int .i64 (t.size : Int)) (x4 := .int .i64 S) (x5 := .slice (some ⟨g3, 0, none⟩) (3 + LW.length) cap3) (hb6.setCell (p := ⟨w.heap.size, 5, none⟩) (Nat.le_refl _) (.slice (some ⟨g3, 0, none⟩) (3 + LW.length) cap3)) (Nat.le_succ w.heap.size)
    refine bodyPost_ret (v := .tuple #[.agg #[.int .i64 1, .int .i64 su, .int .i64 1, .int .i64 (t.size : Int), .int .i64 S, .slice (some ⟨g3, 0, none⟩) (3 + LW.length) cap3], .int .i64 0]) (by simp [results, Tryz.results99, go_sem, hR]) rfl ⟨_, rfl, owns_mono (base := w.heap.size + 1 + 1) ?_ (by omega), hbs⟩
    dsimp only
    rw [List.length_append, HE.out, flat_append]
    exact own6 (own1 hown2 hlw 5 _) (Nat.lt_succ_self _) _ _ _ _ _ _
  · have hf : firstD f d b t = failedD 4 := by unfold firstD; rw [if_neg h0, if_neg h1]
    rw [hf]
    have hb0 := ne_t h1
    clear hf
    go_enter Tryz.func99, Tryz.ntmps99
    go_wp2_with fail
    refine (HF.out _ _ rfl hB).mono ?_
    generalize (w.alloc _).alloc _ = W at *
    rintro e w2 ⟨rfl, hb⟩
    replace hB := thenB hB hb
    replace hR := resB hR hb
    clear hb HF hD
    go_wp2_with fail
    exact bodyPost_ret (v := .tuple #[.agg #[.int .i64 7, .int .i64 4, .int .i64 0, .int .i64 0, .int .i64 0, .slice none 0 0], .int .i64 0]) (by simp [results, Tryz.results99, go_sem, hR]) rfl ⟨_, rfl, owns_nil _ _ _, set6 hB (Nat.le_succ _)⟩
theorem dev_steps {d : FDev} (h : devB d = true) : mayAll d.ops = true := by
  unfold devB stepsB at h
  simp only [Bool.and_eq_true] at h
  exact h.2.2
set_option maxRecDepth 100000 in
set_option maxHeartbeats 2000000 in
theorem further_any (d : FDev) (v : Value) (b : Int) (t : ByteArray) (w : World) (hv : IsSt w v d.ops) (hd : devB d = true) (ht : t.size ≤ 32) : Calls Tryz.prog 100 #[.agg #[.int .i64 d.sa, .int .i64 d.su, .int .i64 d.nx, .int .i64 d.gt, .int .i64 d.sl, v], .int .i64 b, .string t] w (Gave w (furtherD d b t) 0) := by
  have HF : Hid (∀ (s : Int) (w' : World), flB s = true → Below w.heap.size w w' → Calls Tryz.prog 56 #[.agg #[.int .i64 d.sa, .int .i64 d.su, .int .i64 d.nx, .int .i64 d.gt, .int .i64 d.sl, v], .int .i64 s] w' fun r w'' => r = .returned (.tuple #[.agg #[.int .i64 7, .int .i64 s, .int .i64 0, .int .i64 0, .int .i64 0, .slice none 0 0], .int .i64 0]) ∧ Below w'.heap.size w' w'') := fun s w' hs hb => fail_is d v s w' (hv.below hb) hd hs
  obtain ⟨⟨n0, n1⟩, ⟨g0, g1⟩, ⟨l0, l1⟩, hl⟩ := dev_parts hd
  have hm := dev_steps hd
  have HT : Hid (∀ (s : Int) (w' : World), Below w.heap.size w w' → _) := fun s w' hb => turned_any d v s w' (hv.below hb) hm hl
  have HM : Hid (∀ (w' : World), Below w.heap.size w w' → _) := fun w' hb => room_any d v (t.size : Int) w' (hv.below hb) g0 g1 (by omega) (by omega)
  have HR := hide (room_iff (d := d) (n := (t.size : Int)))
  obtain ⟨hD, hR, hB, hs⟩ := two_boxes w (.int .i64 d.sa) (.int .i64 d.su) (.int .i64 d.nx) (.int .i64 d.gt) (.int .i64 d.sl) v
  obtain ⟨a, ca, rfl, _, _⟩ := hv
  have HD := hide (show furtherD d b t = if b = d.nx - 1 then turnD d 1 else if ¬ b = d.nx then failedD 4 else if t.size = 0 then turnD d 4 else if roomB d t.size then moreD d t else failedD 4 from rfl)
  unfold turnD moreD at HD
  generalize furtherD d b t = D at *
  generalize roomB d (t.size : Int) = R at *
  obtain ⟨sa, su, nx, gt, sl, l⟩ := d
  dsimp only at *
  clear hd hm
  by_cases h1 : b = nx - 1
  · have hD2 := HD.out
    rw [if_pos h1] at hD2
    subst hD2
    clear HD HF HM HR
    have hb1 : (b == nx - 1) = true := by rw [h1]; exact beq_self_eq_true _
    go_enter Tryz.func100, Tryz.ntmps100
    go_wp2_with fail
    refine (HT.out _ _ hB).mono ?_
    generalize (w.alloc _).alloc _ = W at *
    rintro e w2 ⟨u, rfl, hown, hb⟩
    replace hB := thenB hB hb
    replace hR := resB hR hb
    rw [← hs] at hown
    clear hb hD HT
    obtain ⟨a', c', rfl⟩ := owns_form hown
    go_wp2_with fail
    exact bodyPost_ret (v := .tuple #[.agg #[.int .i64 1, .int .i64 su, .int .i64 nx, .int .i64 gt, .int .i64 sl, .slice a' l.length c'], .int .i64 0]) (by simp [results, Tryz.results100, go_sem, hR]) rfl ⟨_, rfl, owns_mono (base := w.heap.size + 1 + 1) (own6 hown (Nat.lt_succ_self _) _ _ _ _ _ _) (by omega), set6 hB (Nat.le_succ _)⟩
  have hb1 := eq_f h1
  by_cases h2 : b = nx
  · subst h2
    have hb2 : (b != b) = false := bne_self_eq_false b
    by_cases h3 : t.size = 0
    · have hD2 := HD.out
      rw [if_neg h1, if_neg (by simp), if_pos h3] at hD2
      subst hD2
      obtain rfl := text_none h3
      clear HD HF HM HR
      go_enter Tryz.func100, Tryz.ntmps100
      go_wp2_with fail
      refine (HT.out _ _ hB).mono ?_
      generalize (w.alloc _).alloc _ = W at *
      rintro e w2 ⟨u, rfl, hown, hb⟩
      replace hB := thenB hB hb
      replace hR := resB hR hb
      rw [← hs] at hown
      clear hb hD HT
      obtain ⟨a', c', rfl⟩ := owns_form hown
      go_wp2_with fail
      exact bodyPost_ret (v := .tuple #[.agg #[.int .i64 4, .int .i64 su, .int .i64 b, .int .i64 gt, .int .i64 sl, .slice a' l.length c'], .int .i64 0]) (by simp [results, Tryz.results100, go_sem, hR]) rfl ⟨_, rfl, owns_mono (base := w.heap.size + 1 + 1) (own6 hown (Nat.lt_succ_self _) _ _ _ _ _ _) (by omega), set6 hB (Nat.le_succ _)⟩
    have ht0 := text_some h3
    cases R with
    | false =>
      have hD2 := HD.out
      rw [if_neg h1, if_neg (by simp), if_neg h3, if_neg (by simp)] at hD2
      subst hD2
      clear HD HR HT
      go_enter Tryz.func100, Tryz.ntmps100
      go_wp2_with fail
      refine (HM.out _ hB).mono ?_
      generalize (w.alloc _).alloc _ = W at *
      rintro e w2 ⟨rfl, hb⟩
      replace hB := thenB hB hb
      replace hR := resB hR hb
      replace hD := resB hD hb
      clear hb HM
      go_wp2_with fail
      refine (HF.out _ _ rfl hB).mono ?_
      rintro e w3 ⟨rfl, hb⟩
      replace hB := thenB hB hb
      replace hR := resB hR hb
      clear hb HF hD
      go_wp2_with fail
      exact bodyPost_ret (v := .tuple #[.agg #[.int .i64 7, .int .i64 4, .int .i64 0, .int .i64 0, .int .i64 0, .slice none 0 0], .int .i64 0]) (by simp [results, Tryz.results100, go_sem, hR]) rfl ⟨_, rfl, owns_nil _ _ _, set6 hB (Nat.le_succ _)⟩
    | true =>
      have hD2 := HD.out
      rw [if_neg h1, if_neg (by simp), if_neg h3, if_pos rfl] at hD2
      subst hD2
      obtain ⟨r1, r2, r3⟩ := HR.out.1 rfl
      have C3 := hide (fun w => words_at sl gt t w g0 g1)
      clear HD HR HT HF r1
      generalize wordsL (baseI sl + gt) t = LW at *
      go_enter Tryz.func100, Tryz.ntmps100
      go_wp2_with fail
      refine (HM.out _ hB).mono ?_
      generalize (w.alloc _).alloc _ = W at *
      rintro e w2 ⟨rfl, hb⟩
      replace hB := thenB hB hb
      replace hR := resB hR hb
      replace hD := resB hD hb
      replace hs := Nat.le_trans (Nat.le_of_eq hs) hb.size
      clear hb HM
      go_wp2_with fail
      refine (C3.out _).mono ?_
      rintro e w3 ⟨vw, rfl, hown, hb⟩
      replace hB := thenB hB hb
      replace hR := resB hR hb
      replace hD := resB hD hb
      replace hown := owns_mono hown hs
      clear hb C3
      obtain ⟨a', c', rfl⟩ := owns_form hown
      have HB := hide hB
      have HO := hide hown
      have HRR := hide hR
      clear hB hown hR
      go_upto_region 11 with fail
      replace hD := res5 (res3 (res2 (res0 hD (.int .i64 1)) (.int .i64 (b + 1))) (.int .i64 (gt + (t.size : Int)))) (.slice a' LW.length c')
      have hne : w.heap.size ≠ w.heap.size + 1 := Nat.ne_of_lt (Nat.lt_succ_self _)
      have hR := resO (resO (resO (resO HRR.out hne 0 (.int .i64 1)) hne 2 (.int .i64 (b + 1))) hne 3 (.int .i64 (gt + (t.size : Int)))) hne 5 (.slice a' LW.length c')
      have hB := (((HB.out.setCell (p := ⟨w.heap.size, 0, none⟩) (Nat.le_refl _) (.int .i64 1)).setCell (p := ⟨w.heap.size, 2, none⟩) (Nat.le_refl _) (.int .i64 (b + 1))).setCell (p := ⟨w.heap.size, 3, none⟩) (Nat.le_refl _) (.int .i64 (gt + (t.size : Int)))).setCell (p := ⟨w.heap.size, 5, none⟩) (Nat.le_refl _) (.slice a' LW.length c')
      have hlw : w.heap.size < w.heap.size + 1 + 1 := by omega
      have hO := own1 (own1 (own1 (own1 HO.out hlw 0 (.int .i64 1)) hlw 2 (.int .i64 (b + 1))) hlw 3 (.int .i64 (gt + (t.size : Int)))) hlw 5 (.slice a' LW.length c')
      clear HB HO HRR
      generalize (((w3.setCell _ _).setCell _ _).setCell _ _).setCell _ _ = W3 at *
      go_wp2_with fail
      exact bodyPost_ret (v := .tuple #[.agg #[.int .i64 1, .int .i64 su, .int .i64 (b + 1), .int .i64 (gt + (t.size : Int)), .int .i64 sl, .slice a' LW.length c'], .int .i64 0]) (by simp [results, Tryz.results100, go_sem, hR]) rfl ⟨_, rfl, owns_mono (base := w.heap.size + 1 + 1) (own6 hO (Nat.lt_succ_self _) _ _ _ _ _ _) (by omega), set6 hB (Nat.le_succ _)⟩
  · have hb2 := ne_t h2
    have hD2 := HD.out
    rw [if_neg h1, if_pos h2] at hD2
    subst hD2
    clear HD HM HR HT
    go_enter Tryz.func100, Tryz.ntmps100
    go_wp2_with fail
    refine (HF.out _ _ rfl hB).mono ?_
    generalize (w.alloc _).alloc _ = W at *
    rintro e w2 ⟨rfl, hb⟩
    replace hB := thenB hB hb
    replace hR := resB hR hb
    clear hb HF hD
    go_wp2_with fail
    exact bodyPost_ret (v := .tuple #[.agg #[.int .i64 7, .int .i64 4, .int .i64 0, .int .i64 0, .int .i64 0, .slice none 0 0], .int .i64 0]) (by simp [results, Tryz.results100, go_sem, hR]) rfl ⟨_, rfl, owns_nil _ _ _, set6 hB (Nat.le_succ _)⟩
end Go.Proofs.YtmlfkbkpkgaefaaGreatDoor.DnlWalk

/- The contract of download.Take: whatever it is asked, the device and the error that the plain functions give. -/
namespace Go.Proofs.YtmlfkbkpkgaefaaGreatDoor.DnlTake
open Go.Proofs.YtmlfkbkpkgaefaaGreatDoor Go.RowKit Go.Proofs.YtmlfkbkpkgaefaaGreatDoor.Bytes Go.Proofs.YtmlfkbkpkgaefaaGreatDoor.Ops Go.Proofs.YtmlfkbkpkgaefaaGreatDoor.OpsRow Go.Proofs.YtmlfkbkpkgaefaaGreatDoor.Jou Go.Proofs.YtmlfkbkpkgaefaaGreatDoor.Dev Go.Proofs.YtmlfkbkpkgaefaaGreatDoor.DevRow Go.Proofs.YtmlfkbkpkgaefaaGreatDoor.DevSet Go.Proofs.YtmlfkbkpkgaefaaGreatDoor.Dnl Go.Proofs.YtmlfkbkpkgaefaaGreatDoor.DnlCopy Go.Proofs.YtmlfkbkpkgaefaaGreatDoor.DnlWalk
open Go.Proofs.YtmlfkbkpkgaefaaGreatDoor.DevWalk (build_d0)
attribute [local go_sem ↓] Go.wp_at_zero Go.wp_at_succ
theorem ok_no {f : ByteArray} {d : FDev} {b : Int} {t : ByteArray} (h : okB f d b t = false) : mayF f = false ∨ (mayF f = true ∧ devB d = false) ∨ (mayF f = true ∧ devB d = true ∧ b < 0) ∨ (mayF f = true ∧ devB d = true ∧ ¬ b < 0 ∧ 65535 < b) ∨ (mayF f = true ∧ devB d = true ∧ ¬ b < 0 ∧ ¬ 65535 < b ∧ 32 < (t.size : Int)) ∨ (mayF f = true ∧ devB d = true ∧ ¬ b < 0 ∧ ¬ 65535 < b ∧ ¬ 32 < (t.size : Int) ∧ ¬ d.sa = 0 ∧ ¬ d.sa = 3) := by
  have hn : ¬ okB f d b t = true := by rw [h]; simp
  rw [okB_parts] at hn
  cases h1 : mayF f with
  | false => exact .inl rfl
  | true =>
    cases h2 : devB d with
    | false => exact .inr (.inl ⟨rfl, rfl⟩)
    | true =>
      right; right
      by_cases h3 : b < 0
      · exact .inl ⟨rfl, rfl, h3⟩
      by_cases h4 : 65535 < b
      · exact .inr (.inl ⟨rfl, rfl, h3, h4⟩)
      by_cases h5 : 32 < (t.size : Int)
      · exact .inr (.inr (.inl ⟨rfl, rfl, h3, h4, h5⟩))
      refine .inr (.inr (.inr ⟨rfl, rfl, h3, h4, h5, ?_, ?_⟩))
      · exact fun e => hn ⟨h1, h2, .inl e, ⟨by omega, by omega⟩, by omega⟩
      · exact fun e => hn ⟨h1, h2, .inr e, ⟨by omega, by omega⟩, by omega⟩
set_option maxRecDepth 100000 in
set_option maxHeartbeats 4000000 in
theorem take_any (f : ByteArray) (d : FDev) (v : Value) (b : Int) (t : ByteArray) (w : World) (hv : IsSt w v d.ops) : Calls Tryz.prog 88 #[.string f, .agg #[.int .i64 d.sa, .int .i64 d.su, .int .i64 d.nx, .int .i64 d.gt, .int .i64 d.sl, v], .int .i64 b, .string t] w (Gave w (takeD f d b t) (errL (okB f d b t))) := by
  have HM := hide (fun w => NorWalk.may_any f w)
  have HD : Hid (∀ (w' : World), Below w.heap.size w w' → _) := fun w' hb => DevWalk.dmay_any d v w' (hv.below hb)
  obtain ⟨hX, hR, hB, hs⟩ := two_boxes w (.int .i64 d.sa) (.int .i64 d.su) (.int .i64 d.nx) (.int .i64 d.gt) (.int .i64 d.sl) v
  have b1 := build_d0
  have hmm : NorWalk.mayB f = mayF f := rfl
  rw [hmm] at HM
  clear hmm
  cases hok : okB f d b t with
  | false =>
    rw [take_no hok, show errL false = 1700 from rfl]
    unfold newD
    obtain ⟨a, ca, rfl, _, _⟩ := hv
    rcases ok_no hok with h1 | ⟨h1, h2⟩ | ⟨h1, h2, h3⟩ | ⟨h1, h2, h3, h4⟩ | ⟨h1, h2, h3, h4, h5⟩ | ⟨h1, h2, h3, h4, h5, h6, h7⟩
    · rw [h1] at HM
      clear h1 hok
      go_enter Tryz.func88, Tryz.ntmps88
      go_wp2_with (go_at_call 21; refine (HM.out _).mono ?_; rintro e w' ⟨rfl, rfl⟩)
      exact bodyPost_ret (v := .tuple #[.agg #[.int .i64 0, .int .i64 0, .int .i64 0, .int .i64 0, .int .i64 0, .slice none 0 0], .int .i64 1700]) (by simp [results, Tryz.results88, go_sem, hR]) rfl ⟨_, rfl, owns_nil _ _ _, hB⟩
    all_goals
      rw [h1] at HM
      rw [h2] at HD
      clear h1 h2 hok
      obtain ⟨sa, su, nx, gt, sl, l⟩ := d
      dsimp only at *
      try have h6 := eq_f h6
      try have h7 := eq_f h7
      go_enter Tryz.func88, Tryz.ntmps88
      go_wp2_with (first | (go_at_call 21; refine (HM.out _).mono ?_; rintro e w' ⟨rfl, rfl⟩) | (go_at_call 22; refine (HD.out _ hB).mono ?_; rintro e w' ⟨rfl, hb⟩; replace hB := thenB hB hb; replace hX := resB hX hb; replace hR := resB hR hb; clear hb))
      exact bodyPost_ret (v := .tuple #[.agg #[.int .i64 0, .int .i64 0, .int .i64 0, .int .i64 0, .int .i64 0, .slice none 0 0], .int .i64 1700]) (by simp [results, Tryz.results88, go_sem, hR]) rfl ⟨_, rfl, owns_nil _ _ _, set6 hB (Nat.le_succ _)⟩
  | true =>
    obtain ⟨h1, h2, h3, ⟨h4, h5⟩, h6⟩ := okB_parts.1 hok
    have h7 : ¬ b < 0 := by omega
    have h8 : ¬ 65535 < b := by omega
    have h9 : ¬ 32 < (t.size : Int) := by omega
    rw [show errL true = 0 from rfl]
    rw [h1] at HM
    rw [h2] at HD
    rcases h3 with h3 | h3
    · rw [take_first hok h3]
      have HF : Hid (∀ (w' : World), Below w.heap.size w w' → _) := fun w' hb => first_any f d v b t w' (hv.below hb) h2 h6
      clear h1 h2 hok h4 h5 h6
      obtain ⟨a, ca, rfl, _, _⟩ := hv
      generalize firstD f d b t = D at *
      obtain ⟨sa, su, nx, gt, sl, l⟩ := d
      obtain ⟨xa, xu, xn, xg, xl, xo⟩ := D
      dsimp only at *
      subst h3
      go_enter Tryz.func88, Tryz.ntmps88
      go_wp2_with (first | (go_at_call 21; refine (HM.out _).mono ?_; rintro e w' ⟨rfl, rfl⟩) | (go_at_call 22; refine (HD.out _ hB).mono ?_; rintro e w' ⟨rfl, hb⟩; replace hB := thenB hB hb; replace hX := resB hX hb; replace hR := resB hR hb; replace hs := Nat.le_trans (Nat.le_of_eq hs) hb.size; clear hb))
      refine (HF.out _ hB).mono ?_
      rintro e w2 ⟨u, rfl, hown, hb⟩
      replace hB := thenB hB hb
      replace hR := resB hR hb
      replace hown := owns_mono hown hs
      clear hb hX HF HD
      obtain ⟨a', c', rfl⟩ := owns_form hown
      go_wp2_with fail
      exact bodyPost_ret (v := .tuple #[.agg #[.int .i64 xa, .int .i64 xu, .int .i64 xn, .int .i64 xg, .int .i64 xl, .slice a' xo.length c'], .int .i64 0]) (by simp [results, Tryz.results88, go_sem, hR]) rfl ⟨_, rfl, owns_mono (base := w.heap.size + 1 + 1) (own6 hown (Nat.lt_succ_self _) _ _ _ _ _ _) (by omega), set6 hB (Nat.le_succ _)⟩
    · rw [take_further hok h3]
      have HF : Hid (∀ (w' : World), Below w.heap.size w w' → _) := fun w' hb => further_any d v b t w' (hv.below hb) h2 h6
      clear h1 h2 hok h4 h5 h6
      obtain ⟨a, ca, rfl, _, _⟩ := hv
      generalize furtherD d b t = D at *
      obtain ⟨sa, su, nx, gt, sl, l⟩ := d
      obtain ⟨xa, xu, xn, xg, xl, xo⟩ := D
      dsimp only at *
      subst h3
      go_enter Tryz.func88, Tryz.ntmps88
      go_wp2_with (first | (go_at_call 21; refine (HM.out _).mono ?_; rintro e w' ⟨rfl, rfl⟩) | (go_at_call 22; refine (HD.out _ hB).mono ?_; rintro e w' ⟨rfl, hb⟩; replace hB := thenB hB hb; replace hX := resB hX hb; replace hR := resB hR hb; replace hs := Nat.le_trans (Nat.le_of_eq hs) hb.size; clear hb))
      refine (HF.out _ hB).mono ?_
      rintro e w2 ⟨u, rfl, hown, hb⟩
      replace hB := thenB hB hb
      replace hR := resB hR hb
      replace hown := owns_mono hown hs
      clear hb hX HF HD
      obtain ⟨a', c', rfl⟩ := owns_form hown
      go_wp2_with fail
      exact bodyPost_ret (v := .tuple #[.agg #[.int .i64 xa, .int .i64 xu, .int .i64 xn, .int .i64 xg, .int .i64 xl, .slice a' xo.length c'], .int .i64 0]) (by simp [results, Tryz.results88, go_sem, hR]) rfl ⟨_, rfl, owns_mono (base := w.heap.size + 1 + 1) (own6 hown (Nat.lt_succ_self _) _ _ _ _ _ _) (by omega), set6 hB (Nat.le_succ _)⟩
end Go.Proofs.YtmlfkbkpkgaefaaGreatDoor.DnlTake

/- A block taken by a device without steps, of a flash that may be: what it answers, way by way; texts as their first pieces. No program is named here. -/
namespace Go.Proofs.YtmlfkbkpkgaefaaGreatDoor.DnlMore
open Go.Proofs.YtmlfkbkpkgaefaaGreatDoor Go.Proofs.YtmlfkbkpkgaefaaGreatDoor.Bytes Go.Proofs.YtmlfkbkpkgaefaaGreatDoor.Nor Go.Proofs.YtmlfkbkpkgaefaaGreatDoor.Ops Go.Proofs.YtmlfkbkpkgaefaaGreatDoor.Jou Go.Proofs.YtmlfkbkpkgaefaaGreatDoor.Act Go.Proofs.YtmlfkbkpkgaefaaGreatDoor.Held Go.Proofs.YtmlfkbkpkgaefaaGreatDoor.Cho Go.Proofs.YtmlfkbkpkgaefaaGreatDoor.Sta Go.Proofs.YtmlfkbkpkgaefaaGreatDoor.Ans Go.Proofs.YtmlfkbkpkgaefaaGreatDoor.Dev Go.Proofs.YtmlfkbkpkgaefaaGreatDoor.Dnl

theorem oth_blank : othI blankS = 0 := by unfold othI; rw [blank_act.1]
theorem may_blank : mayF blankS = true := mayF_t size_blankS
theorem dev_new : devB newD = true := rfl
/-- A flash of whose journal every byte is blank has no active image. -/
theorem oth_bare {f : ByteArray} (hf : f.size = 768) (h : ∀ i, i < 192 → f.data.toList[i]? = some 255) : othI f = 0 := by
  have hs : scanL f = [] := by rw [scan_ok hf]; exact found_none f 8 (fun j hj => slot_full fun i hi => h _ (by omega))
  unfold othI
  rw [(act_none (mayF_t hf) (by unfold bestO; rw [hs]; rfl)).1]
theorem start_is {f t : ByteArray} (hf : mayF f = true) (h0 : ¬ t.size = 0) (h1 : t.size ≤ 32) : okB f newD 0 t = true ∧ takeD f newD 0 t = ⟨1, 0, 1, t.size, othI f, erL (othI f) ++ wordsL (baseI (othI f)) t⟩ := by
  have hok : okB f newD 0 t = true := okB_parts.2 ⟨hf, dev_new, .inl rfl, ⟨by omega, by omega⟩, h1⟩
  refine ⟨hok, ?_⟩
  rw [take_first hok rfl]
  unfold firstD
  rw [if_neg h0, if_pos rfl]
  rfl
theorem start_none {f t : ByteArray} (hf : mayF f = true) (h0 : t.size = 0) : okB f newD 0 t = true ∧ takeD f newD 0 t = failedD 5 := by
  have hok : okB f newD 0 t = true := okB_parts.2 ⟨hf, dev_new, .inl rfl, ⟨by omega, by omega⟩, by omega⟩
  refine ⟨hok, ?_⟩
  rw [take_first hok rfl]
  unfold firstD
  rw [if_pos h0]
/-- A device that has taken k blocks, g bytes, into the first slot. -/
abbrev downD (k g : Int) : FDev := ⟨3, 0, k, g, 0, []⟩
theorem dev_down {k g : Int} (h0 : 0 ≤ k) (h1 : k ≤ 16) (h2 : 0 ≤ g) (h3 : g ≤ 288) : devB (downD k g) = true := by
  unfold devB
  have a1 : upB k 16 = true := upB_iff.2 ⟨h0, h1⟩
  have a2 : upB g 288 = true := upB_iff.2 ⟨h2, h3⟩
  simp only [a1, a2]
  rfl
theorem ok_down {f t : ByteArray} {k g b : Int} (hf : mayF f = true) (h0 : 0 ≤ k) (h1 : k ≤ 16) (h2 : 0 ≤ g) (h3 : g ≤ 288) (hb : 0 ≤ b) (hb' : b ≤ 65535) (ht : t.size ≤ 32) : okB f (downD k g) b t = true := okB_parts.2 ⟨hf, dev_down h0 h1 h2 h3, .inr rfl, ⟨hb, hb'⟩, ht⟩
theorem more_is {f t : ByteArray} {k g : Int} (hok : okB f (downD k g) k t = true) (h0 : ¬ t.size = 0) (hg : g % 32 = 0) (hs : g + t.size ≤ 288) (hk : k < 16) : takeD f (downD k g) k t = ⟨1, 0, k + 1, g + t.size, 0, wordsL (192 + g) t⟩ := by
  rw [take_further hok rfl]
  unfold furtherD
  rw [if_neg (by show ¬ k = k - 1; omega), if_neg (by simp), if_neg h0, if_pos (room_iff.2 ⟨hg, hs, hk⟩)]
  rfl
theorem again_is {f t : ByteArray} {k g b : Int} (hok : okB f (downD k g) b t = true) (hb : b = k - 1) : takeD f (downD k g) b t = ⟨1, 0, k, g, 0, []⟩ := by
  rw [take_further hok rfl]
  unfold furtherD
  rw [if_pos hb]
  rfl
theorem none_is {f t : ByteArray} {k g : Int} (hok : okB f (downD k g) k t = true) (h0 : t.size = 0) : takeD f (downD k g) k t = ⟨4, 0, k, g, 0, []⟩ := by
  rw [take_further hok rfl]
  unfold furtherD
  rw [if_neg (by show ¬ k = k - 1; omega), if_neg (by simp), if_pos h0]
  rfl
theorem other_is {f t : ByteArray} {k g b : Int} (hok : okB f (downD k g) b t = true) (h1 : ¬ b = k - 1) (h2 : ¬ b = k) : takeD f (downD k g) b t = failedD 4 := by
  rw [take_further hok rfl]
  unfold furtherD
  rw [if_neg h1, if_pos h2]
theorem full_is {f t : ByteArray} {k g : Int} (hok : okB f (downD k g) k t = true) (h0 : ¬ t.size = 0) (hr : ¬ (g % 32 = 0 ∧ g + t.size ≤ 288 ∧ k < 16)) : takeD f (downD k g) k t = failedD 4 := by
  rw [take_further hok rfl]
  unfold furtherD
  rw [if_neg (by show ¬ k = k - 1; omega), if_neg (by simp), if_neg h0, if_neg (fun h => hr (room_iff.1 h))]
theorem length_start (s : Int) (t : ByteArray) (h0 : 0 ≤ s) (h1 : s ≤ 1) (ht : t.size ≤ 32) : (erL s ++ wordsL (baseI s) t).length = 3 + (t.size + 3) / 4 := by
  rw [List.length_append, erL_ok (base_of h0 h1).1, length_erTo, wordsL_ok (start_ok h0 h1 ht), length_wordsTo]
  rfl
end Go.Proofs.YtmlfkbkpkgaefaaGreatDoor.DnlMore

/- A device's steps spoilt by whoever holds it: only memory of their own turns. How many steps a taken block leaves. -/
namespace Go.Proofs.YtmlfkbkpkgaefaaGreatDoor.DnlHelp
open Go.Proofs.YtmlfkbkpkgaefaaGreatDoor Go.RowKit Go.Proofs.YtmlfkbkpkgaefaaGreatDoor.Bytes Go.Proofs.YtmlfkbkpkgaefaaGreatDoor.Ops Go.Proofs.YtmlfkbkpkgaefaaGreatDoor.OpsRow Go.Proofs.YtmlfkbkpkgaefaaGreatDoor.Act Go.Proofs.YtmlfkbkpkgaefaaGreatDoor.Cho Go.Proofs.YtmlfkbkpkgaefaaGreatDoor.Sta Go.Proofs.YtmlfkbkpkgaefaaGreatDoor.Dev Go.Proofs.YtmlfkbkpkgaefaaGreatDoor.DevRow Go.Proofs.YtmlfkbkpkgaefaaGreatDoor.Dnl Go.Proofs.YtmlfkbkpkgaefaaGreatDoor.DnlCopy
/-- What Take gives, with its steps' number told, in memory of their own: it is taken. -/
theorem tookO {f : ByteArray} {d : FDev} {b : Int} {t : ByteArray} {D : FDev} {n : Nat} (ho : okB f d b t = true) (h : takeD f d b t = D) (hn : D.ops.length = n) (v : Value) (w : World) (hv : IsSt w v d.ops) : Calls Tryz.prog 88 #[.string f, .agg #[.int .i64 d.sa, .int .i64 d.su, .int .i64 d.nx, .int .i64 d.gt, .int .i64 d.sl, v], .int .i64 b, .string t] w fun r w' => ∃ a c, r = .returned (.tuple #[.agg #[.int .i64 D.sa, .int .i64 D.su, .int .i64 D.nx, .int .i64 D.gt, .int .i64 D.sl, .slice a n c], .int .i64 0]) ∧ w'.ownsRow w.heap.size 86 3 (.slice a n c) n (flat D.ops) ∧ Below w.heap.size w w' := by
  have g := DnlTake.take_any f d v b t w hv
  rw [ho, h, show errL true = 0 from rfl] at g
  refine g.mono ?_
  rintro e w' ⟨u, rfl, hown, hb⟩
  rw [hn] at hown
  obtain ⟨a, c, rfl⟩ := owns_form hown
  exact ⟨a, c, rfl, hown, hb⟩
/-- The steps of a device that a call gave. -/
theorem field_sent (a : Option Addr) (c : Nat) (w : World) : (Instr.field 24 (.agg #[.int .i64 1, .int .i64 0, .int .i64 1, .int .i64 32, .int .i64 0, .slice a 11 c]) 5).run Tryz.prog w = .ok (.slice a 11 c) w := by kernel_rfl
/-- A slice of some steps: where they lie. -/
theorem st_open {w : World} {a : Option Addr} {n c : Nat} {l : List FOp} (h : IsSt w (.slice a n c) l) (hn : 0 < n) : l.length = n ∧ ∃ b o, a = some ⟨b, o, none⟩ ∧ n ≤ c ∧ c ≤ maxLen ∧ b < w.heap.size ∧ StIn w b o l := by
  obtain ⟨a', c', he, _, hr⟩ := h
  injection he with e1 e2 e3
  subst e1 e3
  refine ⟨e2.symm, ?_⟩
  rcases hr with hr | ⟨b, o, h1, h2, h3, h4, h5⟩
  · rw [hr] at e2; simp at e2; omega
  · exact ⟨b, o, h1, by omega, h3, h4, h5⟩
theorem take_few (f : ByteArray) (d : FDev) (b : Int) (t : ByteArray) : (takeD f d b t).ops.length ≤ 65536 := by
  unfold takeD
  split
  · rename_i h
    obtain ⟨_, h2, _, _, h5⟩ := okB_parts.1 h
    have hd := (dev_parts h2).2.2.2
    split
    · unfold firstD
      split
      · exact Nat.zero_le _
      split
      · show (erL (othI f) ++ wordsL (baseI (othI f)) t).length ≤ 65536
        have := words_few (baseI (othI f)) t h5
        have := er_three f
        rw [List.length_append]
        omega
      · exact Nat.zero_le _
    · unfold furtherD
      split
      · show d.ops.length ≤ 65536; omega
      split
      · exact Nat.zero_le _
      split
      · show d.ops.length ≤ 65536; omega
      split
      · show (wordsL (baseI d.sl + d.gt) t).length ≤ 65536
        have := words_few (baseI d.sl + d.gt) t h5
        omega
      · exact Nat.zero_le _
  · exact Nat.zero_le _
set_option maxRecDepth 100000 in
set_option maxHeartbeats 1000000 in
theorem spoilDev_any (d : FDev) (v : Value) (w : World) (base : Nat) (hl : d.ops.length ≤ 65536) (hbase : base ≤ w.heap.size) (hv : w.ownsRow base 86 3 v d.ops.length (flat d.ops)) : Calls Tryz.prog 12 #[.agg #[.int .i64 d.sa, .int .i64 d.su, .int .i64 d.nx, .int .i64 d.gt, .int .i64 d.sl, v]] w fun e w' => e = .returned (.tuple #[]) ∧ Below base w w' := by
  have hB := (Below.refl base w).alloc hbase (.cells #[.int .i64 d.sa, .int .i64 d.su, .int .i64 d.nx, .int .i64 d.gt, .int .i64 d.sl, v] 24)
  have hv2 := hv.alloc (.cells #[.int .i64 d.sa, .int .i64 d.su, .int .i64 d.nx, .int .i64 d.gt, .int .i64 d.sl, v] 24)
  have HS := hide (OpsHelp.spoil_any v d.ops _ base hl hv2)
  obtain ⟨a, c, rfl⟩ := owns_form hv
  obtain ⟨sa, su, nx, gt, sl, l⟩ := d
  dsimp only at *
  go_enter Tryz.func12, Tryz.ntmps12
  go_wp2_with fail
  refine HS.out.mono ?_
  rintro e w2 ⟨rfl, hb⟩
  go_wp2_with fail
  go_end0
  exact ⟨rfl, hB.trans hb⟩
end Go.Proofs.YtmlfkbkpkgaefaaGreatDoor.DnlHelp
