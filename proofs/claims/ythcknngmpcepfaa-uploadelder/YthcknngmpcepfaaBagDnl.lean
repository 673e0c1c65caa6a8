/- A block taken: which may be asked, what becomes of the device. No program is named here. -/
import Derived.Test.YthcknngmpcepfaaBagCho
import Derived.Test.YthcknngmpcepfaaBagDev
import Derived.Test.YthcknngmpcepfaaBagImg
import Derived.Test.YthcknngmpcepfaaBagOps
import Derived.Laws.OwnMore
import Derived.Deep.Cut
import Derived.Test.YthcknngmpcepfaaBagPla
namespace Go.Proofs.Ythcknngmpcepfaa.Dnl
open Go.Proofs.Ythcknngmpcepfaa Go.Proofs.Ythcknngmpcepfaa.Nor Go.Proofs.Ythcknngmpcepfaa.Ops Go.Proofs.Ythcknngmpcepfaa.Jou Go.Proofs.Ythcknngmpcepfaa.Act Go.Proofs.Ythcknngmpcepfaa.Cho Go.Proofs.Ythcknngmpcepfaa.Sta Go.Proofs.Ythcknngmpcepfaa.Ans Go.Proofs.Ythcknngmpcepfaa.Dev

/-- May this be asked? -/
def okB (f : ByteArray) (d : FDev) (b : Int) (t : ByteArray) : Bool := mayF f && devB d && decide (d.sa = 0 ∨ d.sa = 3) && upB b 65535 && decide (t.size ≤ 32)
def errL (ok : Bool) : Int := if ok then 0 else 1700
def failedD (s : Int) : FDev := ⟨7, s, 0, 0, 0, []⟩
/-- Does the device take so many bytes more? -/
def roomB (d : FDev) (n : Int) : Bool := decide (d.gt % 32 = 0) && decide (d.gt + n ≤ 288) && decide (d.nx < 16)
def startD (f : ByteArray) (d : FDev) (t : ByteArray) : FDev := ⟨1, d.su, 1, t.size, othI f, erL (othI f) ++ wordsL (baseI (othI f)) t⟩
def turnD (d : FDev) (s : Int) : FDev := ⟨s, d.su, d.nx, d.gt, d.sl, d.ops⟩
def moreD (d : FDev) (t : ByteArray) : FDev := ⟨1, d.su, d.nx + 1, d.gt + t.size, d.sl, wordsL (baseI d.sl + d.gt) t⟩
def firstD (f : ByteArray) (d : FDev) (b : Int) (t : ByteArray) : FDev := if t.size = 0 then failedD 5 else if b = 0 then startD f d t else failedD 4
def furtherD (d : FDev) (b : Int) (t : ByteArray) : FDev := if b = d.nx - 1 then turnD d 1 else if ¬ b = d.nx then failedD 4 else if t.size = 0 then turnD d 4 else if roomB d t.size then moreD d t else failedD 4
/-- What Take answers, whatever it is asked. -/
def takeD (f : ByteArray) (d : FDev) (b : Int) (t : ByteArray) : FDev := if okB f d b t then (if d.sa = 0 then firstD f d b t else furtherD d b t) else newD
theorem take_no {f : ByteArray} {d : FDev} {b : Int} {t : ByteArray} (h : okB f d b t = false) : takeD f d b t = newD := by unfold takeD; rw [h]; rfl
theorem take_first {f : ByteArray} {d : FDev} {b : Int} {t : ByteArray} (h : okB f d b t = true) (h0 : d.sa = 0) : takeD f d b t = firstD f d b t := by unfold takeD; rw [if_pos h, if_pos h0]
theorem take_further {f : ByteArray} {d : FDev} {b : Int} {t : ByteArray} (h : okB f d b t = true) (h0 : d.sa = 3) : takeD f d b t = furtherD d b t := by unfold takeD; rw [if_pos h, if_neg (by omega)]
theorem errL_t {ok : Bool} (h : ok = true) : errL ok = 0 := by rw [h]; rfl
theorem errL_f {ok : Bool} (h : ok = false) : errL ok = 1700 := by rw [h]; rfl
theorem upB_iff {x k : Int} : upB x k = true ↔ 0 ≤ x ∧ x ≤ k := by unfold upB; rw [decide_eq_true_iff]
theorem okB_parts {f : ByteArray} {d : FDev} {b : Int} {t : ByteArray} : okB f d b t = true ↔ mayF f = true ∧ devB d = true ∧ (d.sa = 0 ∨ d.sa = 3) ∧ (0 ≤ b ∧ b ≤ 65535) ∧ t.size ≤ 32 := by
  unfold okB
  simp only [Bool.and_eq_true, decide_eq_true_iff, upB_iff]
  constructor
  · rintro ⟨⟨⟨⟨h1, h2⟩, h3⟩, h4⟩, h5⟩; exact ⟨h1, h2, h3, h4, h5⟩
  · rintro ⟨h1, h2, h3, h4, h5⟩; exact ⟨⟨⟨⟨h1, h2⟩, h3⟩, h4⟩, h5⟩
theorem dev_parts {d : FDev} (h : devB d = true) : (0 ≤ d.nx ∧ d.nx ≤ 16) ∧ (0 ≤ d.gt ∧ d.gt ≤ 288) ∧ (0 ≤ d.sl ∧ d.sl ≤ 1) ∧ d.ops.length ≤ 768 := by
  unfold devB stepsB at h
  simp only [Bool.and_eq_true, decide_eq_true_iff, upB_iff] at h
  obtain ⟨⟨⟨⟨_, h1⟩, h2⟩, h3⟩, h4, _⟩ := h
  exact ⟨h1, h2, h3, h4⟩
theorem may_size {f : ByteArray} (h : mayF f = true) : f.size = 768 := by unfold mayF at h; exact of_decide_eq_true h
theorem oth_01 (f : ByteArray) : 0 ≤ othI f ∧ othI f ≤ 1 := by
  unfold othI
  cases h : actO f with
  | none => exact ⟨Int.le_refl _, by decide⟩
  | some p =>
    rcases act_slot h with h1 | h1
    all_goals
      show 0 ≤ 1 - p.pt ∧ 1 - p.pt ≤ 1
      omega
theorem base_of {t : Int} (h0 : 0 ≤ t) (h1 : t ≤ 1) : baseOk t = true ∧ baseI t = 192 + 288 * t := by
  have : baseOk t = true := by unfold baseOk; exact decide_eq_true ⟨h0, h1⟩
  exact ⟨this, by unfold baseI; rw [this]; rfl⟩
theorem base_le (t : Int) : 0 ≤ baseI t ∧ baseI t ≤ 480 := by
  unfold baseI
  split
  · rename_i h; unfold baseOk at h; have := of_decide_eq_true h; omega
  · omega
theorem room_iff {d : FDev} {n : Int} : roomB d n = true ↔ d.gt % 32 = 0 ∧ d.gt + n ≤ 288 ∧ d.nx < 16 := by
  unfold roomB
  simp only [Bool.and_eq_true, decide_eq_true_iff]
  exact ⟨fun ⟨⟨a, b⟩, c⟩ => ⟨a, b, c⟩, fun ⟨a, b, c⟩ => ⟨⟨a, b⟩, c⟩⟩
theorem words_few (a : Int) (t : ByteArray) (h : t.size ≤ 32) : (wordsL a t).length ≤ 8 := by
  unfold wordsL
  split
  · rw [length_wordsTo]; unfold wordsN; omega
  · exact Nat.zero_le _
theorem er_three (f : ByteArray) : (erL (othI f)).length = 3 := by
  obtain ⟨h0, h1⟩ := oth_01 f
  rw [erL_ok (base_of h0 h1).1, length_erTo]
theorem start_ok {s : Int} {t : ByteArray} (h0 : 0 ≤ s) (h1 : s ≤ 1) (ht : t.size ≤ 32) : wordsOk (baseI s) t = true := by
  rw [wordsOk_parts, (base_of h0 h1).2]
  omega
theorem more_ok {s g : Int} {t : ByteArray} (h0 : 0 ≤ s) (h1 : s ≤ 1) (h2 : 0 ≤ g) (h3 : g % 32 = 0) (h4 : g + t.size ≤ 288) : wordsOk (baseI s + g) t = true := by
  rw [wordsOk_parts, (base_of h0 h1).2]
  omega
end Go.Proofs.Ythcknngmpcepfaa.Dnl

/- The contracts of package fresh (a device that shares no memory) and of the smaller parts of package download. -/
namespace Go.Proofs.Ythcknngmpcepfaa.DnlCopy
open Go.Proofs.Ythcknngmpcepfaa Go.RowKit Go.Proofs.Ythcknngmpcepfaa.Bytes Go.Proofs.Ythcknngmpcepfaa.Ops Go.Proofs.Ythcknngmpcepfaa.OpsRow Go.Proofs.Ythcknngmpcepfaa.Act Go.Proofs.Ythcknngmpcepfaa.Dev Go.Proofs.Ythcknngmpcepfaa.DevRow Go.Proofs.Ythcknngmpcepfaa.DevSet Go.Proofs.Ythcknngmpcepfaa.Dnl
open Go.Proofs.Ythcknngmpcepfaa.OpsWalk (size_alloc1 info_op)
open Go.Proofs.Ythcknngmpcepfaa.NorWalk (ret_bool)
open Go.Proofs.Ythcknngmpcepfaa.ImgClone (clone_any)
attribute [local go_sem ↓] Go.wp_at_zero Go.wp_at_succ
theorem text_small {l : List FOp} (h : mayAll l = true) {j : Nat} (hj : j < l.length) : l[j].tx.size ≤ 4 := by
  have := mayAll_get h hj
  cases e : l[j].er with
  | true => rw [e] at this; have := (may_er.1 this).2.2.2; omega
  | false => rw [e] at this; have := (may_pr.1 this).2.2.2; omega
theorem take_flat {l : List FOp} {j : Nat} (h : j < l.length) : flat (l.take (j + 1)) = flat (l.take j) ++ [.bool l[j].er, .int .i64 l[j].pl, .string l[j].tx] := by
  rw [List.take_succ_eq_append_getElem h, flat_append]; rfl
set_option maxRecDepth 100000 in
set_option maxHeartbeats 2000000 in
theorem steps_any (v : Value) (l : List FOp) (w : World) (hv : IsSt w v l) (hm : mayAll l = true) (hl : l.length ≤ 768) : Calls Try.prog 75 #[v] w fun e w' => ∃ u, e = .returned u ∧ w'.ownsRow w.heap.size 69 3 u l.length (flat l) ∧ Below w.heap.size w w' := by
  obtain ⟨i, hi, hz0, hz1, hz2⟩ := info_parts info_op
  obtain ⟨a, ca, rfl, _, ha⟩ := hv
  have HT : Hid (∀ j (hj : j < l.length), l[j].tx.size ≤ 4) := fun j hj => text_small hm hj
  have HF : Hid (∀ j (hj : j < l.length), flat (l.take (j + 1)) = flat (l.take j) ++ [.bool l[j].er, .int .i64 l[j].pl, .string l[j].tx]) := fun j hj => take_flat hj
  clear hm
  go_enter Try.func75, Try.ntmps75
  go_wp2
  go_loopw [3, 8] (fun s x wr => ∃ j : Nat, j ≤ l.length ∧ x = .int .i64 j ∧ wr.ownsRow w.heap.size 69 3 s j (flat (l.take j)) ∧ Below w.heap.size w wr) (fun _ x _ => l.length - (intOf x).toNat)
  case atStart => exact ⟨0, Nat.zero_le _, rfl, owns_nil _ _ _, Below.refl _ _⟩
  case round =>
    obtain ⟨j, hj, rfl, hown, hbel⟩ := hrel
    by_cases hlt : j < l.length
    · rcases ha with ha | ⟨g, o, rfl, _, _, hg, ha⟩
      · rw [ha] at hlt; simp at hlt
      have ha' := ha.below hbel hg
      have a1 := ha'.er j hlt
      have a2 := ha'.pl j hlt
      have a3 := ha'.tx j hlt
      have h4 := HT.out j hlt
      have HN := hide (HF.out j hlt)
      generalize l[j].er = E at *
      generalize l[j].pl = A at *
      generalize l[j].tx = T at *
      clear ha ha' HF HT
      have s1 := hbel.size
      have b1 : j + 1 ≤ maxLen := by unfold maxLen; omega
      have b2 : (j + 1) * 32 ≤ 140737488355328 := by omega
      go_wp2_with fail
      have hX := AnsWalk.resM wr (.bool E) (.int .i64 A) (.string T) 69
      have hal : Below wr.heap.size wr (wr.alloc (.cells #[.bool E, .int .i64 A, .string T] 69)) := (Below.refl _ _).alloc (Nat.le_refl _) _
      replace hbel := thenB hbel hal
      have hlt' : ∀ k, u3.ownBlock = some k → k ≠ wr.heap.size := fun k hk => Nat.ne_of_lt (hown.lt k hk).2
      replace hown := owns_below hown hal
      clear hal
      generalize wr.alloc (.cells #[.bool E, .int .i64 A, .string T] 69) = W at *
      generalize wr.heap.size = G at *
      refine (clone_any _ _ (by omega)).mono ?_
      rintro e w2 ⟨rfl, hb⟩
      replace hX := AnsWalk.resB hX hb
      replace hown := owns_below hown hb
      replace hbel := thenB hbel hb
      clear hb
      have s2 := hbel.size
      replace hown := ownsRow_setCell_other hown (a := ⟨G, 2, none⟩) (fun h => hlt' G h rfl) (.string T)
      have hbs := hbel.setCell (p := ⟨G, 2, none⟩) s1 (.string T)
      have s3 := hbs.size
      go_wp2_with (at_builtin; refine wpList_append_lies _ rfl _ _ _ rfl w.heap.size 69 i _ 3 32 Try.underlying22 hi hz0 hz1 hz2 rfl (by omega) _ j _ rfl (hown.alloc _) ⟨w2.heap.size, 0, none⟩ 1 1 _ rfl rfl (World.news_of_block (by rw [← size_set w2 ⟨G, 2, none⟩ (.string T)]; exact heap_alloc_new _ _)) (flat_oneCell [⟨E, _, _⟩]) (by omega) b1 b2 (by simp; omega) _ rfl ?_; intro g2 cap w1 hown1 hgrow hat hlt1)
      refine ⟨⟨j + 1, by omega, by go_num, ?_, ?_⟩, by simp [intOf]; omega⟩
      · rw [HN.out]; exact hown1
      · exact (hbs.alloc s3 _).grown hgrow (by simp; omega) (fun k hk => (hown.lt k hk).1)
    · obtain rfl : j = l.length := by omega
      go_wp2
      go_ret
      rw [List.take_length] at hown
      exact ⟨_, rfl, hown, hbel⟩
theorem owns_form {w : World} {base : Nat} {e : TypeId} {size : Nat} {v : Value} {n : Nat} {xs : List Value} (h : w.ownsRow base e size v n xs) : ∃ a c, v = .slice a n c := by
  rcases h.2 with ⟨rfl, rfl⟩ | ⟨g, cap, cur, rfl, _⟩
  · exact ⟨none, 0, rfl⟩
  · exact ⟨_, _, rfl⟩
/-- A device in memory and the zero that is the result's: the boxes of a function that takes one and gives one. -/
theorem two_boxes (w : World) (x0 x1 x2 x3 x4 x5 : Value) : Res ((w.alloc (.cells #[x0, x1, x2, x3, x4, x5] 24)).alloc (.cells #[.int .i64 0, .int .i64 0, .int .i64 0, .int .i64 0, .int .i64 0, .slice none 0 0] 24)) w.heap.size x0 x1 x2 x3 x4 x5 ∧ Res ((w.alloc (.cells #[x0, x1, x2, x3, x4, x5] 24)).alloc (.cells #[.int .i64 0, .int .i64 0, .int .i64 0, .int .i64 0, .int .i64 0, .slice none 0 0] 24)) (w.heap.size + 1) (.int .i64 0) (.int .i64 0) (.int .i64 0) (.int .i64 0) (.int .i64 0) (.slice none 0 0) ∧ Below w.heap.size w ((w.alloc (.cells #[x0, x1, x2, x3, x4, x5] 24)).alloc (.cells #[.int .i64 0, .int .i64 0, .int .i64 0, .int .i64 0, .int .i64 0, .slice none 0 0] 24)) ∧ w.heap.size + 1 + 1 = ((w.alloc (.cells #[x0, x1, x2, x3, x4, x5] 24)).alloc (.cells #[.int .i64 0, .int .i64 0, .int .i64 0, .int .i64 0, .int .i64 0, .slice none 0 0] 24)).heap.size := by
  have hR := resM (w.alloc (.cells #[x0, x1, x2, x3, x4, x5] 24)) (.int .i64 0) (.int .i64 0) (.int .i64 0) (.int .i64 0) (.int .i64 0) (.slice none 0 0) 24
  rw [show (w.alloc (.cells #[x0, x1, x2, x3, x4, x5] 24)).heap.size = w.heap.size + 1 from by simp] at hR
  exact ⟨resB (resM w x0 x1 x2 x3 x4 x5 24) ((Below.refl _ _).alloc (Nat.le_refl _) _), hR, ((Below.refl _ _).alloc (Nat.le_refl _) _).alloc (Nat.le_of_lt (size_alloc1 _ _)) _, by simp⟩
set_option maxRecDepth 100000 in
set_option maxHeartbeats 1000000 in
theorem fresh_any (d : FDev) (v : Value) (w : World) (hv : IsSt w v d.ops) (hm : mayAll d.ops = true) (hl : d.ops.length ≤ 768) : Calls Try.prog 54 #[.agg #[.int .i64 d.sa, .int .i64 d.su, .int .i64 d.nx, .int .i64 d.gt, .int .i64 d.sl, v]] w fun e w' => ∃ u, e = .returned (.agg #[.int .i64 d.sa, .int .i64 d.su, .int .i64 d.nx, .int .i64 d.gt, .int .i64 d.sl, u]) ∧ w'.ownsRow w.heap.size 69 3 u d.ops.length (flat d.ops) ∧ Below w.heap.size w w' := by
  have HS : Hid (∀ w', Below w.heap.size w w' → Calls Try.prog 75 #[v] w' fun e w'' => ∃ u, e = .returned u ∧ w''.ownsRow w'.heap.size 69 3 u d.ops.length (flat d.ops) ∧ Below w'.heap.size w' w'') := fun w' hb => steps_any v d.ops w' (hv.below hb) hm hl
  obtain ⟨hD, hR, hB, hs⟩ := two_boxes w (.int .i64 d.sa) (.int .i64 d.su) (.int .i64 d.nx) (.int .i64 d.gt) (.int .i64 d.sl) v
  obtain ⟨a, ca, rfl, _, _⟩ := hv
  obtain ⟨sa, su, nx, gt, sl, l⟩ := d
  dsimp only at *
  go_enter Try.func54, Try.ntmps54
  go_wp2_with fail
  refine (HS.out _ hB).mono ?_
  generalize (w.alloc _).alloc _ = W at *
  rintro e w2 ⟨u, rfl, hown, hb⟩
  replace hB := thenB hB hb
  replace hD := resB hD hb
  replace hR := resB hR hb
  rw [← hs] at hown
  clear hb HS
  obtain ⟨a', c', rfl⟩ := owns_form hown
  have HB := hide hB
  have HO := hide hown
  clear hB hown
  go_wp2_with fail
  replace hR := resO hR (Nat.ne_of_lt (Nat.lt_succ_self _)) 5 (.slice a' l.length c')
  have hbs := set6 (x0 := .int .i64 sa) (x1 := .int .i64 su) (x2 := .int .i64 nx) (x3 := .int .i64 gt) (x4 := .int .i64 sl) (x5 := .slice a' l.length c') (HB.out.setCell (p := ⟨w.heap.size, 5, none⟩) (Nat.le_refl _) (.slice a' l.length c')) (Nat.le_succ w.heap.size)
  refine bodyPost_ret (v := .agg #[.int .i64 sa, .int .i64 su, .int .i64 nx, .int .i64 gt, .int .i64 sl, .slice a' l.length c']) (by simp [results, Try.results54, go_sem, hR]) rfl ⟨_, rfl, owns_mono (base := w.heap.size + 1 + 1) ?_ (by omega), hbs⟩
  exact own6 (own1 HO.out (by omega) 5 _) (Nat.lt_succ_self _) _ _ _ _ _ _
theorem room_ways (d : FDev) (n : Int) : (¬ d.gt % 32 = 0 ∧ roomB d n = false) ∨ (d.gt % 32 = 0 ∧ ¬ d.gt + n ≤ 288 ∧ roomB d n = false) ∨ (d.gt % 32 = 0 ∧ d.gt + n ≤ 288 ∧ roomB d n = decide (d.nx < 16)) := by
  unfold roomB
  by_cases h1 : d.gt % 32 = 0 <;> by_cases h2 : d.gt + n ≤ 288 <;> simp [h1, h2]
end Go.Proofs.Ythcknngmpcepfaa.DnlCopy

/- The contracts of package download: each call answers the device that the plain functions give, whatever its arguments; its steps lie in memory of their own. -/
namespace Go.Proofs.Ythcknngmpcepfaa.DnlWalk
open Go.Proofs.Ythcknngmpcepfaa Go.RowKit Go.Proofs.Ythcknngmpcepfaa.Bytes Go.Proofs.Ythcknngmpcepfaa.Ops Go.Proofs.Ythcknngmpcepfaa.OpsRow Go.Proofs.Ythcknngmpcepfaa.Jou Go.Proofs.Ythcknngmpcepfaa.Act Go.Proofs.Ythcknngmpcepfaa.Cho Go.Proofs.Ythcknngmpcepfaa.Sta Go.Proofs.Ythcknngmpcepfaa.Dev Go.Proofs.Ythcknngmpcepfaa.DevRow Go.Proofs.Ythcknngmpcepfaa.DevSet Go.Proofs.Ythcknngmpcepfaa.Dnl Go.Proofs.Ythcknngmpcepfaa.DnlCopy
open Go.Proofs.Ythcknngmpcepfaa.OpsWalk (size_alloc1 info_op)
open Go.Proofs.Ythcknngmpcepfaa.EntRow (text_ne)
open Go.Proofs.Ythcknngmpcepfaa.DevWalk (build_d0)
attribute [local go_sem ↓] Go.wp_at_zero Go.wp_at_succ
/-- A device and an error are given back; the device's steps lie in memory made since. -/
abbrev Gave (w : World) (D : FDev) (e : Int) (r : Ending) (w' : World) : Prop := ∃ u, r = .returned (.tuple #[.agg #[.int .i64 D.sa, .int .i64 D.su, .int .i64 D.nx, .int .i64 D.gt, .int .i64 D.sl, u], .int .i64 e]) ∧ w'.ownsRow w.heap.size 69 3 u D.ops.length (flat D.ops) ∧ Below w.heap.size w w'
theorem fail_is (d : FDev) (v : Value) (s : Int) (w : World) (hv : IsSt w v d.ops) (hd : devB d = true) (hs : flB s = true) : Calls Try.prog 52 #[.agg #[.int .i64 d.sa, .int .i64 d.su, .int .i64 d.nx, .int .i64 d.gt, .int .i64 d.sl, v], .int .i64 s] w fun r w' => r = .returned (.tuple #[.agg #[.int .i64 7, .int .i64 s, .int .i64 0, .int .i64 0, .int .i64 0, .slice none 0 0], .int .i64 0]) ∧ Below w.heap.size w w' := by
  have g := DevFail.fail_any d v s w hv
  have hF : failB d s = true := by unfold failB; rw [hd, hs]; rfl
  rw [hF] at g
  exact g
theorem text_none {t : ByteArray} (h : t.size = 0) : t = ⟨#[]⟩ := by
  apply ba_ext
  have : t.data.toList.length = 0 := by rw [Nor.size_list]; exact h
  exact List.length_eq_zero_iff.1 this
theorem list_none : (⟨#[]⟩ : ByteArray).toList = [] := by kernel_rfl
theorem text_some {t : ByteArray} (h : ¬ t.size = 0) : t.toList.isEmpty = false := by
  have g := text_ne (a := t) (b := ⟨#[]⟩) (fun e => h (by rw [e]; rfl))
  rw [list_none] at g
  cases hc : t.toList with
  | nil => rw [hc] at g; cases g
  | cons x l => rfl
theorem ne_t {a b : Int} (h : ¬ a = b) : (a != b) = true := bne_iff_ne.2 h
theorem eq_f {a b : Int} (h : ¬ a = b) : (a == b) = false := beq_eq_false_iff_ne.2 h
/-- A struct that lies below what was written. -/
theorem resL {w w' : World} {B K : Nat} {x0 x1 x2 x3 x4 x5 : Value} (h : Res w B x0 x1 x2 x3 x4 x5) (hb : Below K w w') (hK : B < K) : Res w' B x0 x1 x2 x3 x4 x5 := by
  obtain ⟨h, h0, h1, h2, h3, h4, h5, h6⟩ := h
  exact ⟨Nat.lt_of_lt_of_le h hb.size, by rw [hb.cell (p := ⟨B, 0, none⟩) hK]; exact h0, by rw [hb.cell (p := ⟨B, 1, none⟩) hK]; exact h1, by rw [hb.cell (p := ⟨B, 2, none⟩) hK]; exact h2, by rw [hb.cell (p := ⟨B, 3, none⟩) hK]; exact h3, by rw [hb.cell (p := ⟨B, 4, none⟩) hK]; exact h4, by rw [hb.cell (p := ⟨B, 5, none⟩) hK]; exact h5, fun i => by rw [hb.frozen (p := ⟨B, i, none⟩) hK]; exact h6 i⟩
theorem dev_steps {d : FDev} (h : devB d = true) : mayAll d.ops = true := by
  unfold devB stepsB at h
  simp only [Bool.and_eq_true] at h
  exact h.2.2
end Go.Proofs.Ythcknngmpcepfaa.DnlWalk

/- The contract of download.Take: whatever it is asked, the device and the error that the plain functions give. -/
namespace Go.Proofs.Ythcknngmpcepfaa.DnlTake
open Go.Proofs.Ythcknngmpcepfaa Go.RowKit Go.Proofs.Ythcknngmpcepfaa.Bytes Go.Proofs.Ythcknngmpcepfaa.Ops Go.Proofs.Ythcknngmpcepfaa.OpsRow Go.Proofs.Ythcknngmpcepfaa.Jou Go.Proofs.Ythcknngmpcepfaa.Dev Go.Proofs.Ythcknngmpcepfaa.DevRow Go.Proofs.Ythcknngmpcepfaa.DevSet Go.Proofs.Ythcknngmpcepfaa.Dnl Go.Proofs.Ythcknngmpcepfaa.DnlCopy Go.Proofs.Ythcknngmpcepfaa.DnlWalk
open Go.Proofs.Ythcknngmpcepfaa.DevWalk (build_d0)
attribute [local go_sem ↓] Go.wp_at_zero Go.wp_at_succ
theorem ok_no {f : ByteArray} {d : FDev} {b : Int} {t : ByteArray} (h : okB f d b t = false) : mayF f = false ∨ (mayF f = true ∧ devB d = false) ∨ (mayF f = true ∧ devB d = true ∧ b < 0) ∨ (mayF f = true ∧ devB d = true ∧ ¬ b < 0 ∧ 65535 < b) ∨ (mayF f = true ∧ devB d = true ∧ ¬ b < 0 ∧ ¬ 65535 < b ∧ 32 < (t.size : Int)) ∨ (mayF f = true ∧ devB d = true ∧ ¬ b < 0 ∧ ¬ 65535 < b ∧ ¬ 32 < (t.size : Int) ∧ ¬ d.sa = 0 ∧ ¬ d.sa = 3) := by
  have hn : ¬ okB f d b t = true := by rw [h]; simp
  rw [okB_parts] at hn
  cases h1 : mayF f with
  | false => exact .inl rfl
  | true =>
    cases h2 : devB d with
    | false => exact .inr (.inl ⟨rfl, rfl⟩)
    | true =>
      right; right
      by_cases h3 : b < 0
      · exact .inl ⟨rfl, rfl, h3⟩
      by_cases h4 : 65535 < b
      · exact .inr (.inl ⟨rfl, rfl, h3, h4⟩)
      by_cases h5 : 32 < (t.size : Int)
      · exact .inr (.inr (.inl ⟨rfl, rfl, h3, h4, h5⟩))
      refine .inr (.inr (.inr ⟨rfl, rfl, h3, h4, h5, ?_, ?_⟩))
      · exact fun e => hn ⟨h1, h2, .inl e, ⟨by omega, by omega⟩, by omega⟩
      · exact fun e => hn ⟨h1, h2, .inr e, ⟨by omega, by omega⟩, by omega⟩
end Go.Proofs.Ythcknngmpcepfaa.DnlTake

/- A block taken by a device without steps, of a flash that may be: what it answers, way by way; texts as their first pieces. No program is named here. -/
namespace Go.Proofs.Ythcknngmpcepfaa.DnlMore
open Go.Proofs.Ythcknngmpcepfaa Go.Proofs.Ythcknngmpcepfaa.Bytes Go.Proofs.Ythcknngmpcepfaa.Nor Go.Proofs.Ythcknngmpcepfaa.Ops Go.Proofs.Ythcknngmpcepfaa.Jou Go.Proofs.Ythcknngmpcepfaa.Act Go.Proofs.Ythcknngmpcepfaa.Held Go.Proofs.Ythcknngmpcepfaa.Cho Go.Proofs.Ythcknngmpcepfaa.Sta Go.Proofs.Ythcknngmpcepfaa.Ans Go.Proofs.Ythcknngmpcepfaa.Dev Go.Proofs.Ythcknngmpcepfaa.Dnl

theorem oth_blank : othI blankS = 0 := by unfold othI; rw [blank_act.1]
theorem may_blank : mayF blankS = true := mayF_t size_blankS
theorem dev_new : devB newD = true := rfl
/-- A flash of whose journal every byte is blank has no active image. -/
theorem oth_bare {f : ByteArray} (hf : f.size = 768) (h : ∀ i, i < 192 → f.data.toList[i]? = some 255) : othI f = 0 := by
  have hs : scanL f = [] := by rw [scan_ok hf]; exact found_none f 8 (fun j hj => slot_full fun i hi => h _ (by omega))
  unfold othI
  rw [(act_none (mayF_t hf) (by unfold bestO; rw [hs]; rfl)).1]
theorem start_is {f t : ByteArray} (hf : mayF f = true) (h0 : ¬ t.size = 0) (h1 : t.size ≤ 32) : okB f newD 0 t = true ∧ takeD f newD 0 t = ⟨1, 0, 1, t.size, othI f, erL (othI f) ++ wordsL (baseI (othI f)) t⟩ := by
  have hok : okB f newD 0 t = true := okB_parts.2 ⟨hf, dev_new, .inl rfl, ⟨by omega, by omega⟩, h1⟩
  refine ⟨hok, ?_⟩
  rw [take_first hok rfl]
  unfold firstD
  rw [if_neg h0, if_pos rfl]
  rfl
theorem start_none {f t : ByteArray} (hf : mayF f = true) (h0 : t.size = 0) : okB f newD 0 t = true ∧ takeD f newD 0 t = failedD 5 := by
  have hok : okB f newD 0 t = true := okB_parts.2 ⟨hf, dev_new, .inl rfl, ⟨by omega, by omega⟩, by omega⟩
  refine ⟨hok, ?_⟩
  rw [take_first hok rfl]
  unfold firstD
  rw [if_pos h0]
/-- A device that has taken k blocks, g bytes, into the first slot. -/
abbrev downD (k g : Int) : FDev := ⟨3, 0, k, g, 0, []⟩
theorem dev_down {k g : Int} (h0 : 0 ≤ k) (h1 : k ≤ 16) (h2 : 0 ≤ g) (h3 : g ≤ 288) : devB (downD k g) = true := by
  unfold devB
  have a1 : upB k 16 = true := upB_iff.2 ⟨h0, h1⟩
  have a2 : upB g 288 = true := upB_iff.2 ⟨h2, h3⟩
  simp only [a1, a2]
  rfl
theorem ok_down {f t : ByteArray} {k g b : Int} (hf : mayF f = true) (h0 : 0 ≤ k) (h1 : k ≤ 16) (h2 : 0 ≤ g) (h3 : g ≤ 288) (hb : 0 ≤ b) (hb' : b ≤ 65535) (ht : t.size ≤ 32) : okB f (downD k g) b t = true := okB_parts.2 ⟨hf, dev_down h0 h1 h2 h3, .inr rfl, ⟨hb, hb'⟩, ht⟩
theorem more_is {f t : ByteArray} {k g : Int} (hok : okB f (downD k g) k t = true) (h0 : ¬ t.size = 0) (hg : g % 32 = 0) (hs : g + t.size ≤ 288) (hk : k < 16) : takeD f (downD k g) k t = ⟨1, 0, k + 1, g + t.size, 0, wordsL (192 + g) t⟩ := by
  rw [take_further hok rfl]
  unfold furtherD
  rw [if_neg (by show ¬ k = k - 1; omega), if_neg (by simp), if_neg h0, if_pos (room_iff.2 ⟨hg, hs, hk⟩)]
  rfl
theorem again_is {f t : ByteArray} {k g b : Int} (hok : okB f (downD k g) b t = true) (hb : b = k - 1) : takeD f (downD k g) b t = ⟨1, 0, k, g, 0, []⟩ := by
  rw [take_further hok rfl]
  unfold furtherD
  rw [if_pos hb]
  rfl
theorem none_is {f t : ByteArray} {k g : Int} (hok : okB f (downD k g) k t = true) (h0 : t.size = 0) : takeD f (downD k g) k t = ⟨4, 0, k, g, 0, []⟩ := by
  rw [take_further hok rfl]
  unfold furtherD
  rw [if_neg (by show ¬ k = k - 1; omega), if_neg (by simp), if_pos h0]
  rfl
theorem other_is {f t : ByteArray} {k g b : Int} (hok : okB f (downD k g) b t = true) (h1 : ¬ b = k - 1) (h2 : ¬ b = k) : takeD f (downD k g) b t = failedD 4 := by
  rw [take_further hok rfl]
  unfold furtherD
  rw [if_neg h1, if_pos h2]
theorem full_is {f t : ByteArray} {k g : Int} (hok : okB f (downD k g) k t = true) (h0 : ¬ t.size = 0) (hr : ¬ (g % 32 = 0 ∧ g + t.size ≤ 288 ∧ k < 16)) : takeD f (downD k g) k t = failedD 4 := by
  rw [take_further hok rfl]
  unfold furtherD
  rw [if_neg (by show ¬ k = k - 1; omega), if_neg (by simp), if_neg h0, if_neg (fun h => hr (room_iff.1 h))]
theorem length_start (s : Int) (t : ByteArray) (h0 : 0 ≤ s) (h1 : s ≤ 1) (ht : t.size ≤ 32) : (erL s ++ wordsL (baseI s) t).length = 3 + (t.size + 3) / 4 := by
  rw [List.length_append, erL_ok (base_of h0 h1).1, length_erTo, wordsL_ok (start_ok h0 h1 ht), length_wordsTo]
  rfl
end Go.Proofs.Ythcknngmpcepfaa.DnlMore

/- A device's steps spoilt by whoever holds it: only memory of their own turns. How many steps a taken block leaves. -/
namespace Go.Proofs.Ythcknngmpcepfaa.DnlHelp
open Go.Proofs.Ythcknngmpcepfaa Go.RowKit Go.Proofs.Ythcknngmpcepfaa.Bytes Go.Proofs.Ythcknngmpcepfaa.Ops Go.Proofs.Ythcknngmpcepfaa.OpsRow Go.Proofs.Ythcknngmpcepfaa.Act Go.Proofs.Ythcknngmpcepfaa.Cho Go.Proofs.Ythcknngmpcepfaa.Sta Go.Proofs.Ythcknngmpcepfaa.Dev Go.Proofs.Ythcknngmpcepfaa.DevRow Go.Proofs.Ythcknngmpcepfaa.Dnl Go.Proofs.Ythcknngmpcepfaa.DnlCopy
/-- The steps of a device that a call gave. -/
theorem field_sent (a : Option Addr) (c : Nat) (w : World) : (Instr.field 24 (.agg #[.int .i64 1, .int .i64 0, .int .i64 1, .int .i64 32, .int .i64 0, .slice a 11 c]) 5).run Try.prog w = .ok (.slice a 11 c) w := by kernel_rfl
/-- A slice of some steps: where they lie. -/
theorem st_open {w : World} {a : Option Addr} {n c : Nat} {l : List FOp} (h : IsSt w (.slice a n c) l) (hn : 0 < n) : l.length = n ∧ ∃ b o, a = some ⟨b, o, none⟩ ∧ n ≤ c ∧ c ≤ maxLen ∧ b < w.heap.size ∧ StIn w b o l := by
  obtain ⟨a', c', he, _, hr⟩ := h
  injection he with e1 e2 e3
  subst e1 e3
  refine ⟨e2.symm, ?_⟩
  rcases hr with hr | ⟨b, o, h1, h2, h3, h4, h5⟩
  · rw [hr] at e2; simp at e2; omega
  · exact ⟨b, o, h1, by omega, h3, h4, h5⟩
theorem take_few (f : ByteArray) (d : FDev) (b : Int) (t : ByteArray) : (takeD f d b t).ops.length ≤ 65536 := by
  unfold takeD
  split
  · rename_i h
    obtain ⟨_, h2, _, _, h5⟩ := okB_parts.1 h
    have hd := (dev_parts h2).2.2.2
    split
    · unfold firstD
      split
      · exact Nat.zero_le _
      split
      · show (erL (othI f) ++ wordsL (baseI (othI f)) t).length ≤ 65536
        have := words_few (baseI (othI f)) t h5
        have := er_three f
        rw [List.length_append]
        omega
      · exact Nat.zero_le _
    · unfold furtherD
      split
      · show d.ops.length ≤ 65536; omega
      split
      · exact Nat.zero_le _
      split
      · show d.ops.length ≤ 65536; omega
      split
      · show (wordsL (baseI d.sl + d.gt) t).length ≤ 65536
        have := words_few (baseI d.sl + d.gt) t h5
        omega
      · exact Nat.zero_le _
  · exact Nat.zero_le _
set_option maxRecDepth 100000 in
set_option maxHeartbeats 1000000 in
theorem spoilDev_any (d : FDev) (v : Value) (w : World) (base : Nat) (hl : d.ops.length ≤ 65536) (hbase : base ≤ w.heap.size) (hv : w.ownsRow base 69 3 v d.ops.length (flat d.ops)) : Calls Try.prog 14 #[.agg #[.int .i64 d.sa, .int .i64 d.su, .int .i64 d.nx, .int .i64 d.gt, .int .i64 d.sl, v]] w fun e w' => e = .returned (.tuple #[]) ∧ Below base w w' := by
  have hB := (Below.refl base w).alloc hbase (.cells #[.int .i64 d.sa, .int .i64 d.su, .int .i64 d.nx, .int .i64 d.gt, .int .i64 d.sl, v] 24)
  have hv2 := hv.alloc (.cells #[.int .i64 d.sa, .int .i64 d.su, .int .i64 d.nx, .int .i64 d.gt, .int .i64 d.sl, v] 24)
  have HS := hide (OpsHelp.spoil_any v d.ops _ base hl hv2)
  obtain ⟨a, c, rfl⟩ := owns_form hv
  obtain ⟨sa, su, nx, gt, sl, l⟩ := d
  dsimp only at *
  go_enter Try.func14, Try.ntmps14
  go_wp2_with fail
  refine HS.out.mono ?_
  rintro e w2 ⟨rfl, hb⟩
  go_wp2_with fail
  go_end0
  exact ⟨rfl, hB.trans hb⟩
end Go.Proofs.Ythcknngmpcepfaa.DnlHelp
