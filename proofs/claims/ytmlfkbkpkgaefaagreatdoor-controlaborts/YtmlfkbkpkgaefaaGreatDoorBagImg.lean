/- A text's words programmed on any flash, steps done in a row, and the flash of one record that the laws ask about: its bytes, its records, its first blank place. No program is named here. -/
import Derived.Test.YtmlfkbkpkgaefaaGreatDoorBagJou
import Derived.Test.YtmlfkbkpkgaefaaGreatDoorBagEnt
import Derived.Lib.BufferWrite
import Derived.Lib.UnsafeStr
import Derived.Test.YtmlfkbkpkgaefaaGreatDoorBagCrc
import Derived.BigQuiet
namespace Go.Proofs.YtmlfkbkpkgaefaaGreatDoor.Held
open Go.Proofs.YtmlfkbkpkgaefaaGreatDoor Go.Proofs.YtmlfkbkpkgaefaaGreatDoor.Bytes Go.Proofs.YtmlfkbkpkgaefaaGreatDoor.Ent Go.Proofs.YtmlfkbkpkgaefaaGreatDoor.Ops Go.Proofs.YtmlfkbkpkgaefaaGreatDoor.Jou Go.Proofs.YtmlfkbkpkgaefaaGreatDoor.Act

def overL (f l : List UInt8) (p n : Nat) : List UInt8 := f.mapIdx fun i c => if p ≤ i ∧ i < p + 4 * n then c &&& l.getD (i - p) 255 else c
theorem get_overL (f l : List UInt8) (p n i : Nat) : (overL f l p n)[i]? = f[i]?.map fun c => if p ≤ i ∧ i < p + 4 * n then c &&& l.getD (i - p) 255 else c := by simp [overL]
theorem length_overL (f l : List UInt8) (p n : Nat) : (overL f l p n).length = f.length := by simp [overL]
theorem overL_0 (f l : List UInt8) (p : Nat) : overL f l p 0 = f := by
  apply List.ext_getElem?
  intro i
  rw [get_overL]
  cases f[i]? with
  | none => rfl
  | some c => simp only [Option.map_some]; rw [if_neg (by omega)]
theorem overL_succ (f l : List UInt8) (p n : Nat) : Nor.tornL (overL f l p n) (wordL l n) (p + 4 * n) 32 = overL f l p (n + 1) := by
  apply List.ext_getElem?
  intro i
  rw [Nor.get_tornL, get_overL, get_overL]
  cases f[i]? with
  | none => rfl
  | some c =>
    simp only [Option.map_some]
    by_cases h1 : p + 4 * n ≤ i ∧ i < p + 4 * n + 4
    · rw [if_pos h1, if_neg (by omega), if_pos (by omega), Nor.keep_8 _ _ (by omega), wordL_get _ _ _ (by omega), show 4 * n + (i - (p + 4 * n)) = i - p from by omega]
    · rw [if_neg h1]
      by_cases h2 : p ≤ i ∧ i < p + 4 * n
      · rw [if_pos h2, if_pos (by omega)]
      · rw [if_neg h2, if_neg (by omega)]
/-- The first n words of t, programmed on f from p on. -/
def overS (f t : ByteArray) (p n : Nat) : ByteArray := ⟨(overL f.data.toList t.data.toList p n).toArray⟩
theorem list_overS (f t : ByteArray) (p n : Nat) : (overS f t p n).data.toList = overL f.data.toList t.data.toList p n := mk_toList _
theorem size_overS (f t : ByteArray) (p n : Nat) : (overS f t p n).size = f.size := by rw [← Nor.size_list, list_overS, length_overL, Nor.size_list]
theorem overS_0 (f t : ByteArray) (p : Nat) : overS f t p 0 = f := by apply ba_ext; rw [list_overS, overL_0]
theorem over_step {f : ByteArray} {p : Nat} {t : ByteArray} (hf : f.size = 768) (h : wordsOk (p : Int) t = true) (i : Nat) (hi : i < wordsN t) : cutOk (overS f t p i) false ((p : Int) + 4 * (i : Int)) (wordS t i) 96 = true ∧ cutS (overS f t p i) false ((p : Int) + 4 * (i : Int)) (wordS t i) 96 = overS f t p (i + 1) := by
  have e : cutOk (overS f t p i) false ((p : Int) + 4 * (i : Int)) (wordS t i) 96 = true := cutOk_parts.2 ⟨by rw [size_overS]; exact hf, wordsMay h i hi, by omega, by omega⟩
  refine ⟨e, Nor.ba_eq ?_⟩
  have hs : ∀ (f t : List UInt8) (q : Nat), stepL f t false q 96 = Nor.tornL f t q 32 := fun _ _ _ => rfl
  have h96 : (96 : Int).toNat = 96 := rfl
  rw [list_cutS e, list_overS, list_overS, h96, hs, show ((p : Int) + 4 * (i : Int)).toNat = p + 4 * i from by omega]
  exact overL_succ _ _ _ _

/-- Steps done in a row. -/
def doL (f : ByteArray) (l : List FOp) : ByteArray := l.foldl (fun g o => cutS g o.er o.pl o.tx 96) f
theorem doL_nil (f : ByteArray) : doL f [] = f := rfl
theorem doL_append (f : ByteArray) (l m : List FOp) : doL f (l ++ m) = doL (doL f l) m := by unfold doL; rw [List.foldl_append]
theorem doL_take (f : ByteArray) (l : List FOp) (n : Nat) (h : n < l.length) : doL f (l.take (n + 1)) = cutS (doL f (l.take n)) l[n].er l[n].pl l[n].tx 96 := by
  rw [List.take_succ_eq_append_getElem h, doL_append]
  rfl
theorem doL_words {f : ByteArray} {p : Nat} {t : ByteArray} (hf : f.size = 768) (h : wordsOk (p : Int) t = true) (n : Nat) (hn : n ≤ wordsN t) : doL f (wordsTo (p : Int) t n) = overS f t p n := by
  induction n with
  | zero => rw [overS_0]; rfl
  | succ n ih =>
    rw [wordsTo_succ, doL_append, ih (by omega)]
    exact (over_step hf h n (by omega)).2
/-- What lies where the words went, if it was blank; what lies elsewhere. -/
theorem get_overS (f t : ByteArray) (p n i : Nat) : (overS f t p n).data.toList[i]? = f.data.toList[i]?.map fun c => if p ≤ i ∧ i < p + 4 * n then c &&& t.data.toList.getD (i - p) 255 else c := by rw [list_overS, get_overL]
theorem over_out (f t : ByteArray) (p n i : Nat) (h : i < p ∨ p + 4 * n ≤ i) : (overS f t p n).data.toList[i]? = f.data.toList[i]? := by
  rw [get_overS]
  cases f.data.toList[i]? with
  | none => rfl
  | some c => simp only [Option.map_some]; rw [if_neg (by omega)]
theorem over_in (f t : ByteArray) (p n i : Nat) (h1 : p ≤ i) (h2 : i < p + 4 * n) (hb : f.data.toList[i]? = some 255) : (overS f t p n).data.toList[i]? = some (t.data.toList.getD (i - p) 255) := by
  rw [get_overS, hb]
  simp only [Option.map_some]
  rw [if_pos ⟨h1, h2⟩, and_ff]
theorem over_mid (f t : ByteArray) (p n : Nat) (hn : t.size ≤ 4 * n) (hb : ∀ i, i < t.size → f.data.toList[p + i]? = some 255) : (overS f t p n).extract p (p + t.size) = t := by
  apply ba_ext
  rw [list_extract, show p + t.size - p = t.size from by omega]
  apply List.ext_getElem?
  intro i
  by_cases hi : i < t.size
  · rw [List.getElem?_take_of_lt hi, List.getElem?_drop, over_in f t p n (p + i) (by omega) (by omega) (hb i hi), show p + i - p = i from by omega, List.getD_eq_getElem?_getD, List.getElem?_eq_getElem (by rw [Nor.size_list]; exact hi)]
    rfl
  · rw [List.getElem?_eq_none (by rw [List.length_take]; omega), List.getElem?_eq_none (by rw [Nor.size_list]; omega)]

def ab : ByteArray := ⟨#[97, 98, 97, 98, 97, 98, 97, 98, 97, 98, 97, 98]⟩
theorem size_ab : ab.size = 12 := rfl
theorem words_ab : wordsOk ((192 : Nat) : Int) ab = true := by decide
theorem n_ab : wordsN ab = 3 := rfl
/-- The flash whose slot 0 bears "ab" many times, without a record. -/
def bareS : ByteArray := overS Nor.blankS ab 192 3
theorem size_bareS : bareS.size = 768 := by unfold bareS; rw [size_overS, Nor.size_blankS]
theorem list_blankS : Nor.blankS.data.toList = Nor.blankL := mk_toList _
theorem blank_get (i : Nat) (h : i < 768) : Nor.blankS.data.toList[i]? = some 255 := by rw [list_blankS]; exact Nor.get_blankL i h
theorem bare_get (i : Nat) (h : i < 192) : bareS.data.toList[i]? = some 255 := by unfold bareS; rw [over_out _ _ _ _ _ (.inl h)]; exact blank_get i (by omega)
theorem bare_slot (j : Nat) (h : j < 8) : slotS bareS j = full24 := slot_full fun i hi => bare_get _ (by omega)
theorem found_none (f : ByteArray) (n : Nat) (h : ∀ j, j < n → slotS f j = full24) : foundTo f n = [] := by
  induction n with
  | zero => rfl
  | succ n ih => rw [foundTo_no f n (by rw [h n (by omega)]; exact get_full24), ih (fun j hj => h j (by omega))]
theorem bare_scan : scanL bareS = [] := by rw [scan_ok size_bareS]; exact found_none bareS 8 bare_slot
theorem bare_top : topI bareS = 0 := by unfold topI; rw [bare_scan]; rfl
theorem bare_cut : cutI bareS 0 12 = ab := over_mid Nor.blankS ab 192 3 (by decide) (fun i hi => blank_get _ (by rw [size_ab] at hi; omega))
def sumAb : Int := ((Crc.sum ab.data.toList : Nat) : Int)
theorem bare_sum : sumI bareS 0 12 = sumAb := by unfold sumI sumAb; rw [bare_cut]
theorem may_ab : recMay 1 0 12 sumAb = true := by
  have h := sumI_lt bareS 0 12
  rw [bare_sum] at h
  exact recMay_parts.2 ⟨by omega, by omega, by omega, by omega, by omega, by omega, h.1, h.2⟩
theorem bare_rof : rofQ bareS 0 12 = 1 ∧ rofT bareS 0 12 = 0 ∧ rofZ bareS 0 12 = 12 ∧ rofM bareS 0 12 = sumAb ∧ errS bareS 0 12 = 0 := by
  have h1 : rofOk bareS 0 12 = true := rofOk_parts.2 ⟨size_bareS, by omega, by omega, by omega, by omega⟩
  have h2 : topI bareS < 1048576 := by rw [bare_top]; omega
  have h := rof_yes h1 h2
  rw [bare_top, bare_sum] at h
  exact h
theorem bare_act : actO bareS = none ∧ actV bareS = zeroP ∧ errA bareS = 701 := act_none (mayF_t size_bareS) (by unfold bestO; rw [bare_scan]; rfl)
theorem bare_home : homeI bareS = 0 := by unfold homeI; rw [bare_act.2.1]; rfl
theorem bare_free : freeAt bareS 0 = 0 ∧ freeIs bareS 0 = true :=
  free_at (f := bareS) (s := 0) (j := 0) (freeOk_parts.2 ⟨size_bareS, by omega, by omega⟩) (fun i h1 h2 => by omega) (blankP_t (bare_slot 0 (by omega))) (by omega) (by omega)
theorem bare_app : appL bareS 1 0 12 sumAb = wordsTo ((0 : Nat) : Int) (putS 1 0 12 sumAb) 6 := by
  have h : appOk bareS 1 0 12 sumAb = true := imgOk_parts.2 ⟨size_bareS, may_ab⟩
  rw [app_ok h]
  unfold appE appA
  rw [bare_home, bare_free.2, bare_free.1]
  rfl
/-- The flash of one record. -/
def heldS : ByteArray := overS bareS (putS 1 0 12 sumAb) 0 6
theorem size_heldS : heldS.size = 768 := by unfold heldS; rw [size_overS, size_bareS]
theorem held_first : doL Nor.blankS (wordsL 192 ab) = bareS := by
  have h : wordsL 192 ab = wordsTo ((192 : Nat) : Int) ab 3 := wordsL_ok words_ab
  rw [h]
  exact doL_words Nor.size_blankS words_ab 3 (Nat.le_refl _)
theorem held_second : doL bareS (appL bareS 1 0 12 sumAb) = heldS := by
  rw [bare_app]
  have hs := size_putS may_ab
  exact doL_words size_bareS (wordsOk_parts.2 ⟨by omega, by omega, by omega, by rw [hs]; omega⟩) 6 (by unfold wordsN; rw [hs]; omega)
theorem held_slot0 : slotS heldS 0 = putS 1 0 12 sumAb := by
  have hs := size_putS may_ab
  have h := over_mid bareS (putS 1 0 12 sumAb) 0 6 (by omega) (fun i hi => bare_get _ (by omega))
  rw [hs] at h
  exact h
theorem held_out (i : Nat) (h : 24 ≤ i) : heldS.data.toList[i]? = bareS.data.toList[i]? := by unfold heldS; exact over_out _ _ _ _ _ (.inr (by omega))
theorem held_slot (j : Nat) (h0 : 1 ≤ j) (h : j < 8) : slotS heldS j = full24 := slot_full fun i hi => by rw [held_out _ (by omega)]; exact bare_get _ (by omega)
theorem held_scan : scanL heldS = [⟨0, 1, 0, 12, sumAb⟩] := by
  rw [scan_ok size_heldS, found_one (p := 0) may_ab held_slot0 8 (fun j h1 h2 => held_slot j (by omega) h1)]
  rfl
theorem held_rec : getOk (slotS heldS 0) = true := (recAt_put may_ab held_slot0).1
theorem held_full : ¬ slotS heldS 0 = full24 := fun e => by have h := held_rec; rw [e, get_full24] at h; cases h
theorem held_freeOk : freeOk heldS 0 = true := freeOk_parts.2 ⟨size_heldS, by omega, by omega⟩
theorem held_free : freeAt heldS 0 = 24 ∧ freeIs heldS 0 = true :=
  free_at (f := heldS) (s := 0) (j := 1) held_freeOk (fun i h1 h2 => by obtain rfl : i = 0 := (by omega); exact blankP_f held_full) (blankP_t (held_slot 1 (by omega) (by omega))) (by omega) (by omega)
theorem held_freeNo : freeOk heldS 2 = false := by unfold freeOk; exact decide_eq_false (by omega)
end Go.Proofs.YtmlfkbkpkgaefaaGreatDoor.Held

/- The contracts of strings.Clone and of what it calls: a text's own bytes come back, whatever the text under a bound; of what was there nothing has turned. -/
namespace Go.Proofs.YtmlfkbkpkgaefaaGreatDoor.ImgClone
open Go.Proofs.YtmlfkbkpkgaefaaGreatDoor Go.RowKit Go.Proofs.YtmlfkbkpkgaefaaGreatDoor.Bytes Go.Proofs.YtmlfkbkpkgaefaaGreatDoor.NorWalk Go.Proofs.YtmlfkbkpkgaefaaGreatDoor.EntRow Go.Proofs.YtmlfkbkpkgaefaaGreatDoor.EntLow

theorem cells_u8 : Tryz.prog.cellsOf 5 = 1 := by kernel_rfl
theorem one_u8 : (Tryz.prog.info? 5).map (·.size) = some 1 := by kernel_rfl
theorem size_made (n : Nat) : (madeBytes n).size = n := by
  unfold madeBytes
  rw [size_madeCells, Nat.mul_one]
set_option maxRecDepth 100000 in
set_option maxHeartbeats 1000000 in
theorem lite_any (s : ByteArray) (w : World) (hs : s.size ≤ 281474976710656) : Calls Tryz.prog 127 #[.string s] w fun e w' => e = .returned (.string s) ∧ Below w.heap.size w w' := by
  by_cases h0 : s.size = 0
  · obtain rfl : s = ⟨#[]⟩ := by
      apply ByteArray.ext
      exact Array.eq_empty_of_size_eq_zero h0
    go_enter Tryz.func127, Tryz.ntmps127
    go_wp2
    go_ret
    exact ⟨rfl, Below.refl _ _⟩
  · have hmk := fun w => run_make_bytes (P := Tryz.prog) w 49 5 Tryz.underlying49 info_u8 s.size hs
    have hz := size_made s.size
    generalize madeBytes s.size = M at *
    have hl : s.data.toList.length = s.size := by rw [Array.length_toList]; rfl
    have hcp := fun ty => Lib.run_copy_row_string (P := Tryz.prog) (w.alloc (.cells M 5)) 49 9 ty 5 w.heap.size 0 s.size s.size s M 5 Tryz.underlying49 one_u8 (heap_alloc_new w _) (Nat.le_refl _) (by omega)
    have hY : (M.toList.take 0 ++ Lib.byteCells s.data.toList ++ M.toList.drop (0 + s.size)).toArray.toList = Lib.byteCells s.data.toList := by
      rw [List.toList_toArray, List.take_zero, List.nil_append, List.drop_of_length_le (by rw [Array.length_toList]; omega), List.append_nil]
    generalize (M.toList.take 0 ++ Lib.byteCells s.data.toList ++ M.toList.drop (0 + s.size)).toArray = Y at *
    have hYs : Y.size = s.size := by rw [← Array.length_toList, hY, Lib.byteCells_length, hl]
    have hg : ((w.alloc (.cells M 5)).setRow w.heap.size Y).heap[w.heap.size]? = some (.cells Y 5 (0, 0)) := setRow_heap _ _ M _ 5 (0, 0) (heap_alloc_new w _)
    have hne : s.data.toList ≠ [] := fun e => h0 (by rw [← hl, e]; rfl)
    have hus := fun it ty => Lib.run_unsafeString_row (P := Tryz.prog) ((w.alloc (.cells M 5)).setRow w.heap.size Y) 172 it ty 5 Tryz.underlying172 cells_u8 w.heap.size Y.size (by unfold World.shape?; rw [hg]) s.data.toList hne (by omega) (by omega)
      (fun j x hx => Lib.cells_of_row hg Y.size j _ (by rw [List.take_of_length_le (by rw [Array.length_toList]; exact Nat.le_refl _), hY]; simp [Lib.byteCells, hx]))
    rw [hl] at hus
    have HB : Hid (Below w.heap.size w (((w.alloc (.cells M 5)).setRow w.heap.size Y).freeze ⟨w.heap.size, 0, none⟩ s.size)) := by
      have b1 : Below w.heap.size w (w.alloc (.cells M 5)) := (Below.refl _ w).alloc (Nat.le_refl _) _
      have b2 : Below w.heap.size (w.alloc (.cells M 5)) ((w.alloc (.cells M 5)).setRow w.heap.size Y) := ⟨rfl, rfl, rfl, by simp, fun k hk => setRow_other _ _ _ _ (by omega)⟩
      exact Lib.below_freeze (b1.trans b2) (p := ⟨w.heap.size, 0, none⟩) (Nat.le_refl _) _
    clear hY hg hne
    go_enter Tryz.func127, Tryz.ntmps127
    go_wp2
    go_ret
    exact ⟨rfl, HB.out⟩
theorem clone_any (s : ByteArray) (w : World) (hs : s.size ≤ 281474976710656) : Calls Tryz.prog 120 #[.string s] w fun e w' => e = .returned (.string s) ∧ Below w.heap.size w w' := by
  have hB : Below w.heap.size w w := Below.refl _ _
  go_enter Tryz.func120, Tryz.ntmps120
  go_wp2_with (go_at_call 127; refine (lite_any _ _ hs).mono ?_; rintro e w' ⟨rfl, hb⟩; replace hB := hB.trans (hb.mono hB.size); clear hb)
  go_ret
  exact ⟨rfl, hB⟩
end Go.Proofs.YtmlfkbkpkgaefaaGreatDoor.ImgClone

/- The contracts of package image: each call returns what the plain functions give, whatever its arguments; of what was there nothing has turned. -/
namespace Go.Proofs.YtmlfkbkpkgaefaaGreatDoor.ImgWalk
open Go.Proofs.YtmlfkbkpkgaefaaGreatDoor Go.RowKit Go.Proofs.YtmlfkbkpkgaefaaGreatDoor.Bytes Go.Proofs.YtmlfkbkpkgaefaaGreatDoor.NorWalk Go.Proofs.YtmlfkbkpkgaefaaGreatDoor.Ent Go.Proofs.YtmlfkbkpkgaefaaGreatDoor.EntRow Go.Proofs.YtmlfkbkpkgaefaaGreatDoor.EntWalk Go.Proofs.YtmlfkbkpkgaefaaGreatDoor.Jou Go.Proofs.YtmlfkbkpkgaefaaGreatDoor.Ops Go.Proofs.YtmlfkbkpkgaefaaGreatDoor.Act Go.Proofs.YtmlfkbkpkgaefaaGreatDoor.ImgClone

theorem ret_pair {a a' b b' : Int} (h1 : a = a') (h2 : b = b') : Ending.returned (.tuple #[.int .i64 a, .int .i64 b]) = .returned (.tuple #[.int .i64 a', .int .i64 b']) := by rw [h1, h2]
theorem ret_good {a a' : Bool} {b b' : Int} (h1 : a = a') (h2 : b = b') : Ending.returned (.tuple #[.bool a, .int .i64 b]) = .returned (.tuple #[.bool a', .int .i64 b']) := by rw [h1, h2]
set_option maxRecDepth 100000 in
set_option maxHeartbeats 400000 in
theorem base_any (t : Int) (w : World) : Calls Tryz.prog 121 #[.int .i64 t] w fun e w' => e = .returned (.tuple #[.int .i64 (baseI t), .int .i64 (errI (baseOk t))]) ∧ w' = w := by
  cases h : baseOk t with
  | false =>
    have HB : Hid (baseI t = 0) := by unfold baseI; rw [h]; rfl
    have h1 : t < 0 ∨ (¬ t < 0 ∧ 2 ≤ t) := by
      unfold baseOk at h
      have := of_decide_eq_false h
      omega
    clear h
    rcases h1 with h1 | ⟨h1, h2⟩
    all_goals
      go_enter Tryz.func121, Tryz.ntmps121
      go_wp2
      go_ret2
      exact ⟨ret_pair HB.out.symm rfl, rfl⟩
  | true =>
    obtain ⟨h1, h2⟩ := baseOk_parts.1 h
    have HB : Hid (baseI t = 192 + 288 * t) := by show baseI t = _; unfold baseI; rw [if_pos h]
    clear h
    go_enter Tryz.func121, Tryz.ntmps121
    go_wp2
    go_ret2
    exact ⟨ret_pair (by rw [HB.out]; omega) rfl, rfl⟩
theorem base_nat (t p : Nat) (w : World) (ht : t ≤ 1) (hp : p = 192 + 288 * t) : Calls Tryz.prog 121 #[.int .i64 (t : Int)] w fun e w' => e = .returned (.tuple #[.int .i64 (p : Int), .int .i64 0]) ∧ w' = w := by
  have h := base_any (t : Int) w
  have h1 : baseOk (t : Int) = true := baseOk_parts.2 ⟨by omega, by omega⟩
  have h2 : baseI (t : Int) = (p : Int) := by unfold baseI; rw [if_pos h1]; omega
  rw [h1, h2] at h
  exact h
set_option maxRecDepth 100000 in
set_option maxHeartbeats 400000 in
theorem imay_any (q t z m : Int) (w : World) : Calls Tryz.prog 125 #[.agg #[.int .i64 q, .int .i64 t, .int .i64 z, .int .i64 m]] w fun e w' => e = .returned (.bool (recMay q t z m)) ∧ Below w.heap.size w w' := by
  have hB := (Below.refl w.heap.size w).alloc (Nat.le_refl _) (.cells #[.int .i64 q, .int .i64 t, .int .i64 z, .int .i64 m] 88)
  have hX := boxM w (.int .i64 q) (.int .i64 t) (.int .i64 z) (.int .i64 m) 88
  have e0 : errE true = 0 := rfl
  have e1 : errE false = 400 := rfl
  have CP := hide (fun w => put_any q t z m w)
  generalize putS q t z m = S at *
  cases h : recMay q t z m with
  | false =>
    rw [h] at CP
    clear h
    go_enter Tryz.func125, Tryz.ntmps125
    go_wp2_with (go_at_call 132; refine (CP.out _).mono ?_; rintro e w' ⟨rfl, hb⟩; replace hB := hB.trans (hb.mono hB.size); replace hX := boxB hX hb; clear hb)
    go_ret
    exact ⟨rfl, hB⟩
  | true =>
    rw [h] at CP
    clear h
    go_enter Tryz.func125, Tryz.ntmps125
    go_wp2_with (go_at_call 132; refine (CP.out _).mono ?_; rintro e w' ⟨rfl, hb⟩; replace hB := hB.trans (hb.mono hB.size); replace hX := boxB hX hb; clear hb)
    go_ret
    exact ⟨rfl, hB⟩
theorem imgOk_c {f : ByteArray} {q t z m : Int} (h : imgOk f q t z m = false) : baseOk t = false ∨ (baseOk t = true ∧ mayB f = false) ∨ (baseOk t = true ∧ mayB f = true ∧ recMay q t z m = false) := by
  unfold imgOk at h
  cases h0 : baseOk t with
  | false => exact .inl rfl
  | true =>
    cases h1 : mayF f with
    | false => exact .inr (.inl ⟨rfl, h1⟩)
    | true => rw [h1, Bool.true_and] at h; exact .inr (.inr ⟨rfl, h1, h⟩)
set_option maxRecDepth 100000 in
set_option maxHeartbeats 1000000 in
theorem of_no (f : ByteArray) (q t z m : Int) (w : World) (h : imgOk f q t z m = false) : Calls Tryz.prog 117 #[.string f, .agg #[.int .i64 q, .int .i64 t, .int .i64 z, .int .i64 m]] w fun e w' => e = .returned (.tuple #[.string ⟨#[]⟩, .int .i64 600]) ∧ Below w.heap.size w w' := by
  have hB := (Below.refl w.heap.size w).alloc (Nat.le_refl _) (.cells #[.int .i64 q, .int .i64 t, .int .i64 z, .int .i64 m] 88)
  have hX := boxM w (.int .i64 q) (.int .i64 t) (.int .i64 z) (.int .i64 m) 88
  have e0 : errI true = 0 := rfl
  have e1 : errI false = 600 := rfl
  have C0 := hide (fun w => base_any t w)
  have C1 := hide (fun w => may_any f w)
  have C2 := hide (fun w => imay_any q t z m w)
  generalize baseI t = P at *
  rcases imgOk_c h with h1 | ⟨h1, h2⟩ | ⟨h1, h2, h3⟩
  all_goals
    first | rw [h1] at C0 | skip
    first | rw [h2] at C1 | skip
    first | rw [h3] at C2 | skip
    clear h
    go_enter Tryz.func117, Tryz.ntmps117
    go_wp2_with (first | (go_at_call 121; refine (C0.out _).mono ?_; rintro e w' ⟨rfl, rfl⟩) | (go_at_call 21; refine (C1.out _).mono ?_; rintro e w' ⟨rfl, rfl⟩) | (go_at_call 125; refine (C2.out _).mono ?_; rintro e w' ⟨rfl, hb⟩; replace hB := hB.trans (hb.mono hB.size); replace hX := boxB hX hb; clear hb))
    go_ret2
    exact ⟨rfl, hB⟩
set_option maxRecDepth 100000 in
set_option maxHeartbeats 1000000 in
theorem of_yes (f : ByteArray) (q : Int) (t z : Nat) (m : Int) (w : World) (h : imgOk f q t z m = true) : Calls Tryz.prog 117 #[.string f, .agg #[.int .i64 q, .int .i64 (t : Int), .int .i64 (z : Int), .int .i64 m]] w fun e w' => e = .returned (.tuple #[.string (imgS f q t z m), .int .i64 0]) ∧ Below w.heap.size w w' := by
  have hB := (Below.refl w.heap.size w).alloc (Nat.le_refl _) (.cells #[.int .i64 q, .int .i64 (t : Int), .int .i64 (z : Int), .int .i64 m] 88)
  have hX := boxM w (.int .i64 q) (.int .i64 (t : Int)) (.int .i64 (z : Int)) (.int .i64 m) 88
  obtain ⟨hf, hr⟩ := imgOk_parts.1 h
  obtain ⟨_, _, h1, h2, h3, h4, _⟩ := recMay_parts.1 hr
  have hm : mayB f = true := mayF_t hf
  obtain ⟨p, hp⟩ : ∃ p : Nat, p = 192 + 288 * t := ⟨_, rfl⟩
  have hp1 : p + z ≤ f.size := by omega
  have hp2 : f.size ≤ 768 := by omega
  have HX : Hid (imgS f q t z m = f.extract p (p + z)) := by show _ = _; rw [imgS_ok h, hp]; unfold cutI; rw [Int.toNat_natCast, Int.toNat_natCast]
  have C0 := hide (fun w => base_nat t p w (by omega) hp)
  have C1 := hide (fun w => may_any f w)
  have C2 := hide (fun w => imay_any q t z m w)
  have C3 := hide (fun w => clone_any (f.extract p (p + z)) w (by rw [ByteArray.size_extract]; omega))
  rw [hm] at C1
  rw [hr] at C2
  clear h hf hp h1 h2 h3 h4 hm hr
  go_enter Tryz.func117, Tryz.ntmps117
  go_wp2_with (first | (go_at_call 121; refine (C0.out _).mono ?_; rintro e w' ⟨rfl, rfl⟩) | (go_at_call 21; refine (C1.out _).mono ?_; rintro e w' ⟨rfl, rfl⟩) | (go_at_call 125; refine (C2.out _).mono ?_; rintro e w' ⟨rfl, hb⟩; replace hB := hB.trans (hb.mono hB.size); replace hX := boxB hX hb; clear hb) | (go_at_call 120; refine (C3.out _).mono ?_; rintro e w' ⟨rfl, hb⟩; replace hB := hB.trans (hb.mono hB.size); replace hX := boxB hX hb; clear hb))
  go_ret2
  exact ⟨ret_text HX.out.symm rfl, hB⟩
theorem of_any (f : ByteArray) (q t z m : Int) (w : World) : Calls Tryz.prog 117 #[.string f, .agg #[.int .i64 q, .int .i64 t, .int .i64 z, .int .i64 m]] w fun e w' => e = .returned (.tuple #[.string (imgS f q t z m), .int .i64 (errI (imgOk f q t z m))]) ∧ Below w.heap.size w w' := by
  cases h : imgOk f q t z m with
  | false => rw [imgS_no h]; exact of_no f q t z m w h
  | true =>
    obtain ⟨_, hr⟩ := imgOk_parts.1 h
    obtain ⟨_, _, h1, h2, h3, h4, _⟩ := recMay_parts.1 hr
    obtain ⟨a, rfl⟩ := Int.eq_ofNat_of_zero_le h1
    obtain ⟨b, rfl⟩ := Int.eq_ofNat_of_zero_le (show 0 ≤ z by omega)
    exact of_yes f q a b m w h
set_option maxRecDepth 100000 in
set_option maxHeartbeats 400000 in
theorem good_any (f : ByteArray) (q t z m : Int) (w : World) : Calls Tryz.prog 131 #[.string f, .agg #[.int .i64 q, .int .i64 t, .int .i64 z, .int .i64 m]] w fun e w' => e = .returned (.tuple #[.bool (goodB f q t z m), .int .i64 (errI (imgOk f q t z m))]) ∧ Below w.heap.size w w' := by
  have hB := (Below.refl w.heap.size w).alloc (Nat.le_refl _) (.cells #[.int .i64 q, .int .i64 t, .int .i64 z, .int .i64 m] 88)
  have hX := boxM w (.int .i64 q) (.int .i64 t) (.int .i64 z) (.int .i64 m) 88
  have HI := hide (fun w => of_any f q t z m w)
  have hsz := size_imgS f q t z m
  have HC := hide (fun w => CrcSum.sum_any (imgS f q t z m) w (by omega))
  cases h : imgOk f q t z m with
  | false =>
    have HG : Hid (goodB f q t z m = false) := by unfold goodB; rw [h]; rfl
    rw [h] at HI
    clear h
    generalize imgS f q t z m = S at *
    have e0 : errI false = 600 := rfl
    go_enter Tryz.func131, Tryz.ntmps131
    go_wp2_with (go_at_call 117; refine (HI.out _).mono ?_; rintro e w' ⟨rfl, hb⟩; replace hB := hB.trans (hb.mono hB.size); replace hX := boxB hX hb; clear hb)
    go_ret2
    exact ⟨ret_good HG.out.symm rfl, hB⟩
  | true =>
    have HG : Hid (goodB f q t z m = decide (((Crc.sum (imgS f q t z m).data.toList : Nat) : Int) = m)) := by unfold goodB sumI; rw [h, imgS_ok h]; rfl
    rw [h] at HI
    clear h
    generalize imgS f q t z m = S at *
    generalize Crc.sum S.data.toList = C at *
    have e0 : errI true = 0 := rfl
    go_enter Tryz.func131, Tryz.ntmps131
    go_wp2_with (go_at_call 117; refine (HI.out _).mono ?_; rintro e w' ⟨rfl, hb⟩; replace hB := hB.trans (hb.mono hB.size); replace hX := boxB hX hb; clear hb)
    go_quiet ((go_at_call 135; exact Calls.quiet_of_same (HC.out _)))
    go_wp2
    go_ret2
    exact ⟨ret_good HG.out.symm rfl, bel_drewN hB _⟩
end Go.Proofs.YtmlfkbkpkgaefaaGreatDoor.ImgWalk

/- What is known of the laws' flash of one record, its image and the next record. No program is named here. -/
namespace Go.Proofs.YtmlfkbkpkgaefaaGreatDoor.Held
open Go.Proofs.YtmlfkbkpkgaefaaGreatDoor Go.Proofs.YtmlfkbkpkgaefaaGreatDoor.Bytes Go.Proofs.YtmlfkbkpkgaefaaGreatDoor.Ent Go.Proofs.YtmlfkbkpkgaefaaGreatDoor.Ops Go.Proofs.YtmlfkbkpkgaefaaGreatDoor.Jou Go.Proofs.YtmlfkbkpkgaefaaGreatDoor.Act

theorem get_ext (f : ByteArray) (p n i : Nat) : (f.extract p (p + n)).data.toList[i]? = if i < n then f.data.toList[p + i]? else none := by
  rw [list_extract, List.getElem?_take, List.getElem?_drop, show p + n - p = n from by omega]
theorem ext_eq {f g : ByteArray} {p n : Nat} (h : ∀ i, p ≤ i → i < p + n → f.data.toList[i]? = g.data.toList[i]?) : f.extract p (p + n) = g.extract p (p + n) := by
  apply ba_ext
  apply List.ext_getElem?
  intro i
  rw [get_ext, get_ext]
  split
  · exact h _ (by omega) (by omega)
  · rfl
theorem cut_eq {f g : ByteArray} {t z : Int} (h : ∀ i, 192 + 288 * t.toNat ≤ i → i < 192 + 288 * t.toNat + z.toNat → f.data.toList[i]? = g.data.toList[i]?) : cutI f t z = cutI g t z := ext_eq h
theorem held_cut : cutI heldS 0 12 = ab := by
  rw [← bare_cut]
  exact cut_eq fun i h _ => held_out i (by omega)
theorem held_sum : sumI heldS 0 12 = sumAb := by unfold sumI sumAb; rw [held_cut]
theorem held_top : topI heldS = 1 := by unfold topI; rw [held_scan]; rfl
theorem sumAb_lt : 0 ≤ sumAb ∧ sumAb ≤ 4294967295 := by
  have := sumI_lt heldS 0 12
  rw [held_sum] at this
  exact this
theorem held_rof : rofQ heldS 0 12 = 2 ∧ rofT heldS 0 12 = 0 ∧ rofZ heldS 0 12 = 12 ∧ rofM heldS 0 12 = sumAb ∧ errS heldS 0 12 = 0 := by
  obtain ⟨h1, h2, h3, h4, h5⟩ := rof_yes (f := heldS) (t := 0) (z := 12) (rofOk_parts.2 ⟨size_heldS, by omega, by omega, by omega, by omega⟩) (by rw [held_top]; omega)
  rw [held_top] at h1
  rw [held_sum] at h4
  exact ⟨h1, h2, h3, h4, h5⟩
theorem held_imgOk (m : Int) (h : 0 ≤ m ∧ m ≤ 4294967295) (q : Int) (hq : 1 ≤ q ∧ q ≤ 1048576) : imgOk heldS q 0 12 m = true :=
  imgOk_parts.2 ⟨size_heldS, recMay_parts.2 ⟨hq.1, hq.2, by omega, by omega, by omega, by omega, h.1, h.2⟩⟩
theorem held_img (m : Int) (h : 0 ≤ m ∧ m ≤ 4294967295) (q : Int) (hq : 1 ≤ q ∧ q ≤ 1048576) : imgS heldS q 0 12 m = ab := by rw [imgS_ok (held_imgOk m h q hq), held_cut]
theorem held_good (m : Int) (h : 0 ≤ m ∧ m ≤ 4294967295) (q : Int) (hq : 1 ≤ q ∧ q ≤ 1048576) : goodB heldS q 0 12 m = decide (sumAb = m) := by unfold goodB; rw [held_imgOk m h q hq, held_sum, Bool.true_and]
def sumAb1 : Int := bits .xor .i64 sumAb 1
theorem sumAb1_ne : ¬ sumAb = sumAb1 ∧ 0 ≤ sumAb1 ∧ sumAb1 ≤ 4294967295 := by decide +kernel
end Go.Proofs.YtmlfkbkpkgaefaaGreatDoor.Held

/- A flash of which one byte is turned: its images, and their sums. No program is named here. -/
namespace Go.Proofs.YtmlfkbkpkgaefaaGreatDoor.Turn
open Go.Proofs.YtmlfkbkpkgaefaaGreatDoor Go.Proofs.YtmlfkbkpkgaefaaGreatDoor.Bytes Go.Proofs.YtmlfkbkpkgaefaaGreatDoor.Ent Go.Proofs.YtmlfkbkpkgaefaaGreatDoor.Ops Go.Proofs.YtmlfkbkpkgaefaaGreatDoor.Jou Go.Proofs.YtmlfkbkpkgaefaaGreatDoor.Act Go.Proofs.YtmlfkbkpkgaefaaGreatDoor.Held

theorem sum_set (l : List UInt8) (i : Nat) (h : i < l.length) (b : UInt8) (he : Crc.sum (l.set i b) = Crc.sum l) : b = l[i] := by
  have e1 : l.set i b = l.take i ++ b :: l.drop (i + 1) := by rw [List.set_eq_take_append_cons_drop, if_pos h]
  have e2 : l = l.take i ++ l[i] :: l.drop (i + 1) := by rw [← List.drop_eq_getElem_cons h, List.take_append_drop]
  have h1 : Crc.rest 4294967295 (l.set i b) = Crc.rest 4294967295 l := Crc.xor_inj_right _ _ 4294967295 he
  rw [e1] at h1
  generalize l[i] = a at *
  rw [e2, Crc.rest_append, Crc.rest_append, Crc.rest_cons, Crc.rest_cons] at h1
  have hr : Crc.rest 4294967295 (l.take i) < 4294967296 := Crc.rest_lt _ _ (by omega)
  have e3 : (l.take i ++ a :: l.drop (i + 1)).take i = l.take i := by
    rw [List.take_append_of_le_length (by rw [List.length_take]; omega), List.take_take, Nat.min_self]
  have e4 : (l.take i ++ a :: l.drop (i + 1)).drop (i + 1) = l.drop (i + 1) := by rw [← e2]
  rw [e3, e4] at h1
  have h2 := Crc.rest_inj _ _ _ (Crc.byte1_lt _ _ hr) (Crc.byte1_lt _ _ hr) h1
  have h3 := Crc.bitN_inj 8 _ _ (Crc.xor_lt _ _ hr (Crc.u8_lt b)) (Crc.xor_lt _ _ hr (Crc.u8_lt a)) h2
  have h4 : b.toNat = a.toNat := by
    rw [Nat.xor_comm, Nat.xor_comm _ a.toNat] at h3
    exact Crc.xor_inj_right _ _ _ h3
  exact UInt8.toNat_inj.1 h4
theorem xor_ne (a c : UInt8) (h : ¬ c = 0) : ¬ a ^^^ c = a := fun e => h (Crc.xor_self_zero a c e.symm)

/-- f, its byte k turned by c. -/
def turnL (l : List UInt8) (k : Nat) (c : UInt8) : List UInt8 := l.set k (l.getD k 0 ^^^ c)
def turnS (f : ByteArray) (k : Nat) (c : UInt8) : ByteArray := ⟨(turnL f.data.toList k c).toArray⟩
theorem list_turnS (f : ByteArray) (k : Nat) (c : UInt8) : (turnS f k c).data.toList = turnL f.data.toList k c := by unfold turnS; simp
theorem size_turnS (f : ByteArray) (k : Nat) (c : UInt8) : (turnS f k c).size = f.size := by
  rw [← Nor.size_list, list_turnS, ← Nor.size_list]
  unfold turnL
  rw [List.length_set]
theorem cut_out (f : ByteArray) (k : Nat) (c : UInt8) (t z : Int) (h : k < 192 + 288 * t.toNat ∨ 192 + 288 * t.toNat + z.toNat ≤ k) : cutI (turnS f k c) t z = cutI f t z := by
  refine cut_eq fun i h1 h2 => ?_
  rw [list_turnS]
  unfold turnL
  rw [List.getElem?_set_ne (by omega)]
theorem cut_in (f : ByteArray) (k : Nat) (c : UInt8) (t z : Int) (h1 : 192 + 288 * t.toNat ≤ k) (h2 : k < 192 + 288 * t.toNat + z.toNat) : (cutI (turnS f k c) t z).data.toList = turnL (cutI f t z).data.toList (k - (192 + 288 * t.toNat)) c := by
  unfold cutI turnL
  generalize 192 + 288 * t.toNat = p at *
  rw [list_extract, list_extract, list_turnS]
  unfold turnL
  rw [List.drop_set, if_neg (by omega), List.take_set]
  congr 1
  congr 1
  rw [List.getD_eq_getElem?_getD, List.getD_eq_getElem?_getD, List.getElem?_take, if_pos (by omega), List.getElem?_drop, show p + (k - p) = k from by omega]
theorem sum_in (f : ByteArray) (k : Nat) (c : UInt8) (hc : ¬ c = 0) (t z : Int) (h1 : 192 + 288 * t.toNat ≤ k) (h2 : k < 192 + 288 * t.toNat + z.toNat) (h3 : 192 + 288 * t.toNat + z.toNat ≤ f.size) : ¬ sumI (turnS f k c) t z = sumI f t z := by
  unfold sumI
  intro he
  have he := Int.ofNat_inj.1 he
  rw [cut_in f k c t z h1 h2] at he
  have hl : k - (192 + 288 * t.toNat) < (cutI f t z).data.toList.length := by
    rw [Nor.size_list]
    unfold cutI
    rw [ByteArray.size_extract]
    omega
  have := sum_set _ _ hl _ he
  rw [List.getD_eq_getElem?_getD, List.getElem?_eq_getElem hl, Option.getD_some] at this
  exact xor_ne _ c hc this
theorem cut_ne (f : ByteArray) (k : Nat) (c : UInt8) (hc : ¬ c = 0) (t z : Int) (h1 : 192 + 288 * t.toNat ≤ k) (h2 : k < 192 + 288 * t.toNat + z.toNat) (h3 : 192 + 288 * t.toNat + z.toNat ≤ f.size) : ¬ cutI (turnS f k c) t z = cutI f t z := fun e => sum_in f k c hc t z h1 h2 h3 (by unfold sumI; rw [e])
theorem imgOk_turn (f : ByteArray) (k : Nat) (c : UInt8) (q t z m : Int) : imgOk (turnS f k c) q t z m = imgOk f q t z m := by
  unfold imgOk mayF
  rw [size_turnS]
/-- The byte '1 + y' is none that leaves. -/
def oneMore (y : Nat) : UInt8 := UInt8.ofNat (1 + y)
theorem oneMore_nat (y : Nat) (h : y ≤ 127) : (1 + (y : Int)) = ((oneMore y).toNat : Int) := by
  unfold oneMore
  rw [UInt8.toNat_ofNat']
  omega
theorem oneMore_ne (y : Nat) (h : y ≤ 127) : ¬ oneMore y = 0 := fun e => by
  have := oneMore_nat y h
  rw [e, show (((0 : UInt8).toNat : Nat) : Int) = 0 from rfl] at this
  omega
end Go.Proofs.YtmlfkbkpkgaefaaGreatDoor.Turn
