/- A text's words programmed on any flash, steps done in a row, and the flash of one record that the laws ask about: its bytes, its records, its first blank place. No program is named here. -/
import Derived.Test.YthpoefaipmcceaaActMath
namespace Go.Proofs.Ythpoefaipmcceaa.Held
open Go.Proofs.Ythpoefaipmcceaa Go.Proofs.Ythpoefaipmcceaa.Bytes Go.Proofs.Ythpoefaipmcceaa.Ent Go.Proofs.Ythpoefaipmcceaa.Ops Go.Proofs.Ythpoefaipmcceaa.Jou Go.Proofs.Ythpoefaipmcceaa.Act

def overL (f l : List UInt8) (p n : Nat) : List UInt8 := f.mapIdx fun i c => if p ≤ i ∧ i < p + 4 * n then c &&& l.getD (i - p) 255 else c
theorem get_overL (f l : List UInt8) (p n i : Nat) : (overL f l p n)[i]? = f[i]?.map fun c => if p ≤ i ∧ i < p + 4 * n then c &&& l.getD (i - p) 255 else c := by simp [overL]
theorem length_overL (f l : List UInt8) (p n : Nat) : (overL f l p n).length = f.length := by simp [overL]
theorem overL_0 (f l : List UInt8) (p : Nat) : overL f l p 0 = f := by
  apply List.ext_getElem?
  intro i
  rw [get_overL]
  cases f[i]? with
  | none => rfl
  | some c => simp only [Option.map_some]; rw [if_neg (by omega)]
theorem overL_succ (f l : List UInt8) (p n : Nat) : Nor.tornL (overL f l p n) (wordL l n) (p + 4 * n) 32 = overL f l p (n + 1) := by
  apply List.ext_getElem?
  intro i
  rw [Nor.get_tornL, get_overL, get_overL]
  cases f[i]? with
  | none => rfl
  | some c =>
    simp only [Option.map_some]
    by_cases h1 : p + 4 * n ≤ i ∧ i < p + 4 * n + 4
    · rw [if_pos h1, if_neg (by omega), if_pos (by omega), Nor.keep_8 _ _ (by omega), wordL_get _ _ _ (by omega), show 4 * n + (i - (p + 4 * n)) = i - p from by omega]
    · rw [if_neg h1]
      by_cases h2 : p ≤ i ∧ i < p + 4 * n
      · rw [if_pos h2, if_pos (by omega)]
      · rw [if_neg h2, if_neg (by omega)]
/-- The first n words of t, programmed on f from p on. -/
def overS (f t : ByteArray) (p n : Nat) : ByteArray := ⟨(overL f.data.toList t.data.toList p n).toArray⟩
theorem list_overS (f t : ByteArray) (p n : Nat) : (overS f t p n).data.toList = overL f.data.toList t.data.toList p n := mk_toList _
theorem size_overS (f t : ByteArray) (p n : Nat) : (overS f t p n).size = f.size := by rw [← Nor.size_list, list_overS, length_overL, Nor.size_list]
theorem overS_0 (f t : ByteArray) (p : Nat) : overS f t p 0 = f := by apply ba_ext; rw [list_overS, overL_0]
theorem over_step {f : ByteArray} {p : Nat} {t : ByteArray} (hf : f.size = 768) (h : wordsOk (p : Int) t = true) (i : Nat) (hi : i < wordsN t) : cutOk (overS f t p i) false ((p : Int) + 4 * (i : Int)) (wordS t i) 96 = true ∧ cutS (overS f t p i) false ((p : Int) + 4 * (i : Int)) (wordS t i) 96 = overS f t p (i + 1) := by
  have e : cutOk (overS f t p i) false ((p : Int) + 4 * (i : Int)) (wordS t i) 96 = true := cutOk_parts.2 ⟨by rw [size_overS]; exact hf, wordsMay h i hi, by omega, by omega⟩
  refine ⟨e, Nor.ba_eq ?_⟩
  have hs : ∀ (f t : List UInt8) (q : Nat), stepL f t false q 96 = Nor.tornL f t q 32 := fun _ _ _ => rfl
  have h96 : (96 : Int).toNat = 96 := rfl
  rw [list_cutS e, list_overS, list_overS, h96, hs, show ((p : Int) + 4 * (i : Int)).toNat = p + 4 * i from by omega]
  exact overL_succ _ _ _ _

/-- Steps done in a row. -/
def doL (f : ByteArray) (l : List FOp) : ByteArray := l.foldl (fun g o => cutS g o.er o.pl o.tx 96) f
theorem doL_nil (f : ByteArray) : doL f [] = f := rfl
theorem doL_append (f : ByteArray) (l m : List FOp) : doL f (l ++ m) = doL (doL f l) m := by unfold doL; rw [List.foldl_append]
theorem doL_take (f : ByteArray) (l : List FOp) (n : Nat) (h : n < l.length) : doL f (l.take (n + 1)) = cutS (doL f (l.take n)) l[n].er l[n].pl l[n].tx 96 := by
  rw [List.take_succ_eq_append_getElem h, doL_append]
  rfl
theorem doL_words {f : ByteArray} {p : Nat} {t : ByteArray} (hf : f.size = 768) (h : wordsOk (p : Int) t = true) (n : Nat) (hn : n ≤ wordsN t) : doL f (wordsTo (p : Int) t n) = overS f t p n := by
  induction n with
  | zero => rw [overS_0]; rfl
  | succ n ih =>
    rw [wordsTo_succ, doL_append, ih (by omega)]
    exact (over_step hf h n (by omega)).2
/-- What lies where the words went, if it was blank; what lies elsewhere. -/
theorem get_overS (f t : ByteArray) (p n i : Nat) : (overS f t p n).data.toList[i]? = f.data.toList[i]?.map fun c => if p ≤ i ∧ i < p + 4 * n then c &&& t.data.toList.getD (i - p) 255 else c := by rw [list_overS, get_overL]
theorem over_out (f t : ByteArray) (p n i : Nat) (h : i < p ∨ p + 4 * n ≤ i) : (overS f t p n).data.toList[i]? = f.data.toList[i]? := by
  rw [get_overS]
  cases f.data.toList[i]? with
  | none => rfl
  | some c => simp only [Option.map_some]; rw [if_neg (by omega)]
theorem over_in (f t : ByteArray) (p n i : Nat) (h1 : p ≤ i) (h2 : i < p + 4 * n) (hb : f.data.toList[i]? = some 255) : (overS f t p n).data.toList[i]? = some (t.data.toList.getD (i - p) 255) := by
  rw [get_overS, hb]
  simp only [Option.map_some]
  rw [if_pos ⟨h1, h2⟩, and_ff]
theorem over_mid (f t : ByteArray) (p n : Nat) (hn : t.size ≤ 4 * n) (hb : ∀ i, i < t.size → f.data.toList[p + i]? = some 255) : (overS f t p n).extract p (p + t.size) = t := by
  apply ba_ext
  rw [list_extract, show p + t.size - p = t.size from by omega]
  apply List.ext_getElem?
  intro i
  by_cases hi : i < t.size
  · rw [List.getElem?_take_of_lt hi, List.getElem?_drop, over_in f t p n (p + i) (by omega) (by omega) (hb i hi), show p + i - p = i from by omega, List.getD_eq_getElem?_getD, List.getElem?_eq_getElem (by rw [Nor.size_list]; exact hi)]
    rfl
  · rw [List.getElem?_eq_none (by rw [List.length_take]; omega), List.getElem?_eq_none (by rw [Nor.size_list]; omega)]

def ab : ByteArray := ⟨#[97, 98, 97, 98, 97, 98, 97, 98, 97, 98, 97, 98]⟩
theorem size_ab : ab.size = 12 := rfl
theorem words_ab : wordsOk ((192 : Nat) : Int) ab = true := by decide
theorem n_ab : wordsN ab = 3 := rfl
/-- The flash whose slot 0 bears "ab" many times, without a record. -/
def bareS : ByteArray := overS Nor.blankS ab 192 3
theorem size_bareS : bareS.size = 768 := by unfold bareS; rw [size_overS, Nor.size_blankS]
theorem list_blankS : Nor.blankS.data.toList = Nor.blankL := mk_toList _
theorem blank_get (i : Nat) (h : i < 768) : Nor.blankS.data.toList[i]? = some 255 := by rw [list_blankS]; exact Nor.get_blankL i h
theorem bare_get (i : Nat) (h : i < 192) : bareS.data.toList[i]? = some 255 := by unfold bareS; rw [over_out _ _ _ _ _ (.inl h)]; exact blank_get i (by omega)
theorem bare_slot (j : Nat) (h : j < 8) : slotS bareS j = full24 := slot_full fun i hi => bare_get _ (by omega)
theorem found_none (f : ByteArray) (n : Nat) (h : ∀ j, j < n → slotS f j = full24) : foundTo f n = [] := by
  induction n with
  | zero => rfl
  | succ n ih => rw [foundTo_no f n (by rw [h n (by omega)]; exact get_full24), ih (fun j hj => h j (by omega))]
theorem bare_scan : scanL bareS = [] := by rw [scan_ok size_bareS]; exact found_none bareS 8 bare_slot
theorem bare_top : topI bareS = 0 := by unfold topI; rw [bare_scan]; rfl
theorem bare_cut : cutI bareS 0 12 = ab := over_mid Nor.blankS ab 192 3 (by decide) (fun i hi => blank_get _ (by rw [size_ab] at hi; omega))
def sumAb : Int := ((Crc.sum ab.data.toList : Nat) : Int)
theorem bare_sum : sumI bareS 0 12 = sumAb := by unfold sumI sumAb; rw [bare_cut]
theorem may_ab : recMay 1 0 12 sumAb = true := by
  have h := sumI_lt bareS 0 12
  rw [bare_sum] at h
  exact recMay_parts.2 ⟨by omega, by omega, by omega, by omega, by omega, by omega, h.1, h.2⟩
theorem bare_rof : rofQ bareS 0 12 = 1 ∧ rofT bareS 0 12 = 0 ∧ rofZ bareS 0 12 = 12 ∧ rofM bareS 0 12 = sumAb ∧ errS bareS 0 12 = 0 := by
  have h1 : rofOk bareS 0 12 = true := rofOk_parts.2 ⟨size_bareS, by omega, by omega, by omega, by omega⟩
  have h2 : topI bareS < 1048576 := by rw [bare_top]; omega
  have h := rof_yes h1 h2
  rw [bare_top, bare_sum] at h
  exact h
theorem bare_act : actO bareS = none ∧ actV bareS = zeroP ∧ errA bareS = 701 := act_none (mayF_t size_bareS) (by unfold bestO; rw [bare_scan]; rfl)
theorem bare_home : homeI bareS = 0 := by unfold homeI; rw [bare_act.2.1]; rfl
theorem bare_free : freeAt bareS 0 = 0 ∧ freeIs bareS 0 = true :=
  free_at (f := bareS) (s := 0) (j := 0) (freeOk_parts.2 ⟨size_bareS, by omega, by omega⟩) (fun i h1 h2 => by omega) (blankP_t (bare_slot 0 (by omega))) (by omega) (by omega)
theorem bare_app : appL bareS 1 0 12 sumAb = wordsTo ((0 : Nat) : Int) (putS 1 0 12 sumAb) 6 := by
  have h : appOk bareS 1 0 12 sumAb = true := imgOk_parts.2 ⟨size_bareS, may_ab⟩
  rw [app_ok h]
  unfold appE appA
  rw [bare_home, bare_free.2, bare_free.1]
  rfl
/-- The flash of one record. -/
def heldS : ByteArray := overS bareS (putS 1 0 12 sumAb) 0 6
theorem size_heldS : heldS.size = 768 := by unfold heldS; rw [size_overS, size_bareS]
theorem held_first : doL Nor.blankS (wordsL 192 ab) = bareS := by
  have h : wordsL 192 ab = wordsTo ((192 : Nat) : Int) ab 3 := wordsL_ok words_ab
  rw [h]
  exact doL_words Nor.size_blankS words_ab 3 (Nat.le_refl _)
theorem held_second : doL bareS (appL bareS 1 0 12 sumAb) = heldS := by
  rw [bare_app]
  have hs := size_putS may_ab
  exact doL_words size_bareS (wordsOk_parts.2 ⟨by omega, by omega, by omega, by rw [hs]; omega⟩) 6 (by unfold wordsN; rw [hs]; omega)
theorem held_slot0 : slotS heldS 0 = putS 1 0 12 sumAb := by
  have hs := size_putS may_ab
  have h := over_mid bareS (putS 1 0 12 sumAb) 0 6 (by omega) (fun i hi => bare_get _ (by omega))
  rw [hs] at h
  exact h
theorem held_out (i : Nat) (h : 24 ≤ i) : heldS.data.toList[i]? = bareS.data.toList[i]? := by unfold heldS; exact over_out _ _ _ _ _ (.inr (by omega))
theorem held_slot (j : Nat) (h0 : 1 ≤ j) (h : j < 8) : slotS heldS j = full24 := slot_full fun i hi => by rw [held_out _ (by omega)]; exact bare_get _ (by omega)
theorem held_scan : scanL heldS = [⟨0, 1, 0, 12, sumAb⟩] := by
  rw [scan_ok size_heldS, found_one (p := 0) may_ab held_slot0 8 (fun j h1 h2 => held_slot j (by omega) h1)]
  rfl
theorem held_rec : getOk (slotS heldS 0) = true := (recAt_put may_ab held_slot0).1
theorem held_full : ¬ slotS heldS 0 = full24 := fun e => by have h := held_rec; rw [e, get_full24] at h; cases h
theorem held_freeOk : freeOk heldS 0 = true := freeOk_parts.2 ⟨size_heldS, by omega, by omega⟩
theorem held_free : freeAt heldS 0 = 24 ∧ freeIs heldS 0 = true :=
  free_at (f := heldS) (s := 0) (j := 1) held_freeOk (fun i h1 h2 => by obtain rfl : i = 0 := (by omega); exact blankP_f held_full) (blankP_t (held_slot 1 (by omega) (by omega))) (by omega) (by omega)
theorem held_freeNo : freeOk heldS 2 = false := by unfold freeOk; exact decide_eq_false (by omega)
end Go.Proofs.Ythpoefaipmcceaa.Held
