/- Images, which of them is the active one, the next number, where the next record goes, a staged image's record, as plain functions of a flash. No program is named here. -/
import Derived.Test.YthpoefaipmcceaaJouMath
import Derived.Test.YthpoefaipmcceaaCrcMath
namespace Go.Proofs.Ythpoefaipmcceaa.Act
open Go.Proofs.Ythpoefaipmcceaa Go.Proofs.Ythpoefaipmcceaa.Bytes Go.Proofs.Ythpoefaipmcceaa.Ent Go.Proofs.Ythpoefaipmcceaa.Ops Go.Proofs.Ythpoefaipmcceaa.Jou

def baseOk (t : Int) : Bool := decide (0 ≤ t ∧ t ≤ 1)
def baseI (t : Int) : Int := if baseOk t then 192 + 288 * t else 0
def errI (ok : Bool) : Int := if ok then 0 else 600
theorem errI_t {ok : Bool} (h : ok = true) : errI ok = 0 := by rw [h]; rfl
theorem errI_f {ok : Bool} (h : ok = false) : errI ok = 600 := by rw [h]; rfl
theorem baseOk_parts {t : Int} : baseOk t = true ↔ 0 ≤ t ∧ t ≤ 1 := by unfold baseOk; exact decide_eq_true_iff
def imgOk (f : ByteArray) (q t z m : Int) : Bool := mayF f && recMay q t z m
theorem imgOk_parts {f : ByteArray} {q t z m : Int} : imgOk f q t z m = true ↔ f.size = 768 ∧ recMay q t z m = true := by
  unfold imgOk mayF
  rw [Bool.and_eq_true, decide_eq_true_iff]
/-- The first z bytes of slot t. -/
def cutI (f : ByteArray) (t z : Int) : ByteArray := f.extract (192 + 288 * t.toNat) (192 + 288 * t.toNat + z.toNat)
def imgS (f : ByteArray) (q t z m : Int) : ByteArray := if imgOk f q t z m then cutI f t z else ⟨#[]⟩
theorem imgS_ok {f : ByteArray} {q t z m : Int} (h : imgOk f q t z m = true) : imgS f q t z m = cutI f t z := by unfold imgS; rw [if_pos h]
theorem imgS_no {f : ByteArray} {q t z m : Int} (h : imgOk f q t z m = false) : imgS f q t z m = ⟨#[]⟩ := by unfold imgS; rw [h]; rfl
def sumI (f : ByteArray) (t z : Int) : Int := ((Crc.sum (cutI f t z).data.toList : Nat) : Int)
theorem sumI_lt (f : ByteArray) (t z : Int) : 0 ≤ sumI f t z ∧ sumI f t z ≤ 4294967295 := by
  unfold sumI
  have := Crc.sum_lt (cutI f t z).data.toList
  omega
def goodB (f : ByteArray) (q t z m : Int) : Bool := imgOk f q t z m && decide (sumI f t z = m)
theorem size_cutI {f : ByteArray} {t z : Int} (hf : f.size = 768) (h1 : 0 ≤ t) (h2 : t ≤ 1) (h3 : 0 ≤ z) (h4 : z ≤ 288) : (cutI f t z).size = z.toNat := by
  unfold cutI
  rw [ByteArray.size_extract]
  omega
theorem size_imgS (f : ByteArray) (q t z m : Int) : (imgS f q t z m).size ≤ 288 := by
  cases h : imgOk f q t z m with
  | false => rw [imgS_no h]; decide
  | true =>
    obtain ⟨hf, hr⟩ := imgOk_parts.1 h
    obtain ⟨_, _, h1, h2, h3, h4, _⟩ := recMay_parts.1 hr
    rw [imgS_ok h, size_cutI hf h1 h2 (by omega) h4]
    omega

def zeroP : FPl := ⟨0, 0, 0, 0, 0⟩
def goodP (f : ByteArray) (p : FPl) : Bool := goodB f p.pq p.pt p.pz p.pm
def beats (f : ByteArray) (ps : List FPl) (b : Option Nat) (i : Nat) : Bool := goodP f (ps.getD i zeroP) && (match b with | none => true | some k => decide ((ps.getD k zeroP).pq ≤ (ps.getD i zeroP).pq))
def bestTo (f : ByteArray) (ps : List FPl) : Nat → Option Nat
  | 0 => none
  | n + 1 => if beats f ps (bestTo f ps n) n then some n else bestTo f ps n
theorem bestTo_lt {f : ByteArray} {ps : List FPl} {n k : Nat} (h : bestTo f ps n = some k) : k < n := by
  induction n with
  | zero => cases h
  | succ n ih =>
    unfold bestTo at h
    by_cases g : beats f ps (bestTo f ps n) n = true
    · rw [if_pos g] at h
      cases h
      omega
    · rw [if_neg g] at h
      have := ih h
      omega
theorem best_bad {f : ByteArray} {ps : List FPl} {n : Nat} (h : n < ps.length) (hg : goodP f ps[n] = false) : bestTo f ps (n + 1) = bestTo f ps n := by
  show (if beats f ps (bestTo f ps n) n then some n else bestTo f ps n) = _
  have e : ps.getD n zeroP = ps[n] := by rw [List.getD_eq_getElem?_getD, List.getElem?_eq_getElem h]; rfl
  unfold beats
  rw [e, hg]
  rfl
theorem best_first {f : ByteArray} {ps : List FPl} {n : Nat} (h : n < ps.length) (hg : goodP f ps[n] = true) (hb : bestTo f ps n = none) : bestTo f ps (n + 1) = some n := by
  show (if beats f ps (bestTo f ps n) n then some n else bestTo f ps n) = _
  have e : ps.getD n zeroP = ps[n] := by rw [List.getD_eq_getElem?_getD, List.getElem?_eq_getElem h]; rfl
  unfold beats
  rw [e, hg, hb]
  rfl
theorem best_next {f : ByteArray} {ps : List FPl} {n k : Nat} (h : n < ps.length) (hk : k < ps.length) (hg : goodP f ps[n] = true) (hb : bestTo f ps n = some k) : bestTo f ps (n + 1) = if ps[k].pq ≤ ps[n].pq then some n else some k := by
  show (if beats f ps (bestTo f ps n) n then some n else bestTo f ps n) = _
  have e : ps.getD n zeroP = ps[n] := by rw [List.getD_eq_getElem?_getD, List.getElem?_eq_getElem h]; rfl
  have e2 : ps.getD k zeroP = ps[k] := by rw [List.getD_eq_getElem?_getD, List.getElem?_eq_getElem hk]; rfl
  unfold beats
  rw [hb]
  simp only [e, e2, hg, Bool.true_and, decide_eq_true_iff]
def bestI : Option Nat → Int
  | none => -1
  | some k => (k : Int)
def bestO (f : ByteArray) : Option Nat := bestTo f (scanL f) (scanL f).length
def actO (f : ByteArray) : Option FPl := (bestO f).map fun k => (scanL f).getD k zeroP
def actV (f : ByteArray) : FPl := (actO f).getD zeroP
def errA (f : ByteArray) : Int := if mayF f then (match actO f with | some _ => 0 | none => 701) else 700
theorem act_no {f : ByteArray} (h : mayF f = false) : actO f = none ∧ actV f = zeroP ∧ errA f = 700 := by
  have e : scanL f = [] := by unfold scanL; rw [h]; rfl
  have e2 : actO f = none := by unfold actO bestO; rw [e]; rfl
  refine ⟨e2, ?_, ?_⟩
  · unfold actV; rw [e2]; rfl
  · unfold errA; rw [h]; rfl
theorem act_none {f : ByteArray} (h : mayF f = true) (hb : bestO f = none) : actO f = none ∧ actV f = zeroP ∧ errA f = 701 := by
  have e : actO f = none := by unfold actO; rw [hb]; rfl
  refine ⟨e, ?_, ?_⟩
  · unfold actV; rw [e]; rfl
  · unfold errA; rw [h, e]; rfl
theorem act_some {f : ByteArray} (h : mayF f = true) {k : Nat} (hk : k < (scanL f).length) (hb : bestO f = some k) : actO f = some (scanL f)[k] ∧ actV f = (scanL f)[k] ∧ errA f = 0 := by
  have e : actO f = some (scanL f)[k] := by
    unfold actO
    rw [hb, Option.map_some, List.getD_eq_getElem?_getD, List.getElem?_eq_getElem hk]
    rfl
  refine ⟨e, ?_, ?_⟩
  · unfold actV; rw [e]; rfl
  · unfold errA; rw [h, e]; rfl
theorem act_mem {f : ByteArray} {p : FPl} (h : actO f = some p) : p ∈ scanL f := by
  unfold actO at h
  cases hb : bestO f with
  | none => rw [hb] at h; cases h
  | some k =>
    rw [hb] at h
    have hk := bestTo_lt hb
    rw [Option.map_some, List.getD_eq_getElem?_getD, List.getElem?_eq_getElem hk] at h
    cases h
    exact List.getElem_mem hk

def topOf (l : List FPl) : Int := l.foldl (fun x p => max x p.pq) 0
theorem topOf_take (l : List FPl) (n : Nat) (h : n < l.length) : topOf (l.take (n + 1)) = max (topOf (l.take n)) l[n].pq := by
  unfold topOf
  rw [List.take_succ_eq_append_getElem h, List.foldl_append]
  rfl
theorem topOf_bound (l : List FPl) (h : ∀ p ∈ l, 1 ≤ p.pq ∧ p.pq ≤ 1048576) : 0 ≤ topOf l ∧ topOf l ≤ 1048576 := by
  have key : ∀ (l : List FPl) (x : Int), 0 ≤ x → x ≤ 1048576 → (∀ p ∈ l, 1 ≤ p.pq ∧ p.pq ≤ 1048576) → 0 ≤ l.foldl (fun x p => max x p.pq) x ∧ l.foldl (fun x p => max x p.pq) x ≤ 1048576 := by
    intro l
    induction l with
    | nil => intro x h1 h2 _; exact ⟨h1, h2⟩
    | cons p l ih =>
      intro x h1 h2 hp
      have := hp p (List.mem_cons_self ..)
      exact ih (max x p.pq) (by omega) (by omega) (fun r hr => hp r (List.mem_cons_of_mem _ hr))
  exact key l 0 (by omega) (by omega) h
theorem scan_seq (f : ByteArray) : ∀ p ∈ scanL f, 1 ≤ p.pq ∧ p.pq ≤ 1048576 := by
  intro p hp
  obtain ⟨_, h, _⟩ := scan_mem hp
  have := recMay_parts.1 h
  omega
def topI (f : ByteArray) : Int := topOf (scanL f)
theorem topI_bound (f : ByteArray) : 0 ≤ topI f ∧ topI f ≤ 1048576 := topOf_bound _ (scan_seq f)
def nextOk (f : ByteArray) : Bool := mayF f && decide (topI f < 1048576)
def nextI (f : ByteArray) : Int := if nextOk f then topI f + 1 else 0
def errX (f : ByteArray) : Int := if mayF f then (if topI f < 1048576 then 0 else 801) else 800
theorem next_no {f : ByteArray} (h : mayF f = false) : nextI f = 0 ∧ errX f = 800 := by unfold nextI errX nextOk; rw [h]; exact ⟨rfl, rfl⟩
theorem next_full {f : ByteArray} (h : mayF f = true) (g : ¬ topI f < 1048576) : nextI f = 0 ∧ errX f = 801 := by
  unfold nextI errX nextOk
  rw [h, decide_eq_false g, if_neg g]
  exact ⟨rfl, rfl⟩
theorem next_yes {f : ByteArray} (h : mayF f = true) (g : topI f < 1048576) : nextI f = topI f + 1 ∧ errX f = 0 := by
  unfold nextI errX nextOk
  rw [h, decide_eq_true g, if_pos g]
  exact ⟨rfl, rfl⟩

def homeI (f : ByteArray) : Int := (actV f).pa / 96
theorem home_01 (f : ByteArray) : 0 ≤ homeI f ∧ homeI f ≤ 1 := by
  unfold homeI actV
  cases h : actO f with
  | none => show 0 ≤ (0 : Int) / 96 ∧ (0 : Int) / 96 ≤ 1; omega
  | some p =>
    obtain ⟨_, _, h1, h2⟩ := scan_mem (act_mem h)
    show 0 ≤ p.pa / 96 ∧ p.pa / 96 ≤ 1
    omega
def appOk (f : ByteArray) (q t z m : Int) : Bool := mayF f && recMay q t z m
def errP (ok : Bool) : Int := if ok then 0 else 800
def appA (f : ByteArray) : Int := if freeIs f (homeI f) then freeAt f (homeI f) else (1 - homeI f) * 96
def appE (f : ByteArray) : List FOp := if freeIs f (homeI f) then [] else [⟨true, (1 - homeI f) * 96, ⟨#[]⟩⟩]
def appL (f : ByteArray) (q t z m : Int) : List FOp := if appOk f q t z m then appE f ++ wordsTo (appA f) (putS q t z m) 6 else []
theorem app_no {f : ByteArray} {q t z m : Int} (h : appOk f q t z m = false) : appL f q t z m = [] := by unfold appL; rw [h]; rfl
theorem app_ok {f : ByteArray} {q t z m : Int} (h : appOk f q t z m = true) : appL f q t z m = appE f ++ wordsTo (appA f) (putS q t z m) 6 := by unfold appL; rw [if_pos h]
theorem appA_bound (f : ByteArray) : 0 ≤ appA f ∧ appA f ≤ 168 ∧ appA f % 24 = 0 := by
  have hh := home_01 f
  unfold appA
  cases h : freeIs f (homeI f) with
  | false => rw [if_neg (by decide)]; omega
  | true =>
    rw [if_pos rfl]
    obtain ⟨_, h1, h2, h3⟩ := free_in h
    omega
theorem app_words {f : ByteArray} {q t z m : Int} (h : appOk f q t z m = true) : wordsOk (appA f) (putS q t z m) = true ∧ wordsN (putS q t z m) = 6 ∧ wordsL (appA f) (putS q t z m) = wordsTo (appA f) (putS q t z m) 6 := by
  have hr : recMay q t z m = true := by unfold appOk at h; exact (Bool.and_eq_true _ _ ▸ h).2
  have hs := size_putS hr
  have ha := appA_bound f
  have h1 : wordsOk (appA f) (putS q t z m) = true := wordsOk_parts.2 ⟨by omega, by omega, by omega, by rw [hs]; omega⟩
  have h2 : wordsN (putS q t z m) = 6 := by unfold wordsN; rw [hs]
  exact ⟨h1, h2, by rw [wordsL_ok h1, h2]⟩

def rofOk (f : ByteArray) (t z : Int) : Bool := decide (f.size = 768 ∧ 0 ≤ t ∧ t ≤ 1 ∧ 1 ≤ z ∧ z ≤ 288)
theorem rofOk_parts {f : ByteArray} {t z : Int} : rofOk f t z = true ↔ f.size = 768 ∧ 0 ≤ t ∧ t ≤ 1 ∧ 1 ≤ z ∧ z ≤ 288 := by unfold rofOk; exact decide_eq_true_iff
def rofAll (f : ByteArray) (t z : Int) : Bool := rofOk f t z && decide (topI f < 1048576)
def rofQ (f : ByteArray) (t z : Int) : Int := if rofAll f t z then topI f + 1 else 0
def rofT (f : ByteArray) (t z : Int) : Int := if rofAll f t z then t else 0
def rofZ (f : ByteArray) (t z : Int) : Int := if rofAll f t z then z else 0
def rofM (f : ByteArray) (t z : Int) : Int := if rofAll f t z then sumI f t z else 0
def errS (f : ByteArray) (t z : Int) : Int := if rofOk f t z then (if topI f < 1048576 then 0 else 801) else 900
theorem rof_no {f : ByteArray} {t z : Int} (h : rofOk f t z = false) : rofQ f t z = 0 ∧ rofT f t z = 0 ∧ rofZ f t z = 0 ∧ rofM f t z = 0 ∧ errS f t z = 900 := by
  unfold rofQ rofT rofZ rofM errS rofAll
  rw [h]
  exact ⟨rfl, rfl, rfl, rfl, rfl⟩
theorem rof_full {f : ByteArray} {t z : Int} (h : rofOk f t z = true) (g : ¬ topI f < 1048576) : rofQ f t z = 0 ∧ rofT f t z = 0 ∧ rofZ f t z = 0 ∧ rofM f t z = 0 ∧ errS f t z = 801 := by
  unfold rofQ rofT rofZ rofM errS rofAll
  rw [h, decide_eq_false g, if_neg g]
  exact ⟨rfl, rfl, rfl, rfl, rfl⟩
theorem rof_yes {f : ByteArray} {t z : Int} (h : rofOk f t z = true) (g : topI f < 1048576) : rofQ f t z = topI f + 1 ∧ rofT f t z = t ∧ rofZ f t z = z ∧ rofM f t z = sumI f t z ∧ errS f t z = 0 := by
  unfold rofQ rofT rofZ rofM errS rofAll
  rw [h, decide_eq_true g, if_pos g]
  exact ⟨rfl, rfl, rfl, rfl, rfl⟩
end Go.Proofs.Ythpoefaipmcceaa.Act
