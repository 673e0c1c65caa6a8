/- Files: an image, whom it is for, a mark and a sum, on lists and texts. No program is named here. -/
import Derived.Test.YtgkmallikomnaaaBagEnt
import Derived.Test.YtgkmallikomnaaaBagCrc
import Derived.Test.YtgkmallikomnaaaBagOps
import Derived.Test.YtgkmallikomnaaaBagTxt
import Derived.Test.YtgkmallikomnaaaBagNor
namespace Go.Proofs.Ytgkmallikomnaaa.Suf
open Go.Proofs.Ytgkmallikomnaaa Go.Proofs.Ytgkmallikomnaaa.Bytes Go.Proofs.Ytgkmallikomnaaa.Ent

theorem byteAt_succ (x i : Nat) : byteAt x (i + 1) = byteAt (x / 256) i := by
  unfold byteAt
  rw [Nat.pow_succ', Nat.div_div_eq_div_mul]
theorem lowL_cons (x k : Nat) : lowL x (k + 1) = byteAt x 0 :: lowL (x / 256) k := by
  unfold lowL
  rw [List.range_succ_eq_map, List.map_cons, List.map_map]
  congr 1
  apply List.map_congr_left
  intro i _
  exact byteAt_succ x i
/-- A text's number, in as many bytes, is the text. -/
theorem low_of (l : List UInt8) : lowL (ofL l) l.length = l := by
  induction l with
  | nil => rfl
  | cons b l ih =>
    have hb := b.toNat_lt
    rw [List.length_cons, lowL_cons]
    have e1 : ofL (b :: l) = b.toNat + 256 * ofL l := rfl
    rw [e1, show (b.toNat + 256 * ofL l) / 256 = ofL l from by omega, ih]
    congr 1
    apply UInt8.toNat_inj.1
    rw [toNat_byteAt, Nat.pow_zero]
    omega
theorem low_ofK {l : List UInt8} {k : Nat} (h : l.length = k) : lowL (ofL l) k = l := by rw [← h]; exact low_of l
theorem of_inj {a b : List UInt8} (h : a.length = b.length) (e : ofL a = ofL b) : a = b := by rw [← low_of a, e, h, low_of b]

def idB (x : Int) : Bool := decide (0 ≤ x ∧ x ≤ 65535)
def idsB (v p r : Int) : Bool := idB v && (idB p && idB r)
def imgB (n : Int) : Bool := decide (1 ≤ n ∧ n ≤ 288)
theorem idB_parts {x : Int} : idB x = true ↔ 0 ≤ x ∧ x ≤ 65535 := by unfold idB; exact decide_eq_true_iff
theorem imgB_parts {n : Int} : imgB n = true ↔ 1 ≤ n ∧ n ≤ 288 := by unfold imgB; exact decide_eq_true_iff
theorem idsB_parts {v p r : Int} : idsB v p r = true ↔ (0 ≤ v ∧ v ≤ 65535) ∧ (0 ≤ p ∧ p ≤ 65535) ∧ 0 ≤ r ∧ r ≤ 65535 := by
  unfold idsB
  rw [Bool.and_eq_true, Bool.and_eq_true, idB_parts, idB_parts, idB_parts]
def bldOk (s : ByteArray) (v p r : Int) : Bool := imgB s.size && idsB v p r
theorem bldOk_parts {s : ByteArray} {v p r : Int} : bldOk s v p r = true ↔ (1 ≤ s.size ∧ s.size ≤ 288) ∧ (0 ≤ v ∧ v ≤ 65535) ∧ (0 ≤ p ∧ p ≤ 65535) ∧ 0 ≤ r ∧ r ≤ 65535 := by
  unfold bldOk
  rw [Bool.and_eq_true, imgB_parts, idsB_parts]
  omega
def markL : List UInt8 := [0, 1, 85, 70, 68, 16]
def markS : ByteArray := ⟨#[0, 1, 85, 70, 68, 16]⟩
theorem list_markS : markS.data.toList = markL := rfl
def toldL (l : List UInt8) (v p r : Nat) : List UInt8 := l ++ (lowL r 2 ++ (lowL p 2 ++ (lowL v 2 ++ markL)))
def fileL (l : List UInt8) (v p r : Nat) : List UInt8 := toldL l v p r ++ lowL (Crc.sum (toldL l v p r)) 4
theorem length_toldL (l : List UInt8) (v p r : Nat) : (toldL l v p r).length = l.length + 12 := by simp [toldL, length_lowL, markL]
theorem length_fileL (l : List UInt8) (v p r : Nat) : (fileL l v p r).length = l.length + 16 := by unfold fileL; rw [List.length_append, length_toldL, length_lowL]
def errF (ok : Bool) : Int := if ok then 0 else 1100
def fileS (s : ByteArray) (v p r : Int) : ByteArray := if bldOk s v p r then ⟨(fileL s.data.toList v.toNat p.toNat r.toNat).toArray⟩ else ⟨#[]⟩
theorem fileS_ok {s : ByteArray} {v p r : Int} (h : bldOk s v p r = true) : fileS s v p r = ⟨(fileL s.data.toList v.toNat p.toNat r.toNat).toArray⟩ := by unfold fileS; rw [if_pos h]
theorem fileS_no {s : ByteArray} {v p r : Int} (h : bldOk s v p r = false) : fileS s v p r = ⟨#[]⟩ := by unfold fileS; rw [h]; rfl
theorem list_fileS {s : ByteArray} {v p r : Int} (h : bldOk s v p r = true) : (fileS s v p r).data.toList = fileL s.data.toList v.toNat p.toNat r.toNat := by rw [fileS_ok h]
theorem size_fileS {s : ByteArray} {v p r : Int} (h : bldOk s v p r = true) : (fileS s v p r).size = s.size + 16 := by
  rw [← Nor.size_list, list_fileS h, length_fileL, Nor.size_list]

def frmB (s : ByteArray) : Bool := imgB ((s.size : Int) - 16) && decide (s.extract (s.size - 10) (s.size - 4) = markS)
def sumB (s : ByteArray) : Bool := decide (ofL (s.extract (s.size - 4) s.size).data.toList = Crc.sum (s.extract 0 (s.size - 4)).data.toList)
def parB (s : ByteArray) : Bool := frmB s && sumB s
def errQ (s : ByteArray) : Int := if frmB s then if sumB s then 0 else 1101 else 1100
def parI (s : ByteArray) : ByteArray := if parB s then s.extract 0 (s.size - 16) else ⟨#[]⟩
def idAt (s : ByteArray) (a b : Nat) : Int := ((ofL (s.extract (s.size - a) (s.size - b)).data.toList : Nat) : Int)
def parV (s : ByteArray) : Int := if parB s then idAt s 12 10 else 0
def parP (s : ByteArray) : Int := if parB s then idAt s 14 12 else 0
def parR (s : ByteArray) : Int := if parB s then idAt s 16 14 else 0
theorem par_no {s : ByteArray} (h : parB s = false) : parI s = ⟨#[]⟩ ∧ parV s = 0 ∧ parP s = 0 ∧ parR s = 0 := by
  unfold parI parV parP parR
  rw [h]
  exact ⟨rfl, rfl, rfl, rfl⟩
theorem par_ok {s : ByteArray} (h : parB s = true) : parI s = s.extract 0 (s.size - 16) ∧ parV s = idAt s 12 10 ∧ parP s = idAt s 14 12 ∧ parR s = idAt s 16 14 := by
  unfold parI parV parP parR
  rw [h]
  exact ⟨rfl, rfl, rfl, rfl⟩
theorem errQ_ok {s : ByteArray} (h : parB s = true) : errQ s = 0 := by
  unfold parB at h
  rw [Bool.and_eq_true] at h
  unfold errQ
  rw [h.1, h.2]
  rfl
theorem errQ_no {s : ByteArray} (h : parB s = false) : ¬ errQ s = 0 := by
  unfold parB at h
  unfold errQ
  cases h1 : frmB s with
  | false => exact (by decide : ¬ (1100 : Int) = 0)
  | true => cases h2 : sumB s with
    | false => decide
    | true => rw [h1, h2] at h; cases h
theorem errQ_iff {s : ByteArray} : errQ s = 0 ↔ parB s = true := by
  cases h : parB s with
  | false => simp [errQ_no h]
  | true => simp [errQ_ok h]
theorem frm_size {s : ByteArray} (h : frmB s = true) : 17 ≤ s.size ∧ s.size ≤ 304 := by
  unfold frmB at h
  rw [Bool.and_eq_true, imgB_parts] at h
  omega
theorem frm_parts {s : ByteArray} : frmB s = true ↔ (17 ≤ s.size ∧ s.size ≤ 304) ∧ s.extract (s.size - 10) (s.size - 4) = markS := by
  unfold frmB
  rw [Bool.and_eq_true, imgB_parts, decide_eq_true_iff]
  have e : (1 ≤ (s.size : Int) - 16 ∧ (s.size : Int) - 16 ≤ 288) ↔ (17 ≤ s.size ∧ s.size ≤ 304) := by omega
  rw [e]
theorem sum_parts {s : ByteArray} : sumB s = true ↔ ofL (s.extract (s.size - 4) s.size).data.toList = Crc.sum (s.extract 0 (s.size - 4)).data.toList := by unfold sumB; exact decide_eq_true_iff
theorem par_parts {s : ByteArray} : parB s = true ↔ frmB s = true ∧ sumB s = true := by unfold parB; rw [Bool.and_eq_true]
theorem size_parI {s : ByteArray} (h : parB s = true) : (parI s).size = s.size - 16 := by
  rw [(par_ok h).1, ByteArray.size_extract]
  omega

/-- A text's parts, as a file has them. -/
structure Is (s : ByteArray) (l A B C M D : List UInt8) : Prop where
  text : s.data.toList = l ++ (A ++ (B ++ (C ++ (M ++ D))))
  a : A.length = 2
  b : B.length = 2
  c : C.length = 2
  m : M.length = 6
  d : D.length = 4
theorem is_of {s : ByteArray} (h : 16 ≤ s.size) : ∃ l A B C M D, Is s l A B C M D := by
  have hl := Nor.size_list s
  refine ⟨s.data.toList.take (s.size - 16), (s.data.toList.drop (s.size - 16)).take 2, ((s.data.toList.drop (s.size - 16)).drop 2).take 2, (((s.data.toList.drop (s.size - 16)).drop 2).drop 2).take 2, ((((s.data.toList.drop (s.size - 16)).drop 2).drop 2).drop 2).take 6, ((((s.data.toList.drop (s.size - 16)).drop 2).drop 2).drop 2).drop 6, ?_, ?_, ?_, ?_, ?_, ?_⟩
  · rw [List.take_append_drop, List.take_append_drop, List.take_append_drop, List.take_append_drop, List.take_append_drop]
  all_goals
    simp only [List.length_take, List.length_drop, hl]
    omega
theorem Is.size {s : ByteArray} {l A B C M D : List UInt8} (h : Is s l A B C M D) : s.size = l.length + 16 := by
  rw [← Nor.size_list, h.text]
  simp only [List.length_append, h.a, h.b, h.c, h.m, h.d]
theorem ext_at {s : ByteArray} {i j : Nat} (a x b : List UInt8) (h : s.data.toList = a ++ (x ++ b)) (hi : i = a.length) (hj : j = a.length + x.length) : (s.extract i j).data.toList = x := by
  subst hi hj
  rw [list_extract, h, List.drop_left, show a.length + x.length - a.length = x.length from by omega, List.take_left]
theorem Is.img {s : ByteArray} {l A B C M D : List UInt8} (h : Is s l A B C M D) : (s.extract 0 (s.size - 16)).data.toList = l := by
  refine ext_at [] l _ h.text rfl ?_
  have := h.size
  simp
  omega
theorem Is.idA {s : ByteArray} {l A B C M D : List UInt8} (h : Is s l A B C M D) : (s.extract (s.size - 16) (s.size - 14)).data.toList = A := by
  have := h.size
  have := h.a
  refine ext_at l A _ h.text ?_ ?_ <;> omega
theorem Is.idB {s : ByteArray} {l A B C M D : List UInt8} (h : Is s l A B C M D) : (s.extract (s.size - 14) (s.size - 12)).data.toList = B := by
  have := h.size
  have := h.a
  have := h.b
  refine ext_at (l ++ A) B _ (by rw [h.text, List.append_assoc]) ?_ ?_ <;> rw [List.length_append] <;> omega
theorem Is.idC {s : ByteArray} {l A B C M D : List UInt8} (h : Is s l A B C M D) : (s.extract (s.size - 12) (s.size - 10)).data.toList = C := by
  have := h.size
  have := h.a
  have := h.b
  have := h.c
  refine ext_at (l ++ (A ++ B)) C (M ++ D) (by rw [h.text]; simp only [List.append_assoc]) ?_ ?_ <;> simp only [List.length_append] <;> omega
theorem Is.mark {s : ByteArray} {l A B C M D : List UInt8} (h : Is s l A B C M D) : (s.extract (s.size - 10) (s.size - 4)).data.toList = M := by
  have := h.size
  have := h.a
  have := h.b
  have := h.c
  have := h.m
  refine ext_at (l ++ (A ++ (B ++ C))) M D (by rw [h.text]; simp only [List.append_assoc]) ?_ ?_ <;> simp only [List.length_append] <;> omega
theorem Is.told {s : ByteArray} {l A B C M D : List UInt8} (h : Is s l A B C M D) : (s.extract 0 (s.size - 4)).data.toList = l ++ (A ++ (B ++ (C ++ M))) := by
  have := h.size
  have := h.a
  have := h.b
  have := h.c
  have := h.m
  refine ext_at [] (l ++ (A ++ (B ++ (C ++ M)))) D (by rw [h.text]; simp only [List.append_assoc, List.nil_append]) rfl ?_
  simp only [List.length_append, List.length_nil]
  omega
theorem Is.sum {s : ByteArray} {l A B C M D : List UInt8} (h : Is s l A B C M D) : (s.extract (s.size - 4) s.size).data.toList = D := by
  have := h.size
  have := h.a
  have := h.b
  have := h.c
  have := h.m
  have := h.d
  refine ext_at (l ++ (A ++ (B ++ (C ++ M)))) D [] (by rw [h.text]; simp only [List.append_assoc, List.append_nil]) ?_ ?_ <;> simp only [List.length_append] <;> omega
/-- What is built, parsed, comes back. -/
theorem parse_build {s : ByteArray} {v p r : Int} (h : bldOk s v p r = true) : parB (fileS s v p r) = true ∧ parI (fileS s v p r) = s ∧ parV (fileS s v p r) = v ∧ parP (fileS s v p r) = p ∧ parR (fileS s v p r) = r := by
  have hp := bldOk_parts.1 h
  have hI : Is (fileS s v p r) s.data.toList (lowL r.toNat 2) (lowL p.toNat 2) (lowL v.toNat 2) markL (lowL (Crc.sum (toldL s.data.toList v.toNat p.toNat r.toNat)) 4) := by
    refine ⟨?_, length_lowL _ _, length_lowL _ _, length_lowL _ _, rfl, length_lowL _ _⟩
    rw [list_fileS h]
    unfold fileL toldL
    simp only [List.append_assoc]
  have hz := size_fileS h
  have hok : parB (fileS s v p r) = true := by
    rw [par_parts, frm_parts, sum_parts]
    refine ⟨⟨by omega, ba_ext ?_⟩, ?_⟩
    · rw [hI.mark, list_markS]
    · rw [hI.sum, hI.told, of_low_lt (Crc.sum_lt _)]
      rfl
  obtain ⟨e1, e2, e3, e4⟩ := par_ok hok
  refine ⟨hok, ba_ext ?_, ?_, ?_, ?_⟩
  · rw [e1, hI.img]
  · rw [e2]
    unfold idAt
    rw [hI.idC, of_low_lt (by omega)]
    omega
  · rw [e3]
    unfold idAt
    rw [hI.idB, of_low_lt (by omega)]
    omega
  · rw [e4]
    unfold idAt
    rw [hI.idA, of_low_lt (by omega)]
    omega
/-- What is parsed, built, is the text. -/
theorem build_parse {s : ByteArray} (h : parB s = true) : bldOk (parI s) (parV s) (parP s) (parR s) = true ∧ fileS (parI s) (parV s) (parP s) (parR s) = s := by
  obtain ⟨h1, h2⟩ := par_parts.1 h
  obtain ⟨h3, h4⟩ := frm_parts.1 h1
  rw [sum_parts] at h2
  obtain ⟨l, A, B, C, M, D, hI⟩ := is_of (s := s) (by omega)
  obtain ⟨e1, e2, e3, e4⟩ := par_ok h
  have e5 := size_parI h
  rw [hI.sum, hI.told] at h2
  have hM : M = markL := by rw [← hI.mark, h4, list_markS]
  have hl : (parI s).data.toList = l := by rw [e1, hI.img]
  unfold idAt at e2 e3 e4
  rw [hI.idC] at e2
  rw [hI.idB] at e3
  rw [hI.idA] at e4
  have bA := ofL_lt A
  have bB := ofL_lt B
  have bC := ofL_lt C
  rw [hI.a] at bA
  rw [hI.b] at bB
  rw [hI.c] at bC
  have hok : bldOk (parI s) (parV s) (parP s) (parR s) = true := by
    rw [bldOk_parts, e2, e3, e4, e5]
    omega
  refine ⟨hok, ba_ext ?_⟩
  rw [list_fileS hok, hl, e2, e3, e4, Int.toNat_natCast, Int.toNat_natCast, Int.toNat_natCast]
  have ht : toldL l (ofL C) (ofL B) (ofL A) = l ++ (A ++ (B ++ (C ++ M))) := by
    unfold toldL
    rw [low_ofK hI.a, low_ofK hI.b, low_ofK hI.c, hM]
  unfold fileL
  rw [ht, ← h2, low_ofK hI.d, hI.text]
  simp only [List.append_assoc]
/-- Unlike images, or numbers, have unlike files. -/
theorem file_inj {s t : ByteArray} {v p r v' p' r' : Int} (h : bldOk s v p r = true) (h' : bldOk t v' p' r' = true) (e : fileS s v p r = fileS t v' p' r') : s = t ∧ v = v' ∧ p = p' ∧ r = r' := by
  obtain ⟨_, a1, a2, a3, a4⟩ := parse_build h
  obtain ⟨_, b1, b2, b3, b4⟩ := parse_build h'
  rw [e] at a1 a2 a3 a4
  exact ⟨a1.symm.trans b1, a2.symm.trans b2, a3.symm.trans b3, a4.symm.trans b4⟩

theorem sum_set (l : List UInt8) (i : Nat) (h : i < l.length) (b : UInt8) (he : Crc.sum (l.set i b) = Crc.sum l) : b = l[i] := by
  have e1 : l.set i b = l.take i ++ b :: l.drop (i + 1) := by rw [List.set_eq_take_append_cons_drop, if_pos h]
  have e2 : l = l.take i ++ l[i] :: l.drop (i + 1) := by rw [← List.drop_eq_getElem_cons h, List.take_append_drop]
  have h1 : Crc.rest 4294967295 (l.set i b) = Crc.rest 4294967295 l := Crc.xor_inj_right _ _ 4294967295 he
  rw [e1] at h1
  generalize l[i] = a at *
  rw [e2, Crc.rest_append, Crc.rest_append, Crc.rest_cons, Crc.rest_cons] at h1
  have hr : Crc.rest 4294967295 (l.take i) < 4294967296 := Crc.rest_lt _ _ (by omega)
  have e3 : (l.take i ++ a :: l.drop (i + 1)).take i = l.take i := by
    rw [List.take_append_of_le_length (by rw [List.length_take]; omega), List.take_take, Nat.min_self]
  have e4 : (l.take i ++ a :: l.drop (i + 1)).drop (i + 1) = l.drop (i + 1) := by rw [← e2]
  rw [e3, e4] at h1
  have h2 := Crc.rest_inj _ _ _ (Crc.byte1_lt _ _ hr) (Crc.byte1_lt _ _ hr) h1
  have h3 := Crc.bitN_inj 8 _ _ (Crc.xor_lt _ _ hr (Crc.u8_lt b)) (Crc.xor_lt _ _ hr (Crc.u8_lt a)) h2
  have h4 : b.toNat = a.toNat := by
    rw [Nat.xor_comm, Nat.xor_comm _ a.toNat] at h3
    exact Crc.xor_inj_right _ _ _ h3
  exact UInt8.toNat_inj.1 h4
/-- The text t is s, but for the byte at k, which is another one. -/
structure Turned (s t : ByteArray) (k : Nat) (b : UInt8) : Prop where
  text : t.data.toList = s.data.toList.set k b
  at_ : k < s.data.toList.length
  ne : ¬ b = s.data.toList[k]
theorem Turned.size {s t : ByteArray} {k : Nat} {b : UInt8} (h : Turned s t k b) : t.size = s.size := by rw [← Nor.size_list, ← Nor.size_list, h.text, List.length_set]
theorem ext_set {s t : ByteArray} {k : Nat} {b : UInt8} (h : t.data.toList = s.data.toList.set k b) (i j : Nat) : (k < i ∨ j ≤ k → t.extract i j = s.extract i j) ∧ (i ≤ k → (t.extract i j).data.toList = (s.extract i j).data.toList.set (k - i) b) := by
  refine ⟨fun hk => ba_ext ?_, fun hk => ?_⟩
  · rw [list_extract, list_extract, h, List.drop_set]
    rcases hk with hk | hk
    · rw [if_pos hk]
    · by_cases hi : k < i
      · rw [if_pos hi]
      · rw [if_neg hi, List.take_set, List.set_eq_of_length_le]
        rw [List.length_take]
        omega
  · rw [list_extract, list_extract, h, List.drop_set, if_neg (by omega), List.take_set]
theorem set_ne {l : List UInt8} {k : Nat} {b : UInt8} (h : k < l.length) (hb : ¬ b = l[k]) : ¬ l.set k b = l := fun e => by
  have : (l.set k b)[k]'(by rw [List.length_set]; exact h) = l[k] := by simp only [e]
  rw [List.getElem_set_self] at this
  exact hb this
theorem ext_get {s : ByteArray} {i j k : Nat} (h1 : i ≤ k) (h2 : k < j) (h : k < s.data.toList.length) : ∃ h' : k - i < (s.extract i j).data.toList.length, (s.extract i j).data.toList[k - i] = s.data.toList[k] := by
  have h' : k - i < (s.extract i j).data.toList.length := by rw [list_extract, List.length_take, List.length_drop]; omega
  refine ⟨h', ?_⟩
  have e : (s.extract i j).data.toList[k - i]? = s.data.toList[k]? := by rw [list_extract, List.getElem?_take, if_pos (by omega), List.getElem?_drop, show i + (k - i) = k from by omega]
  rw [List.getElem?_eq_getElem h', List.getElem?_eq_getElem h] at e
  exact Option.some.inj e
theorem turned_mark {s t : ByteArray} {k : Nat} {b : UInt8} (hs : parB s = true) (h : Turned s t k b) (h1 : s.size - 10 ≤ k) (h2 : k < s.size - 4) : errQ t = 1100 := by
  have hf : frmB t = false := by
    cases hc : frmB t with
    | false => rfl
    | true =>
      exfalso
      obtain ⟨_, g⟩ := frm_parts.1 (par_parts.1 hs).1
      obtain ⟨_, f⟩ := frm_parts.1 hc
      have e := (ext_set h.text (s.size - 10) (s.size - 4)).2 h1
      rw [h.size] at f
      rw [f] at e
      obtain ⟨h', he⟩ := ext_get h1 h2 h.at_
      refine set_ne h' (by rw [he]; exact h.ne) ?_
      rw [← e, g]
  unfold errQ
  rw [hf]
  rfl
theorem turned_sum {s t : ByteArray} {k : Nat} {b : UInt8} (hs : parB s = true) (h : Turned s t k b) (h1 : k < s.size - 10 ∨ s.size - 4 ≤ k) : errQ t = 1101 := by
  have hz := h.size
  obtain ⟨g1, g2⟩ := par_parts.1 hs
  obtain ⟨g3, g4⟩ := frm_parts.1 g1
  rw [sum_parts] at g2
  have hk : k < s.size := by have := h.at_; rw [Nor.size_list] at this; exact this
  have hf : frmB t = true := by
    rw [frm_parts, hz, (ext_set h.text (s.size - 10) (s.size - 4)).1 (by omega)]
    exact ⟨g3, g4⟩
  have hn : sumB t = false := by
    cases hc : sumB t with
    | false => rfl
    | true =>
      exfalso
      rw [sum_parts, hz] at hc
      rcases h1 with h1 | h1
      · rw [(ext_set h.text (s.size - 4) s.size).1 (by omega), (ext_set h.text 0 (s.size - 4)).2 (by omega), g2] at hc
        obtain ⟨h', he⟩ := ext_get (i := 0) (j := s.size - 4) (Nat.zero_le k) (by omega) h.at_
        have := sum_set _ _ h' _ hc.symm
        rw [he] at this
        exact h.ne this
      · rw [(ext_set h.text 0 (s.size - 4)).1 (by omega), (ext_set h.text (s.size - 4) s.size).2 (by omega), ← g2] at hc
        obtain ⟨h', he⟩ := ext_get (i := s.size - 4) (j := s.size) h1 (by omega) h.at_
        have := of_inj (by rw [List.length_set]) hc
        exact set_ne h' (by rw [he]; exact h.ne) this
  unfold errQ
  rw [hf, hn]
  rfl
theorem errQ_far {s : ByteArray} (h : s.size < 17 ∨ 304 < s.size) : errQ s = 1100 := by
  have hf : frmB s = false := by
    cases hc : frmB s with
    | false => rfl
    | true => exfalso; have := frm_size hc; omega
  unfold errQ
  rw [hf]
  rfl
end Go.Proofs.Ytgkmallikomnaaa.Suf

/- The contracts of package suffix: each call returns what the plain functions give, whatever its arguments; of what was there nothing has turned. -/
namespace Go.Proofs.Ytgkmallikomnaaa.SufWalk
open Go.Proofs.Ytgkmallikomnaaa Go.RowKit Go.Proofs.Ytgkmallikomnaaa.Bytes Go.Proofs.Ytgkmallikomnaaa.NorWalk Go.Proofs.Ytgkmallikomnaaa.Ent Go.Proofs.Ytgkmallikomnaaa.EntLow Go.Proofs.Ytgkmallikomnaaa.Suf
open Go.Proofs.Ytgkmallikomnaaa.EntRow (text_ne size_alloc1)
open Go.Proofs.Ytgkmallikomnaaa.EntWalk (lowT lowT_any size_lowT list_lowT numS num_low ext_le)
open Go.Proofs.Ytgkmallikomnaaa.OpsRow (boxM boxB boxD thenD)

open Go.Proofs.Ytgkmallikomnaaa.ImgClone (clone_any)
attribute [local go_sem ↓] Go.wp_at_zero Go.wp_at_succ

theorem text_eq {a b : ByteArray} (h : a = b) : (a.toList == b.toList) = true := by rw [h]; exact beq_self_eq_true _
theorem build_ids (v p r : Int) (w : World) : (Instr.build 58 #[(2, .int .i64 r), (1, .int .i64 p), (0, .int .i64 v)]).run Try.prog w = .ok (.agg #[.int .i64 v, .int .i64 p, .int .i64 r]) w := run_build w 58 _ _ (by kernel_rfl)
theorem build_zero (w : World) : (Instr.build 58 #[]).run Try.prog w = .ok (.agg #[.int .i64 0, .int .i64 0, .int .i64 0]) w := run_build w 58 _ _ (by kernel_rfl)
/-- A struct of three cells in a block of its own that may be written. -/
theorem resM (w : World) (x y z : Value) (e : TypeId) : w.heap.size < (w.alloc (.cells #[x, y, z] e)).heap.size ∧ (w.alloc (.cells #[x, y, z] e)).cell? ⟨w.heap.size, 0, none⟩ = some x ∧ (w.alloc (.cells #[x, y, z] e)).cell? ⟨w.heap.size, 1, none⟩ = some y ∧ (w.alloc (.cells #[x, y, z] e)).cell? ⟨w.heap.size, 2, none⟩ = some z ∧ ∀ i, (w.alloc (.cells #[x, y, z] e)).frozen? ⟨w.heap.size, i, none⟩ = false := by
  obtain ⟨h1, h2, h3, h4⟩ := boxM w x y z e
  exact ⟨h1, h2, h3, h4, fun i => World.frozen?_alloc_at _ e _ i rfl⟩
theorem resB {w w' : World} {B : Nat} {x y z : Value} (h : B < w.heap.size ∧ w.cell? ⟨B, 0, none⟩ = some x ∧ w.cell? ⟨B, 1, none⟩ = some y ∧ w.cell? ⟨B, 2, none⟩ = some z ∧ ∀ i, w.frozen? ⟨B, i, none⟩ = false) (hb : Below w.heap.size w w') :
    B < w'.heap.size ∧ w'.cell? ⟨B, 0, none⟩ = some x ∧ w'.cell? ⟨B, 1, none⟩ = some y ∧ w'.cell? ⟨B, 2, none⟩ = some z ∧ ∀ i, w'.frozen? ⟨B, i, none⟩ = false := by
  obtain ⟨h0, h1, h2, h3, h4⟩ := h
  obtain ⟨g0, g1, g2, g3⟩ := boxB ⟨h0, h1, h2, h3⟩ hb
  exact ⟨g0, g1, g2, g3, fun i => by rw [hb.frozen (p := ⟨B, i, none⟩) h0]; exact h4 i⟩
/-- A struct's three cells, stored. -/
theorem set3 {B0 : Nat} {w w' : World} {B : Nat} {x y z : Value} (h : Below B0 w w') (hB : B0 ≤ B) : Below B0 w (((w'.setCell ⟨B, 0, none⟩ x).setCell ⟨B, 1, none⟩ y).setCell ⟨B, 2, none⟩ z) := ((h.setCell (p := ⟨B, 0, none⟩) hB _).setCell (p := ⟨B, 1, none⟩) hB _).setCell (p := ⟨B, 2, none⟩) hB _
theorem resD {w w' : World} {B : Nat} {x y z : Value} (hb : Below w.heap.size w w') (h : B < w.heap.size ∧ w.cell? ⟨B, 0, none⟩ = some x ∧ w.cell? ⟨B, 1, none⟩ = some y ∧ w.cell? ⟨B, 2, none⟩ = some z ∧ ∀ i, w.frozen? ⟨B, i, none⟩ = false) :
    B < w'.heap.size ∧ w'.cell? ⟨B, 0, none⟩ = some x ∧ w'.cell? ⟨B, 1, none⟩ = some y ∧ w'.cell? ⟨B, 2, none⟩ = some z ∧ ∀ i, w'.frozen? ⟨B, i, none⟩ = false := resB h hb
theorem ret_par {a a' : ByteArray} {b c d e b' c' d' e' : Int} (h : a = a' ∧ b = b' ∧ c = c' ∧ d = d' ∧ e = e') : Ending.returned (.tuple #[.string a, .agg #[.int .i64 b, .int .i64 c, .int .i64 d], .int .i64 e]) = .returned (.tuple #[.string a', .agg #[.int .i64 b', .int .i64 c', .int .i64 d'], .int .i64 e']) := by
  obtain ⟨rfl, rfl, rfl, rfl, rfl⟩ := h
  rfl
/-- A text that has not a file's size, or not its mark, or not its sum; or a file. -/
theorem par_ways (s : ByteArray) : (imgB ((s.size : Int) - 16) = false ∧ parB s = false ∧ errQ s = 1100) ∨ (imgB ((s.size : Int) - 16) = true ∧ decide (s.extract (s.size - 10) (s.size - 4) = markS) = false ∧ parB s = false ∧ errQ s = 1100) ∨ (imgB ((s.size : Int) - 16) = true ∧ decide (s.extract (s.size - 10) (s.size - 4) = markS) = true ∧ sumB s = false ∧ parB s = false ∧ errQ s = 1101) ∨ (imgB ((s.size : Int) - 16) = true ∧ decide (s.extract (s.size - 10) (s.size - 4) = markS) = true ∧ sumB s = true ∧ parB s = true ∧ errQ s = 0) := by
  have e : parB s = (imgB ((s.size : Int) - 16) && decide (s.extract (s.size - 10) (s.size - 4) = markS) && sumB s) := rfl
  have f : frmB s = (imgB ((s.size : Int) - 16) && decide (s.extract (s.size - 10) (s.size - 4) = markS)) := rfl
  unfold errQ
  rw [e, f]
  cases imgB ((s.size : Int) - 16) <;> cases decide (s.extract (s.size - 10) (s.size - 4) = markS) <;> cases sumB s
  all_goals first | exact .inl ⟨rfl, rfl, rfl⟩ | exact .inr (.inl ⟨rfl, rfl, rfl, rfl⟩) | exact .inr (.inr (.inl ⟨rfl, rfl, rfl, rfl, rfl⟩)) | exact .inr (.inr (.inr ⟨rfl, rfl, rfl, rfl, rfl⟩))
theorem zero_par {s : ByteArray} {x : Int} (h : parB s = false) (he : errQ s = x) : (⟨#[]⟩ : ByteArray) = parI s ∧ (0 : Int) = parV s ∧ (0 : Int) = parP s ∧ (0 : Int) = parR s ∧ x = errQ s := by
  obtain ⟨e1, e2, e3, e4⟩ := par_no h
  exact ⟨e1.symm, e2.symm, e3.symm, e4.symm, he.symm⟩
/-- The mark, as the code asks for it. -/
theorem mark_told (s : ByteArray) (h : 17 ≤ s.size) : (s.extract 0 (s.size - 4)).extract ((s.extract 0 (s.size - 4)).size - markS.size) (s.extract 0 (s.size - 4)).size = s.extract (s.size - 10) (s.size - 4) := by
  have e1 : (s.extract 0 (s.size - 4)).size = s.size - 4 := by rw [ByteArray.size_extract]; omega
  have e2 : markS.size = 6 := rfl
  rw [e1, e2, show s.size - 4 - 6 = s.size - 10 from by omega]
  apply ba_ext
  rw [list_extract, list_extract, list_extract, List.drop_zero, List.drop_take, List.take_take, Nat.min_eq_left (by omega)]
theorem ext_tail (s : ByteArray) (n a b : Nat) : (s.extract n s.size).extract a b = s.extract (n + a) (n + b) := by
  apply ba_ext
  rw [list_extract, list_tail, list_extract, List.drop_drop, show n + b - (n + a) = b - a from by omega]
end Go.Proofs.Ytgkmallikomnaaa.SufWalk

/- Whom a file is for: which numbers may be, and whether one's are the other's, on numbers. No program is named here. -/
namespace Go.Proofs.Ytgkmallikomnaaa.Idt
open Go.Proofs.Ytgkmallikomnaaa Go.Proofs.Ytgkmallikomnaaa.Suf

/-- One number that is wanted, and one that is. -/
def fitB (a b : Int) : Bool := decide (a = b) || decide (a = 65535)
def fitsB (v p r v' p' r' : Int) : Bool := fitB v v' && (fitB p p' && fitB r r')
def mtOk (v p r v' p' r' : Int) : Bool := idsB v p r && idsB v' p' r'
def errM (ok : Bool) : Int := if ok then 0 else 1200
def mtB (v p r v' p' r' : Int) : Bool := mtOk v p r v' p' r' && fitsB v p r v' p' r'
theorem fitB_same (a : Int) : fitB a a = true := by unfold fitB; simp
theorem fitB_max (b : Int) : fitB 65535 b = true := by unfold fitB; simp
theorem fitB_iff {a b : Int} : fitB a b = true ↔ a = b ∨ a = 65535 := by unfold fitB; rw [Bool.or_eq_true, decide_eq_true_iff, decide_eq_true_iff]
theorem fitsB_iff {v p r v' p' r' : Int} : fitsB v p r v' p' r' = true ↔ (v = v' ∨ v = 65535) ∧ (p = p' ∨ p = 65535) ∧ (r = r' ∨ r = 65535) := by
  unfold fitsB
  rw [Bool.and_eq_true, Bool.and_eq_true, fitB_iff, fitB_iff, fitB_iff]
theorem mtOk_parts {v p r v' p' r' : Int} : mtOk v p r v' p' r' = true ↔ idsB v p r = true ∧ idsB v' p' r' = true := by unfold mtOk; rw [Bool.and_eq_true]
theorem mtOk_comm (v p r v' p' r' : Int) : mtOk v' p' r' v p r = mtOk v p r v' p' r' := by unfold mtOk; exact Bool.and_comm _ _
theorem mtB_no {v p r v' p' r' : Int} (h : mtOk v p r v' p' r' = false) : mtB v p r v' p' r' = false := by unfold mtB; rw [h]; rfl
theorem mtB_ok {v p r v' p' r' : Int} (h : mtOk v p r v' p' r' = true) : mtB v p r v' p' r' = fitsB v p r v' p' r' := by unfold mtB; rw [h]; rfl
end Go.Proofs.Ytgkmallikomnaaa.Idt

/- The contracts of package ident, and of the document's own answers to it: each call returns what the plain functions give, whatever its arguments; of what was there nothing has turned. -/
namespace Go.Proofs.Ytgkmallikomnaaa.IdtWalk
open Go.Proofs.Ytgkmallikomnaaa Go.RowKit Go.Proofs.Ytgkmallikomnaaa.Bytes Go.Proofs.Ytgkmallikomnaaa.NorWalk Go.Proofs.Ytgkmallikomnaaa.NorRef Go.Proofs.Ytgkmallikomnaaa.Suf Go.Proofs.Ytgkmallikomnaaa.Idt
open Go.Proofs.Ytgkmallikomnaaa.EntRow (size_alloc1)
open Go.Proofs.Ytgkmallikomnaaa.OpsRow (boxM boxB boxD thenD)

theorem num_any (n : Int) (w : World) : Calls Try.prog 11 #[.int .i64 n] w fun e w' => e = .returned (.int .i64 n) ∧ w' = w := by
  go_enter Try.func11, Try.ntmps11
  go_wp2
  go_ret
  exact ⟨rfl, rfl⟩
/-- The boxes of two structs that come in. -/
theorem two_box (w : World) (v p r v' p' r' : Value) (t : TypeId) : Below w.heap.size w ((w.alloc (.cells #[v, p, r] t)).alloc (.cells #[v', p', r'] t)) ∧ (w.heap.size < ((w.alloc (.cells #[v, p, r] t)).alloc (.cells #[v', p', r'] t)).heap.size ∧ ((w.alloc (.cells #[v, p, r] t)).alloc (.cells #[v', p', r'] t)).cell? ⟨w.heap.size, 0, none⟩ = some v ∧ ((w.alloc (.cells #[v, p, r] t)).alloc (.cells #[v', p', r'] t)).cell? ⟨w.heap.size, 1, none⟩ = some p ∧ ((w.alloc (.cells #[v, p, r] t)).alloc (.cells #[v', p', r'] t)).cell? ⟨w.heap.size, 2, none⟩ = some r) ∧ (w.heap.size + 1 < ((w.alloc (.cells #[v, p, r] t)).alloc (.cells #[v', p', r'] t)).heap.size ∧ ((w.alloc (.cells #[v, p, r] t)).alloc (.cells #[v', p', r'] t)).cell? ⟨w.heap.size + 1, 0, none⟩ = some v' ∧ ((w.alloc (.cells #[v, p, r] t)).alloc (.cells #[v', p', r'] t)).cell? ⟨w.heap.size + 1, 1, none⟩ = some p' ∧ ((w.alloc (.cells #[v, p, r] t)).alloc (.cells #[v', p', r'] t)).cell? ⟨w.heap.size + 1, 2, none⟩ = some r') := by
  have hY := boxM (w.alloc (.cells #[v, p, r] t)) v' p' r' t
  rw [show (w.alloc (.cells #[v, p, r] t)).heap.size = w.heap.size + 1 from by simp] at hY
  exact ⟨((Below.refl w.heap.size w).alloc (Nat.le_refl _) _).alloc (Nat.le_of_lt (size_alloc1 _ _)) _, boxB (boxM w v p r t) ((Below.refl _ _).alloc (Nat.le_refl _) _), hY⟩
/-- The ways of a match: one that may not be; or which of the three is the first that does not fit. -/
theorem mways (v p r v' p' r' : Int) : (idsB v p r = false ∧ mtOk v p r v' p' r' = false ∧ mtB v p r v' p' r' = false) ∨ (idsB v p r = true ∧ idsB v' p' r' = false ∧ mtOk v p r v' p' r' = false ∧ mtB v p r v' p' r' = false) ∨ (idsB v p r = true ∧ idsB v' p' r' = true ∧ mtOk v p r v' p' r' = true ∧ fitB v v' = false ∧ mtB v p r v' p' r' = false) ∨ (idsB v p r = true ∧ idsB v' p' r' = true ∧ mtOk v p r v' p' r' = true ∧ fitB v v' = true ∧ fitB p p' = false ∧ mtB v p r v' p' r' = false) ∨ (idsB v p r = true ∧ idsB v' p' r' = true ∧ mtOk v p r v' p' r' = true ∧ fitB v v' = true ∧ fitB p p' = true ∧ fitB r r' = false ∧ mtB v p r v' p' r' = false) ∨ (idsB v p r = true ∧ idsB v' p' r' = true ∧ mtOk v p r v' p' r' = true ∧ fitB v v' = true ∧ fitB p p' = true ∧ fitB r r' = true ∧ mtB v p r v' p' r' = true) := by
  unfold mtB mtOk fitsB
  cases idsB v p r <;> cases idsB v' p' r' <;> cases fitB v v' <;> cases fitB p p' <;> cases fitB r r' <;> simp
theorem ridMay_any (n : Int) (w : World) : Calls Try.prog 62 #[.int .i64 n] w fun e w' => e = .returned (.bool (idB n)) ∧ w' = w := by
  go_enter Try.func62, Try.ntmps62
  go_wp2_with (go_at_call 44; refine (upTo_any _ _ _ _).mono ?_; rintro e w' ⟨rfl, rfl⟩)
  go_ret
  exact ⟨rfl, rfl⟩
set_option maxRecDepth 100000 in
theorem ridsMay_any (v p r : Int) (w : World) : Calls Try.prog 45 #[.agg #[.int .i64 v, .int .i64 p, .int .i64 r]] w fun e w' => e = .returned (.bool (idsB v p r)) ∧ Below w.heap.size w w' := by
  have hX := boxM w (.int .i64 v) (.int .i64 p) (.int .i64 r) 58
  unfold idsB
  cases h1 : idB v <;> cases h2 : idB p <;> cases h3 : idB r
  all_goals
    go_enter Try.func45, Try.ntmps45
    go_wp2_with (go_at_call 62; refine (ridMay_any _ _).mono ?_; rintro e w' ⟨rfl, rfl⟩)
    go_ret
    exact ⟨rfl, (Below.refl _ _).alloc (Nat.le_refl _) _⟩
theorem fit_ways {a b : Int} (h : fitB a b = true) : a = b ∨ (¬ a = b ∧ a = 65535) := by
  rw [fitB_iff] at h
  by_cases e : a = b
  · exact .inl e
  · exact .inr ⟨e, h.resolve_left e⟩
theorem fit_no {a b : Int} (h : fitB a b = false) : (a == b) = false ∧ (a == 65535) = false := by
  rw [← Bool.not_eq_true, fitB_iff] at h
  exact ⟨beq_eq_false_iff_ne.2 fun e => h (.inl e), beq_eq_false_iff_ne.2 fun e => h (.inr e)⟩
set_option maxRecDepth 100000 in
set_option maxHeartbeats 4000000 in
theorem refMatch_any (v p r v' p' r' : Int) (w : World) : Calls Try.prog 48 #[.agg #[.int .i64 v, .int .i64 p, .int .i64 r], .agg #[.int .i64 v', .int .i64 p', .int .i64 r']] w fun e w' => e = .returned (.tuple #[.bool (mtB v p r v' p' r'), .int .i64 (errM (mtOk v p r v' p' r'))]) ∧ Below w.heap.size w w' := by
  obtain ⟨hB, hX, hY⟩ := two_box w (.int .i64 v) (.int .i64 p) (.int .i64 r) (.int .i64 v') (.int .i64 p') (.int .i64 r') 58
  rcases mways v p r v' p' r' with ⟨h1, h2, h3⟩ | ⟨h1, h4, h2, h3⟩ | ⟨h1, h4, h2, h5, h3⟩ | ⟨h1, h4, h2, h5, h6, h3⟩ | ⟨h1, h4, h2, h5, h6, h7, h3⟩ | ⟨h1, h4, h2, h5, h6, h7, h3⟩
  all_goals
    rw [h2, h3]
    clear h2 h3
    try replace h5 := fit_no h5
    try replace h6 := fit_no h6
    try replace h7 := fit_no h7
    try replace h5 := fit_ways h5
    try replace h6 := fit_ways h6
    try replace h7 := fit_ways h7
  rotate_left 2
  · obtain ⟨h5, h5'⟩ := h5
    go_enter Try.func48, Try.ntmps48
    go_wp2_with (go_at_call 45; refine (ridsMay_any _ _ _ _).mono ?_; rintro e w' ⟨rfl, hb⟩; replace hB := thenB hB hb; replace hX := boxB hX hb; replace hY := boxB hY hb; clear hb)
    go_ret2
    exact ⟨rfl, hB⟩
  · obtain ⟨h6, h6'⟩ := h6
    rcases h5 with rfl | ⟨h5, rfl⟩
    all_goals
      go_enter Try.func48, Try.ntmps48
      go_wp2_with (go_at_call 45; refine (ridsMay_any _ _ _ _).mono ?_; rintro e w' ⟨rfl, hb⟩; replace hB := thenB hB hb; replace hX := boxB hX hb; replace hY := boxB hY hb; clear hb)
      go_ret2
      exact ⟨rfl, hB⟩
  · obtain ⟨h7, h7'⟩ := h7
    rcases h5 with rfl | ⟨h5, rfl⟩ <;> rcases h6 with rfl | ⟨h6, rfl⟩
    all_goals
      go_enter Try.func48, Try.ntmps48
      go_wp2_with (go_at_call 45; refine (ridsMay_any _ _ _ _).mono ?_; rintro e w' ⟨rfl, hb⟩; replace hB := thenB hB hb; replace hX := boxB hX hb; replace hY := boxB hY hb; clear hb)
      go_ret2
      exact ⟨rfl, hB⟩
  · rcases h5 with rfl | ⟨h5, rfl⟩ <;> rcases h6 with rfl | ⟨h6, rfl⟩ <;> rcases h7 with rfl | ⟨h7, rfl⟩
    all_goals
      go_enter Try.func48, Try.ntmps48
      go_wp2_with (go_at_call 45; refine (ridsMay_any _ _ _ _).mono ?_; rintro e w' ⟨rfl, hb⟩; replace hB := thenB hB hb; replace hX := boxB hX hb; replace hY := boxB hY hb; clear hb)
      go_ret2
      exact ⟨rfl, hB⟩
  all_goals
    go_enter Try.func48, Try.ntmps48
    go_wp2_with (go_at_call 45; refine (ridsMay_any _ _ _ _).mono ?_; rintro e w' ⟨rfl, hb⟩; replace hB := thenB hB hb; replace hX := boxB hX hb; replace hY := boxB hY hb; clear hb)
    go_ret2
    exact ⟨rfl, hB⟩
end Go.Proofs.Ytgkmallikomnaaa.IdtWalk
