/- Files: an image, whom it is for, a mark and a sum, on lists and texts. No program is named here. -/
import Derived.Test.YtmlfkbkpkgaefaaGreatDoorBagEnt
import Derived.Test.YtmlfkbkpkgaefaaGreatDoorBagCrc
import Derived.Test.YtmlfkbkpkgaefaaGreatDoorBagOps
namespace Go.Proofs.YtmlfkbkpkgaefaaGreatDoor.Suf
open Go.Proofs.YtmlfkbkpkgaefaaGreatDoor Go.Proofs.YtmlfkbkpkgaefaaGreatDoor.Bytes Go.Proofs.YtmlfkbkpkgaefaaGreatDoor.Ent

theorem byteAt_succ (x i : Nat) : byteAt x (i + 1) = byteAt (x / 256) i := by
  unfold byteAt
  rw [Nat.pow_succ', Nat.div_div_eq_div_mul]
theorem lowL_cons (x k : Nat) : lowL x (k + 1) = byteAt x 0 :: lowL (x / 256) k := by
  unfold lowL
  rw [List.range_succ_eq_map, List.map_cons, List.map_map]
  congr 1
  apply List.map_congr_left
  intro i _
  exact byteAt_succ x i
/-- A text's number, in as many bytes, is the text. -/
theorem low_of (l : List UInt8) : lowL (ofL l) l.length = l := by
  induction l with
  | nil => rfl
  | cons b l ih =>
    have hb := b.toNat_lt
    rw [List.length_cons, lowL_cons]
    have e1 : ofL (b :: l) = b.toNat + 256 * ofL l := rfl
    rw [e1, show (b.toNat + 256 * ofL l) / 256 = ofL l from by omega, ih]
    congr 1
    apply UInt8.toNat_inj.1
    rw [toNat_byteAt, Nat.pow_zero]
    omega
theorem low_ofK {l : List UInt8} {k : Nat} (h : l.length = k) : lowL (ofL l) k = l := by rw [← h]; exact low_of l
theorem of_inj {a b : List UInt8} (h : a.length = b.length) (e : ofL a = ofL b) : a = b := by rw [← low_of a, e, h, low_of b]

def idB (x : Int) : Bool := decide (0 ≤ x ∧ x ≤ 65535)
def idsB (v p r : Int) : Bool := idB v && (idB p && idB r)
def imgB (n : Int) : Bool := decide (1 ≤ n ∧ n ≤ 288)
theorem idB_parts {x : Int} : idB x = true ↔ 0 ≤ x ∧ x ≤ 65535 := by unfold idB; exact decide_eq_true_iff
theorem imgB_parts {n : Int} : imgB n = true ↔ 1 ≤ n ∧ n ≤ 288 := by unfold imgB; exact decide_eq_true_iff
theorem idsB_parts {v p r : Int} : idsB v p r = true ↔ (0 ≤ v ∧ v ≤ 65535) ∧ (0 ≤ p ∧ p ≤ 65535) ∧ 0 ≤ r ∧ r ≤ 65535 := by
  unfold idsB
  rw [Bool.and_eq_true, Bool.and_eq_true, idB_parts, idB_parts, idB_parts]
def bldOk (s : ByteArray) (v p r : Int) : Bool := imgB s.size && idsB v p r
theorem bldOk_parts {s : ByteArray} {v p r : Int} : bldOk s v p r = true ↔ (1 ≤ s.size ∧ s.size ≤ 288) ∧ (0 ≤ v ∧ v ≤ 65535) ∧ (0 ≤ p ∧ p ≤ 65535) ∧ 0 ≤ r ∧ r ≤ 65535 := by
  unfold bldOk
  rw [Bool.and_eq_true, imgB_parts, idsB_parts]
  omega
def markL : List UInt8 := [0, 1, 85, 70, 68, 16]
def markS : ByteArray := ⟨#[0, 1, 85, 70, 68, 16]⟩
theorem list_markS : markS.data.toList = markL := rfl
def toldL (l : List UInt8) (v p r : Nat) : List UInt8 := l ++ (lowL r 2 ++ (lowL p 2 ++ (lowL v 2 ++ markL)))
def fileL (l : List UInt8) (v p r : Nat) : List UInt8 := toldL l v p r ++ lowL (Crc.sum (toldL l v p r)) 4
theorem length_toldL (l : List UInt8) (v p r : Nat) : (toldL l v p r).length = l.length + 12 := by simp [toldL, length_lowL, markL]
theorem length_fileL (l : List UInt8) (v p r : Nat) : (fileL l v p r).length = l.length + 16 := by unfold fileL; rw [List.length_append, length_toldL, length_lowL]
def errF (ok : Bool) : Int := if ok then 0 else 1100
def fileS (s : ByteArray) (v p r : Int) : ByteArray := if bldOk s v p r then ⟨(fileL s.data.toList v.toNat p.toNat r.toNat).toArray⟩ else ⟨#[]⟩
theorem fileS_ok {s : ByteArray} {v p r : Int} (h : bldOk s v p r = true) : fileS s v p r = ⟨(fileL s.data.toList v.toNat p.toNat r.toNat).toArray⟩ := by unfold fileS; rw [if_pos h]
theorem fileS_no {s : ByteArray} {v p r : Int} (h : bldOk s v p r = false) : fileS s v p r = ⟨#[]⟩ := by unfold fileS; rw [h]; rfl
theorem list_fileS {s : ByteArray} {v p r : Int} (h : bldOk s v p r = true) : (fileS s v p r).data.toList = fileL s.data.toList v.toNat p.toNat r.toNat := by rw [fileS_ok h]
theorem size_fileS {s : ByteArray} {v p r : Int} (h : bldOk s v p r = true) : (fileS s v p r).size = s.size + 16 := by
  rw [← Nor.size_list, list_fileS h, length_fileL, Nor.size_list]

def frmB (s : ByteArray) : Bool := imgB ((s.size : Int) - 16) && decide (s.extract (s.size - 10) (s.size - 4) = markS)
def sumB (s : ByteArray) : Bool := decide (ofL (s.extract (s.size - 4) s.size).data.toList = Crc.sum (s.extract 0 (s.size - 4)).data.toList)
def parB (s : ByteArray) : Bool := frmB s && sumB s
def errQ (s : ByteArray) : Int := if frmB s then if sumB s then 0 else 1101 else 1100
def parI (s : ByteArray) : ByteArray := if parB s then s.extract 0 (s.size - 16) else ⟨#[]⟩
def idAt (s : ByteArray) (a b : Nat) : Int := ((ofL (s.extract (s.size - a) (s.size - b)).data.toList : Nat) : Int)
def parV (s : ByteArray) : Int := if parB s then idAt s 12 10 else 0
def parP (s : ByteArray) : Int := if parB s then idAt s 14 12 else 0
def parR (s : ByteArray) : Int := if parB s then idAt s 16 14 else 0
theorem par_no {s : ByteArray} (h : parB s = false) : parI s = ⟨#[]⟩ ∧ parV s = 0 ∧ parP s = 0 ∧ parR s = 0 := by
  unfold parI parV parP parR
  rw [h]
  exact ⟨rfl, rfl, rfl, rfl⟩
theorem par_ok {s : ByteArray} (h : parB s = true) : parI s = s.extract 0 (s.size - 16) ∧ parV s = idAt s 12 10 ∧ parP s = idAt s 14 12 ∧ parR s = idAt s 16 14 := by
  unfold parI parV parP parR
  rw [h]
  exact ⟨rfl, rfl, rfl, rfl⟩
theorem errQ_ok {s : ByteArray} (h : parB s = true) : errQ s = 0 := by
  unfold parB at h
  rw [Bool.and_eq_true] at h
  unfold errQ
  rw [h.1, h.2]
  rfl
theorem errQ_no {s : ByteArray} (h : parB s = false) : ¬ errQ s = 0 := by
  unfold parB at h
  unfold errQ
  cases h1 : frmB s with
  | false => exact (by decide : ¬ (1100 : Int) = 0)
  | true => cases h2 : sumB s with
    | false => decide
    | true => rw [h1, h2] at h; cases h
theorem errQ_iff {s : ByteArray} : errQ s = 0 ↔ parB s = true := by
  cases h : parB s with
  | false => simp [errQ_no h]
  | true => simp [errQ_ok h]
theorem frm_size {s : ByteArray} (h : frmB s = true) : 17 ≤ s.size ∧ s.size ≤ 304 := by
  unfold frmB at h
  rw [Bool.and_eq_true, imgB_parts] at h
  omega
theorem frm_parts {s : ByteArray} : frmB s = true ↔ (17 ≤ s.size ∧ s.size ≤ 304) ∧ s.extract (s.size - 10) (s.size - 4) = markS := by
  unfold frmB
  rw [Bool.and_eq_true, imgB_parts, decide_eq_true_iff]
  have e : (1 ≤ (s.size : Int) - 16 ∧ (s.size : Int) - 16 ≤ 288) ↔ (17 ≤ s.size ∧ s.size ≤ 304) := by omega
  rw [e]
theorem sum_parts {s : ByteArray} : sumB s = true ↔ ofL (s.extract (s.size - 4) s.size).data.toList = Crc.sum (s.extract 0 (s.size - 4)).data.toList := by unfold sumB; exact decide_eq_true_iff
theorem par_parts {s : ByteArray} : parB s = true ↔ frmB s = true ∧ sumB s = true := by unfold parB; rw [Bool.and_eq_true]
theorem size_parI {s : ByteArray} (h : parB s = true) : (parI s).size = s.size - 16 := by
  rw [(par_ok h).1, ByteArray.size_extract]
  omega

/-- A text's parts, as a file has them. -/
structure Is (s : ByteArray) (l A B C M D : List UInt8) : Prop where
  text : s.data.toList = l ++ (A ++ (B ++ (C ++ (M ++ D))))
  a : A.length = 2
  b : B.length = 2
  c : C.length = 2
  m : M.length = 6
  d : D.length = 4
theorem is_of {s : ByteArray} (h : 16 ≤ s.size) : ∃ l A B C M D, Is s l A B C M D := by
  have hl := Nor.size_list s
  refine ⟨s.data.toList.take (s.size - 16), (s.data.toList.drop (s.size - 16)).take 2, ((s.data.toList.drop (s.size - 16)).drop 2).take 2, (((s.data.toList.drop (s.size - 16)).drop 2).drop 2).take 2, ((((s.data.toList.drop (s.size - 16)).drop 2).drop 2).drop 2).take 6, ((((s.data.toList.drop (s.size - 16)).drop 2).drop 2).drop 2).drop 6, ?_, ?_, ?_, ?_, ?_, ?_⟩
  · rw [List.take_append_drop, List.take_append_drop, List.take_append_drop, List.take_append_drop, List.take_append_drop]
  all_goals
    simp only [List.length_take, List.length_drop, hl]
    omega
theorem Is.size {s : ByteArray} {l A B C M D : List UInt8} (h : Is s l A B C M D) : s.size = l.length + 16 := by
  rw [← Nor.size_list, h.text]
  simp only [List.length_append, h.a, h.b, h.c, h.m, h.d]
theorem ext_at {s : ByteArray} {i j : Nat} (a x b : List UInt8) (h : s.data.toList = a ++ (x ++ b)) (hi : i = a.length) (hj : j = a.length + x.length) : (s.extract i j).data.toList = x := by
  subst hi hj
  rw [list_extract, h, List.drop_left, show a.length + x.length - a.length = x.length from by omega, List.take_left]
theorem Is.img {s : ByteArray} {l A B C M D : List UInt8} (h : Is s l A B C M D) : (s.extract 0 (s.size - 16)).data.toList = l := by
  refine ext_at [] l _ h.text rfl ?_
  have := h.size
  simp
  omega
theorem Is.idA {s : ByteArray} {l A B C M D : List UInt8} (h : Is s l A B C M D) : (s.extract (s.size - 16) (s.size - 14)).data.toList = A := by
  have := h.size
  have := h.a
  refine ext_at l A _ h.text ?_ ?_ <;> omega
theorem Is.idB {s : ByteArray} {l A B C M D : List UInt8} (h : Is s l A B C M D) : (s.extract (s.size - 14) (s.size - 12)).data.toList = B := by
  have := h.size
  have := h.a
  have := h.b
  refine ext_at (l ++ A) B _ (by rw [h.text, List.append_assoc]) ?_ ?_ <;> rw [List.length_append] <;> omega
theorem Is.idC {s : ByteArray} {l A B C M D : List UInt8} (h : Is s l A B C M D) : (s.extract (s.size - 12) (s.size - 10)).data.toList = C := by
  have := h.size
  have := h.a
  have := h.b
  have := h.c
  refine ext_at (l ++ (A ++ B)) C (M ++ D) (by rw [h.text]; simp only [List.append_assoc]) ?_ ?_ <;> simp only [List.length_append] <;> omega
theorem Is.mark {s : ByteArray} {l A B C M D : List UInt8} (h : Is s l A B C M D) : (s.extract (s.size - 10) (s.size - 4)).data.toList = M := by
  have := h.size
  have := h.a
  have := h.b
  have := h.c
  have := h.m
  refine ext_at (l ++ (A ++ (B ++ C))) M D (by rw [h.text]; simp only [List.append_assoc]) ?_ ?_ <;> simp only [List.length_append] <;> omega
theorem Is.told {s : ByteArray} {l A B C M D : List UInt8} (h : Is s l A B C M D) : (s.extract 0 (s.size - 4)).data.toList = l ++ (A ++ (B ++ (C ++ M))) := by
  have := h.size
  have := h.a
  have := h.b
  have := h.c
  have := h.m
  refine ext_at [] (l ++ (A ++ (B ++ (C ++ M)))) D (by rw [h.text]; simp only [List.append_assoc, List.nil_append]) rfl ?_
  simp only [List.length_append, List.length_nil]
  omega
theorem Is.sum {s : ByteArray} {l A B C M D : List UInt8} (h : Is s l A B C M D) : (s.extract (s.size - 4) s.size).data.toList = D := by
  have := h.size
  have := h.a
  have := h.b
  have := h.c
  have := h.m
  have := h.d
  refine ext_at (l ++ (A ++ (B ++ (C ++ M)))) D [] (by rw [h.text]; simp only [List.append_assoc, List.append_nil]) ?_ ?_ <;> simp only [List.length_append] <;> omega
/-- What is built, parsed, comes back. -/
theorem parse_build {s : ByteArray} {v p r : Int} (h : bldOk s v p r = true) : parB (fileS s v p r) = true ∧ parI (fileS s v p r) = s ∧ parV (fileS s v p r) = v ∧ parP (fileS s v p r) = p ∧ parR (fileS s v p r) = r := by
  have hp := bldOk_parts.1 h
  have hI : Is (fileS s v p r) s.data.toList (lowL r.toNat 2) (lowL p.toNat 2) (lowL v.toNat 2) markL (lowL (Crc.sum (toldL s.data.toList v.toNat p.toNat r.toNat)) 4) := by
    refine ⟨?_, length_lowL _ _, length_lowL _ _, length_lowL _ _, rfl, length_lowL _ _⟩
    rw [list_fileS h]
    unfold fileL toldL
    simp only [List.append_assoc]
  have hz := size_fileS h
  have hok : parB (fileS s v p r) = true := by
    rw [par_parts, frm_parts, sum_parts]
    refine ⟨⟨by omega, ba_ext ?_⟩, ?_⟩
    · rw [hI.mark, list_markS]
    · rw [hI.sum, hI.told, of_low_lt (Crc.sum_lt _)]
      rfl
  obtain ⟨e1, e2, e3, e4⟩ := par_ok hok
  refine ⟨hok, ba_ext ?_, ?_, ?_, ?_⟩
  · rw [e1, hI.img]
  · rw [e2]
    unfold idAt
    rw [hI.idC, of_low_lt (by omega)]
    omega
  · rw [e3]
    unfold idAt
    rw [hI.idB, of_low_lt (by omega)]
    omega
  · rw [e4]
    unfold idAt
    rw [hI.idA, of_low_lt (by omega)]
    omega
/-- What is parsed, built, is the text. -/
theorem build_parse {s : ByteArray} (h : parB s = true) : bldOk (parI s) (parV s) (parP s) (parR s) = true ∧ fileS (parI s) (parV s) (parP s) (parR s) = s := by
  obtain ⟨h1, h2⟩ := par_parts.1 h
  obtain ⟨h3, h4⟩ := frm_parts.1 h1
  rw [sum_parts] at h2
  obtain ⟨l, A, B, C, M, D, hI⟩ := is_of (s := s) (by omega)
  obtain ⟨e1, e2, e3, e4⟩ := par_ok h
  have e5 := size_parI h
  rw [hI.sum, hI.told] at h2
  have hM : M = markL := by rw [← hI.mark, h4, list_markS]
  have hl : (parI s).data.toList = l := by rw [e1, hI.img]
  unfold idAt at e2 e3 e4
  rw [hI.idC] at e2
  rw [hI.idB] at e3
  rw [hI.idA] at e4
  have bA := ofL_lt A
  have bB := ofL_lt B
  have bC := ofL_lt C
  rw [hI.a] at bA
  rw [hI.b] at bB
  rw [hI.c] at bC
  have hok : bldOk (parI s) (parV s) (parP s) (parR s) = true := by
    rw [bldOk_parts, e2, e3, e4, e5]
    omega
  refine ⟨hok, ba_ext ?_⟩
  rw [list_fileS hok, hl, e2, e3, e4, Int.toNat_natCast, Int.toNat_natCast, Int.toNat_natCast]
  have ht : toldL l (ofL C) (ofL B) (ofL A) = l ++ (A ++ (B ++ (C ++ M))) := by
    unfold toldL
    rw [low_ofK hI.a, low_ofK hI.b, low_ofK hI.c, hM]
  unfold fileL
  rw [ht, ← h2, low_ofK hI.d, hI.text]
  simp only [List.append_assoc]
/-- Unlike images, or numbers, have unlike files. -/
theorem file_inj {s t : ByteArray} {v p r v' p' r' : Int} (h : bldOk s v p r = true) (h' : bldOk t v' p' r' = true) (e : fileS s v p r = fileS t v' p' r') : s = t ∧ v = v' ∧ p = p' ∧ r = r' := by
  obtain ⟨_, a1, a2, a3, a4⟩ := parse_build h
  obtain ⟨_, b1, b2, b3, b4⟩ := parse_build h'
  rw [e] at a1 a2 a3 a4
  exact ⟨a1.symm.trans b1, a2.symm.trans b2, a3.symm.trans b3, a4.symm.trans b4⟩

theorem sum_set (l : List UInt8) (i : Nat) (h : i < l.length) (b : UInt8) (he : Crc.sum (l.set i b) = Crc.sum l) : b = l[i] := by
  have e1 : l.set i b = l.take i ++ b :: l.drop (i + 1) := by rw [List.set_eq_take_append_cons_drop, if_pos h]
  have e2 : l = l.take i ++ l[i] :: l.drop (i + 1) := by rw [← List.drop_eq_getElem_cons h, List.take_append_drop]
  have h1 : Crc.rest 4294967295 (l.set i b) = Crc.rest 4294967295 l := Crc.xor_inj_right _ _ 4294967295 he
  rw [e1] at h1
  generalize l[i] = a at *
  rw [e2, Crc.rest_append, Crc.rest_append, Crc.rest_cons, Crc.rest_cons] at h1
  have hr : Crc.rest 4294967295 (l.take i) < 4294967296 := Crc.rest_lt _ _ (by omega)
  have e3 : (l.take i ++ a :: l.drop (i + 1)).take i = l.take i := by
    rw [List.take_append_of_le_length (by rw [List.length_take]; omega), List.take_take, Nat.min_self]
  have e4 : (l.take i ++ a :: l.drop (i + 1)).drop (i + 1) = l.drop (i + 1) := by rw [← e2]
  rw [e3, e4] at h1
  have h2 := Crc.rest_inj _ _ _ (Crc.byte1_lt _ _ hr) (Crc.byte1_lt _ _ hr) h1
  have h3 := Crc.bitN_inj 8 _ _ (Crc.xor_lt _ _ hr (Crc.u8_lt b)) (Crc.xor_lt _ _ hr (Crc.u8_lt a)) h2
  have h4 : b.toNat = a.toNat := by
    rw [Nat.xor_comm, Nat.xor_comm _ a.toNat] at h3
    exact Crc.xor_inj_right _ _ _ h3
  exact UInt8.toNat_inj.1 h4
/-- The text t is s, but for the byte at k, which is another one. -/
structure Turned (s t : ByteArray) (k : Nat) (b : UInt8) : Prop where
  text : t.data.toList = s.data.toList.set k b
  at_ : k < s.data.toList.length
  ne : ¬ b = s.data.toList[k]
theorem Turned.size {s t : ByteArray} {k : Nat} {b : UInt8} (h : Turned s t k b) : t.size = s.size := by rw [← Nor.size_list, ← Nor.size_list, h.text, List.length_set]
theorem ext_set {s t : ByteArray} {k : Nat} {b : UInt8} (h : t.data.toList = s.data.toList.set k b) (i j : Nat) : (k < i ∨ j ≤ k → t.extract i j = s.extract i j) ∧ (i ≤ k → (t.extract i j).data.toList = (s.extract i j).data.toList.set (k - i) b) := by
  refine ⟨fun hk => ba_ext ?_, fun hk => ?_⟩
  · rw [list_extract, list_extract, h, List.drop_set]
    rcases hk with hk | hk
    · rw [if_pos hk]
    · by_cases hi : k < i
      · rw [if_pos hi]
      · rw [if_neg hi, List.take_set, List.set_eq_of_length_le]
        rw [List.length_take]
        omega
  · rw [list_extract, list_extract, h, List.drop_set, if_neg (by omega), List.take_set]
theorem set_ne {l : List UInt8} {k : Nat} {b : UInt8} (h : k < l.length) (hb : ¬ b = l[k]) : ¬ l.set k b = l := fun e => by
  have : (l.set k b)[k]'(by rw [List.length_set]; exact h) = l[k] := by simp only [e]
  rw [List.getElem_set_self] at this
  exact hb this
theorem ext_get {s : ByteArray} {i j k : Nat} (h1 : i ≤ k) (h2 : k < j) (h : k < s.data.toList.length) : ∃ h' : k - i < (s.extract i j).data.toList.length, (s.extract i j).data.toList[k - i] = s.data.toList[k] := by
  have h' : k - i < (s.extract i j).data.toList.length := by rw [list_extract, List.length_take, List.length_drop]; omega
  refine ⟨h', ?_⟩
  have e : (s.extract i j).data.toList[k - i]? = s.data.toList[k]? := by rw [list_extract, List.getElem?_take, if_pos (by omega), List.getElem?_drop, show i + (k - i) = k from by omega]
  rw [List.getElem?_eq_getElem h', List.getElem?_eq_getElem h] at e
  exact Option.some.inj e
theorem turned_mark {s t : ByteArray} {k : Nat} {b : UInt8} (hs : parB s = true) (h : Turned s t k b) (h1 : s.size - 10 ≤ k) (h2 : k < s.size - 4) : errQ t = 1100 := by
  have hf : frmB t = false := by
    cases hc : frmB t with
    | false => rfl
    | true =>
      exfalso
      obtain ⟨_, g⟩ := frm_parts.1 (par_parts.1 hs).1
      obtain ⟨_, f⟩ := frm_parts.1 hc
      have e := (ext_set h.text (s.size - 10) (s.size - 4)).2 h1
      rw [h.size] at f
      rw [f] at e
      obtain ⟨h', he⟩ := ext_get h1 h2 h.at_
      refine set_ne h' (by rw [he]; exact h.ne) ?_
      rw [← e, g]
  unfold errQ
  rw [hf]
  rfl
theorem turned_sum {s t : ByteArray} {k : Nat} {b : UInt8} (hs : parB s = true) (h : Turned s t k b) (h1 : k < s.size - 10 ∨ s.size - 4 ≤ k) : errQ t = 1101 := by
  have hz := h.size
  obtain ⟨g1, g2⟩ := par_parts.1 hs
  obtain ⟨g3, g4⟩ := frm_parts.1 g1
  rw [sum_parts] at g2
  have hk : k < s.size := by have := h.at_; rw [Nor.size_list] at this; exact this
  have hf : frmB t = true := by
    rw [frm_parts, hz, (ext_set h.text (s.size - 10) (s.size - 4)).1 (by omega)]
    exact ⟨g3, g4⟩
  have hn : sumB t = false := by
    cases hc : sumB t with
    | false => rfl
    | true =>
      exfalso
      rw [sum_parts, hz] at hc
      rcases h1 with h1 | h1
      · rw [(ext_set h.text (s.size - 4) s.size).1 (by omega), (ext_set h.text 0 (s.size - 4)).2 (by omega), g2] at hc
        obtain ⟨h', he⟩ := ext_get (i := 0) (j := s.size - 4) (Nat.zero_le k) (by omega) h.at_
        have := sum_set _ _ h' _ hc.symm
        rw [he] at this
        exact h.ne this
      · rw [(ext_set h.text 0 (s.size - 4)).1 (by omega), (ext_set h.text (s.size - 4) s.size).2 (by omega), ← g2] at hc
        obtain ⟨h', he⟩ := ext_get (i := s.size - 4) (j := s.size) h1 (by omega) h.at_
        have := of_inj (by rw [List.length_set]) hc
        exact set_ne h' (by rw [he]; exact h.ne) this
  unfold errQ
  rw [hf, hn]
  rfl
theorem errQ_far {s : ByteArray} (h : s.size < 17 ∨ 304 < s.size) : errQ s = 1100 := by
  have hf : frmB s = false := by
    cases hc : frmB s with
    | false => rfl
    | true => exfalso; have := frm_size hc; omega
  unfold errQ
  rw [hf]
  rfl
end Go.Proofs.YtmlfkbkpkgaefaaGreatDoor.Suf

/- Answers in six bytes, on numbers, lists and texts. No program is named here. -/
namespace Go.Proofs.YtmlfkbkpkgaefaaGreatDoor.Ans
open Go.Proofs.YtmlfkbkpkgaefaaGreatDoor Go.Proofs.YtmlfkbkpkgaefaaGreatDoor.Bytes Go.Proofs.YtmlfkbkpkgaefaaGreatDoor.Ent

def stB (c : Int) : Bool := decide (0 ≤ c ∧ c ≤ 6)
theorem stB_parts {c : Int} : stB c = true ↔ 0 ≤ c ∧ c ≤ 6 := by unfold stB; exact decide_eq_true_iff
def saB (c : Int) : Bool := decide (0 ≤ c ∧ c ≤ 7)
theorem saB_parts {c : Int} : saB c = true ↔ 0 ≤ c ∧ c ≤ 7 := by unfold saB; exact decide_eq_true_iff
def ansB (c v n : Int) : Bool := decide (0 ≤ c ∧ c ≤ 6 ∧ 0 ≤ v ∧ v ≤ 255 ∧ 0 ≤ n ∧ n ≤ 7)
theorem ansB_parts {c v n : Int} : ansB c v n = true ↔ 0 ≤ c ∧ c ≤ 6 ∧ 0 ≤ v ∧ v ≤ 255 ∧ 0 ≤ n ∧ n ≤ 7 := by unfold ansB; exact decide_eq_true_iff
theorem ansB_no {c v n : Int} (h : ¬ (0 ≤ c ∧ c ≤ 6 ∧ 0 ≤ v ∧ v ≤ 255 ∧ 0 ≤ n ∧ n ≤ 7)) : ansB c v n = false := by unfold ansB; exact decide_eq_false h
def errW (ok : Bool) : Int := if ok then 0 else 1400
theorem errW_t {ok : Bool} (h : ok = true) : errW ok = 0 := by rw [h]; rfl
theorem errW_f {ok : Bool} (h : ok = false) : errW ok = 1400 := by rw [h]; rfl
theorem errW_iff (ok : Bool) : errW ok = 0 ↔ ok = true := by cases ok <;> decide
def ansL (c v n : Int) : List UInt8 := lowL c.toNat 1 ++ lowL v.toNat 3 ++ lowL n.toNat 1 ++ lowL 0 1
theorem length_ansL (c v n : Int) : (ansL c v n).length = 6 := by simp [ansL, length_lowL]
def ansS (c v n : Int) : ByteArray := if ansB c v n then ⟨(ansL c v n).toArray⟩ else ⟨#[]⟩
theorem ansS_ok {c v n : Int} (h : ansB c v n = true) : ansS c v n = ⟨(ansL c v n).toArray⟩ := by unfold ansS; rw [if_pos h]
theorem ansS_no {c v n : Int} (h : ansB c v n = false) : ansS c v n = ⟨#[]⟩ := by unfold ansS; rw [h]; rfl
theorem list_ansS {c v n : Int} (h : ansB c v n = true) : (ansS c v n).data.toList = ansL c v n := by rw [ansS_ok h]
theorem size_ansS {c v n : Int} (h : ansB c v n = true) : (ansS c v n).size = 6 := by rw [← Nor.size_list, list_ansS h, length_ansL]

def rSt (l : List UInt8) : Nat := ofL ((l.drop 0).take 1)
def rTi (l : List UInt8) : Nat := ofL ((l.drop 1).take 3)
def rSa (l : List UInt8) : Nat := ofL ((l.drop 4).take 1)
/-- Is the text an answer? -/
def isAns (s : ByteArray) : Bool := decide (s.size = 6 ∧ ansB (rSt s.data.toList) (rTi s.data.toList) (rSa s.data.toList) = true ∧ ansL (rSt s.data.toList) (rTi s.data.toList) (rSa s.data.toList) = s.data.toList)
theorem isAns_parts {s : ByteArray} : isAns s = true ↔ s.size = 6 ∧ ansB (rSt s.data.toList) (rTi s.data.toList) (rSa s.data.toList) = true ∧ ansL (rSt s.data.toList) (rTi s.data.toList) (rSa s.data.toList) = s.data.toList := by unfold isAns; exact decide_eq_true_iff
def aSt (s : ByteArray) : Int := if isAns s then (rSt s.data.toList : Int) else 0
def aTi (s : ByteArray) : Int := if isAns s then (rTi s.data.toList : Int) else 0
def aSa (s : ByteArray) : Int := if isAns s then (rSa s.data.toList : Int) else 0
theorem ans_none {s : ByteArray} (h : isAns s = false) : aSt s = 0 ∧ aTi s = 0 ∧ aSa s = 0 := by
  unfold aSt aTi aSa
  rw [h]
  exact ⟨rfl, rfl, rfl⟩
theorem ans_ok {s : ByteArray} (h : isAns s = true) : aSt s = (rSt s.data.toList : Int) ∧ aTi s = (rTi s.data.toList : Int) ∧ aSa s = (rSa s.data.toList : Int) := by
  unfold aSt aTi aSa
  rw [h]
  exact ⟨rfl, rfl, rfl⟩
/-- What is got, put, is the text. -/
theorem put_ans {s : ByteArray} (h : isAns s = true) : ansB (aSt s) (aTi s) (aSa s) = true ∧ ansS (aSt s) (aTi s) (aSa s) = s := by
  obtain ⟨e1, e2, e3⟩ := ans_ok h
  obtain ⟨_, h2, h3⟩ := isAns_parts.1 h
  rw [e1, e2, e3]
  refine ⟨h2, ba_ext ?_⟩
  rw [list_ansS h2]
  exact h3
/-- An answer's bytes, part by part. -/
theorem parts {c v n : Int} (h : ansB c v n = true) : rSt (ansL c v n) = c.toNat ∧ rTi (ansL c v n) = v.toNat ∧ rSa (ansL c v n) = n.toNat := by
  have hp := ansB_parts.1 h
  have lc := length_lowL c.toNat 1
  have lv := length_lowL v.toNat 3
  have ln := length_lowL n.toNat 1
  have lz := length_lowL 0 1
  have ec : ofL (lowL c.toNat 1) = c.toNat := of_low_lt (by omega)
  have ev : ofL (lowL v.toNat 3) = v.toNat := of_low_lt (by omega)
  have en : ofL (lowL n.toNat 1) = n.toNat := of_low_lt (by omega)
  unfold rSt rTi rSa ansL
  generalize lowL c.toNat 1 = A at *
  generalize lowL v.toNat 3 = B at *
  generalize lowL n.toNat 1 = D at *
  generalize lowL 0 1 = Z at *
  match A, B, D, Z, lc, lv, ln, lz with
  | [_], [_, _, _], [_], [_], _, _, _, _ => exact ⟨ec, ev, en⟩
/-- What is put, got, is the answer. -/
theorem ans_put {c v n : Int} (h : ansB c v n = true) : isAns (ansS c v n) = true ∧ aSt (ansS c v n) = c ∧ aTi (ansS c v n) = v ∧ aSa (ansS c v n) = n := by
  have hp := ansB_parts.1 h
  have e := list_ansS h
  obtain ⟨e1, e2, e3⟩ := parts h
  have c1 : (c.toNat : Int) = c := by omega
  have c2 : (v.toNat : Int) = v := by omega
  have c3 : (n.toNat : Int) = n := by omega
  have hok : isAns (ansS c v n) = true := by
    rw [isAns_parts, e, e1, e2, e3, c1, c2, c3]
    exact ⟨size_ansS h, h, rfl⟩
  obtain ⟨g1, g2, g3⟩ := ans_ok hok
  rw [g1, g2, g3, e, e1, e2, e3]
  exact ⟨hok, c1, c2, c3⟩
/-- Unlike answers have unlike bytes. -/
theorem ans_inj {c v n c' v' n' : Int} (h : ansB c v n = true) (h' : ansB c' v' n' = true) (e : ansS c v n = ansS c' v' n') : c = c' ∧ v = v' ∧ n = n' := by
  obtain ⟨_, a1, a2, a3⟩ := ans_put h
  obtain ⟨_, b1, b2, b3⟩ := ans_put h'
  rw [e] at a1 a2 a3
  exact ⟨a1.symm.trans b1, a2.symm.trans b2, a3.symm.trans b3⟩
/-- A text that is another one tells none, or another answer. -/
theorem ans_other {c v n : Int} {s : ByteArray} (hne : ¬ s = ansS c v n) : isAns s = false ∨ (isAns s = true ∧ ¬ (aSt s = c ∧ aTi s = v ∧ aSa s = n)) := by
  cases k : isAns s with
  | false => exact .inl rfl
  | true =>
    refine .inr ⟨rfl, fun e => hne ?_⟩
    obtain ⟨_, u⟩ := put_ans k
    rw [e.1, e.2.1, e.2.2] at u
    exact u.symm
/-- An answer's bytes, one by one. -/
theorem bytes {c v n : Int} : ansL c v n = [byteAt c.toNat 0, byteAt v.toNat 0, byteAt v.toNat 1, byteAt v.toNat 2, byteAt n.toNat 0, 0] := rfl
end Go.Proofs.YtmlfkbkpkgaefaaGreatDoor.Ans

/- The contracts of package answer: each call returns what the plain functions give, whatever its arguments; of what was there nothing has turned. -/
namespace Go.Proofs.YtmlfkbkpkgaefaaGreatDoor.AnsWalk
open Go.Proofs.YtmlfkbkpkgaefaaGreatDoor Go.RowKit Go.Proofs.YtmlfkbkpkgaefaaGreatDoor.Bytes Go.Proofs.YtmlfkbkpkgaefaaGreatDoor.NorWalk Go.Proofs.YtmlfkbkpkgaefaaGreatDoor.Ent Go.Proofs.YtmlfkbkpkgaefaaGreatDoor.EntLow Go.Proofs.YtmlfkbkpkgaefaaGreatDoor.Ans
open Go.Proofs.YtmlfkbkpkgaefaaGreatDoor.EntRow (text_ne size_alloc1)
open Go.Proofs.YtmlfkbkpkgaefaaGreatDoor.EntWalk (lowT size_lowT list_lowT numS ext_le)
open Go.Proofs.YtmlfkbkpkgaefaaGreatDoor.EntWalk (lowT_any)
open Go.Proofs.YtmlfkbkpkgaefaaGreatDoor.EntWalk (num_low)
open Go.Proofs.YtmlfkbkpkgaefaaGreatDoor.OpsRow (boxM boxB boxD thenD)
attribute [local go_sem ↓] Go.wp_at_zero Go.wp_at_succ

theorem num_any (n : Int) (w : World) : Calls Tryz.prog 11 #[.int .i64 n] w fun e w' => e = .returned (.int .i64 n) ∧ w' = w := by
  go_enter Tryz.func11, Tryz.ntmps11
  go_wp2
  go_ret
  exact ⟨rfl, rfl⟩
theorem mayStatus_any (n : Int) (w : World) : Calls Tryz.prog 76 #[.int .i64 n] w fun e w' => e = .returned (.bool (stB n)) ∧ w' = w := by
  go_enter Tryz.func76, Tryz.ntmps76
  go_wp2
  all_goals
    go_ret
    exact ⟨ret_bool (by unfold stB; rw [Bool.eq_iff_iff]; simp; try omega), rfl⟩
theorem mayState_any (n : Int) (w : World) : Calls Tryz.prog 77 #[.int .i64 n] w fun e w' => e = .returned (.bool (saB n)) ∧ w' = w := by
  go_enter Tryz.func77, Tryz.ntmps77
  go_wp2
  all_goals
    go_ret
    exact ⟨ret_bool (by unfold saB; rw [Bool.eq_iff_iff]; simp; try omega), rfl⟩
theorem may_ways (c v n : Int) : (stB c = false ∧ ansB c v n = false) ∨ (stB c = true ∧ ¬ 0 ≤ v ∧ ansB c v n = false) ∨ (stB c = true ∧ 0 ≤ v ∧ ¬ v ≤ 255 ∧ ansB c v n = false) ∨ (stB c = true ∧ 0 ≤ v ∧ v ≤ 255 ∧ saB n = false ∧ ansB c v n = false) ∨ (stB c = true ∧ 0 ≤ v ∧ v ≤ 255 ∧ saB n = true ∧ ansB c v n = true) := by
  unfold stB saB ansB
  simp only [decide_eq_true_eq, decide_eq_false_iff_not]
  omega
set_option maxRecDepth 100000 in
set_option maxHeartbeats 1000000 in
theorem amay_any (c v n : Int) (w : World) : Calls Tryz.prog 50 #[.agg #[.int .i64 c, .int .i64 v, .int .i64 n]] w fun e w' => e = .returned (.bool (ansB c v n)) ∧ Below w.heap.size w w' := by
  have hX := boxM w (.int .i64 c) (.int .i64 v) (.int .i64 n) 52
  rcases may_ways c v n with ⟨h1, h⟩ | ⟨h1, h2, h⟩ | ⟨h1, h2, h3, h⟩ | ⟨h1, h2, h3, h4, h⟩ | ⟨h1, h2, h3, h4, h⟩
  all_goals
    rw [h]
    clear h
    go_enter Tryz.func50, Tryz.ntmps50
    go_wp2_with (first | (go_at_call 76; refine (mayStatus_any _ _).mono ?_; rintro e w' ⟨rfl, rfl⟩) | (go_at_call 77; refine (mayState_any _ _).mono ?_; rintro e w' ⟨rfl, rfl⟩))
    go_ret
    first | exact ⟨rfl, (Below.refl _ _).alloc (Nat.le_refl _) _⟩ | exact ⟨ret_bool (decide_eq_false (by omega)), (Below.refl _ _).alloc (Nat.le_refl _) _⟩ | exact ⟨ret_bool (decide_eq_true (by omega)), (Below.refl _ _).alloc (Nat.le_refl _) _⟩
set_option maxRecDepth 100000 in
set_option maxHeartbeats 1000000 in
theorem aput_no (c v n : Int) (w : World) (h : ansB c v n = false) : Calls Tryz.prog 91 #[.agg #[.int .i64 c, .int .i64 v, .int .i64 n]] w fun e w' => e = .returned (.tuple #[.string ⟨#[]⟩, .int .i64 1400]) ∧ Below w.heap.size w w' := by
  have hB := (Below.refl w.heap.size w).alloc (Nat.le_refl _) (.cells #[.int .i64 c, .int .i64 v, .int .i64 n] 52)
  have hX := boxM w (.int .i64 c) (.int .i64 v) (.int .i64 n) 52
  go_enter Tryz.func91, Tryz.ntmps91
  go_wp2_with (go_at_call 50; refine (amay_any _ _ _ _).mono ?_; rintro e w' ⟨rfl, hb⟩; replace hB := hB.trans (hb.mono hB.size); replace hX := boxB hX hb; clear hb)
  go_ret2
  exact ⟨rfl, hB⟩
theorem laid {c v n : Int} (h : ansB c v n = true) : lowT c 1 ++ lowT v 3 ++ lowT n 1 ++ lowT 0 1 = ansS c v n := by
  apply ba_ext
  rw [list_ansS h, list_append, list_append, list_append, list_lowT, list_lowT, list_lowT, list_lowT]
  rfl
set_option maxRecDepth 100000 in
set_option maxHeartbeats 4000000 in
theorem aput_yes (c v n : Int) (w : World) (h : ansB c v n = true) : Calls Tryz.prog 91 #[.agg #[.int .i64 c, .int .i64 v, .int .i64 n]] w fun e w' => e = .returned (.tuple #[.string (ansS c v n), .int .i64 0]) ∧ Below w.heap.size w w' := by
  have hB := (Below.refl w.heap.size w).alloc (Nat.le_refl _) (.cells #[.int .i64 c, .int .i64 v, .int .i64 n] 52)
  have hX := boxM w (.int .i64 c) (.int .i64 v) (.int .i64 n) 52
  obtain ⟨p1, _, p2, _, p3, _⟩ := ansB_parts.1 h
  have p4 : (0 : Int) ≤ 0 := by omega
  have HP := hide (laid h)
  have a1 : (lowT c 1).size ≤ 1 := size_lowT c 1
  have b1 : (lowT v 3).size ≤ 3 := size_lowT v 3
  have c1 : (lowT n 1).size ≤ 1 := size_lowT n 1
  have d1 : (lowT 0 1).size ≤ 1 := size_lowT 0 1
  have n1 : ¬ 9223372036854775807 < (lowT c 1).size + (lowT v 3).size := by omega
  have n2 : ¬ 9223372036854775807 < (lowT c 1).size + (lowT v 3).size + (lowT n 1).size := by omega
  have n3 : ¬ 9223372036854775807 < (lowT c 1).size + (lowT v 3).size + (lowT n 1).size + (lowT 0 1).size := by omega
  go_enter Tryz.func91, Tryz.ntmps91
  go_wp2_with (go_at_call 50; refine (amay_any _ _ _ _).mono ?_; rintro e w' ⟨rfl, hb⟩; replace hB := hB.trans (hb.mono hB.size); replace hX := boxB hX hb; clear hb)
  go_region_held3 (fun W => W.cell? ⟨w.heap.size, 0, none⟩ = some (.int .i64 c) ∧ W.cell? ⟨w.heap.size, 1, none⟩ = some (.int .i64 v) ∧ W.cell? ⟨w.heap.size, 2, none⟩ = some (.int .i64 n)) (go_keep) (first | (go_at_call 96; refine (lowT_any _ _ _ (by assumption) (by decide) (by decide)).mono ?_; rintro e w' ⟨rfl, hb⟩; replace hB := thenD hb hB rfl rfl rfl rfl; replace hX := boxD hb hX; clear hb))
  go_wp2
  go_ret2
  exact ⟨ret_text HP.out rfl, hB⟩
theorem aput_any (c v n : Int) (w : World) : Calls Tryz.prog 91 #[.agg #[.int .i64 c, .int .i64 v, .int .i64 n]] w fun e w' => e = .returned (.tuple #[.string (ansS c v n), .int .i64 (errW (ansB c v n))]) ∧ Below w.heap.size w w' := by
  cases h : ansB c v n with
  | false => rw [ansS_no h]; exact aput_no c v n w h
  | true => exact aput_yes c v n w h

theorem num_parts (s : ByteArray) : numS (s.extract 0 1) = (rSt s.data.toList : Int) ∧ numS (s.extract 1 4) = (rTi s.data.toList : Int) ∧ numS (s.extract 4 5) = (rSa s.data.toList : Int) := by
  unfold numS rSt rTi rSa
  rw [list_extract, list_extract, list_extract]
  exact ⟨rfl, rfl, rfl⟩
/-- A text of six bytes: no answer's numbers; numbers of one, but other bytes; one. -/
theorem ans_ways {s : ByteArray} (h1 : s.size = 6) : (ansB (numS (s.extract 0 1)) (numS (s.extract 1 4)) (numS (s.extract 4 5)) = false ∧ isAns s = false) ∨ (ansB (numS (s.extract 0 1)) (numS (s.extract 1 4)) (numS (s.extract 4 5)) = true ∧ ¬ ansS (numS (s.extract 0 1)) (numS (s.extract 1 4)) (numS (s.extract 4 5)) = s ∧ isAns s = false) ∨ (ansB (numS (s.extract 0 1)) (numS (s.extract 1 4)) (numS (s.extract 4 5)) = true ∧ ansS (numS (s.extract 0 1)) (numS (s.extract 1 4)) (numS (s.extract 4 5)) = s ∧ isAns s = true) := by
  obtain ⟨e1, e2, e3⟩ := num_parts s
  rw [e1, e2, e3]
  cases h2 : ansB (rSt s.data.toList) (rTi s.data.toList) (rSa s.data.toList) with
  | false =>
    refine .inl ⟨rfl, ?_⟩
    unfold isAns
    exact decide_eq_false (fun h => by rw [h2] at h; exact absurd h.2.1 (by decide))
  | true =>
    by_cases h3 : ansS (rSt s.data.toList) (rTi s.data.toList) (rSa s.data.toList) = s
    · exact .inr (.inr ⟨rfl, h3, isAns_parts.2 ⟨h1, h2, (list_ansS h2).symm.trans (congrArg (fun x => x.data.toList) h3)⟩⟩)
    · refine .inr (.inl ⟨rfl, h3, ?_⟩)
      unfold isAns
      refine decide_eq_false (fun h => h3 (ba_ext ?_))
      rw [list_ansS h2]
      exact h.2.2
theorem build_ans (c v n : Int) (w : World) : (Instr.build 52 #[(0, .int .i64 c), (1, .int .i64 v), (2, .int .i64 n)]).run Tryz.prog w = .ok (.agg #[.int .i64 c, .int .i64 v, .int .i64 n]) w := run_build w 52 _ _ (by kernel_rfl)
theorem build_no (w : World) : (Instr.build 52 #[]).run Tryz.prog w = .ok (.agg #[.int .i64 0, .int .i64 0, .int .i64 0]) w := run_build w 52 _ _ (by kernel_rfl)
theorem build_c (v : Int) (w : World) : (Instr.build 52 #[(0, .int .i64 v)]).run Tryz.prog w = .ok (.agg #[.int .i64 v, .int .i64 0, .int .i64 0]) w := run_build w 52 _ _ (by kernel_rfl)
theorem build_v (v : Int) (w : World) : (Instr.build 52 #[(1, .int .i64 v)]).run Tryz.prog w = .ok (.agg #[.int .i64 0, .int .i64 v, .int .i64 0]) w := run_build w 52 _ _ (by kernel_rfl)
theorem build_n (v : Int) (w : World) : (Instr.build 52 #[(2, .int .i64 v)]).run Tryz.prog w = .ok (.agg #[.int .i64 0, .int .i64 0, .int .i64 v]) w := run_build w 52 _ _ (by kernel_rfl)
/-- A struct of three cells in a block of its own that may be written. -/
theorem resM (w : World) (x y z : Value) (e : TypeId) : w.heap.size < (w.alloc (.cells #[x, y, z] e)).heap.size ∧ (w.alloc (.cells #[x, y, z] e)).cell? ⟨w.heap.size, 0, none⟩ = some x ∧ (w.alloc (.cells #[x, y, z] e)).cell? ⟨w.heap.size, 1, none⟩ = some y ∧ (w.alloc (.cells #[x, y, z] e)).cell? ⟨w.heap.size, 2, none⟩ = some z ∧ ∀ i, (w.alloc (.cells #[x, y, z] e)).frozen? ⟨w.heap.size, i, none⟩ = false := by
  obtain ⟨h1, h2, h3, h4⟩ := boxM w x y z e
  exact ⟨h1, h2, h3, h4, fun i => World.frozen?_alloc_at _ e _ i rfl⟩
theorem resB {w w' : World} {B : Nat} {x y z : Value} (h : B < w.heap.size ∧ w.cell? ⟨B, 0, none⟩ = some x ∧ w.cell? ⟨B, 1, none⟩ = some y ∧ w.cell? ⟨B, 2, none⟩ = some z ∧ ∀ i, w.frozen? ⟨B, i, none⟩ = false) (hb : Below w.heap.size w w') :
    B < w'.heap.size ∧ w'.cell? ⟨B, 0, none⟩ = some x ∧ w'.cell? ⟨B, 1, none⟩ = some y ∧ w'.cell? ⟨B, 2, none⟩ = some z ∧ ∀ i, w'.frozen? ⟨B, i, none⟩ = false := by
  obtain ⟨h0, h1, h2, h3, h4⟩ := h
  obtain ⟨g0, g1, g2, g3⟩ := boxB ⟨h0, h1, h2, h3⟩ hb
  exact ⟨g0, g1, g2, g3, fun i => by rw [hb.frozen (p := ⟨B, i, none⟩) h0]; exact h4 i⟩
/-- A struct's three cells, stored. -/
theorem set3 {B0 : Nat} {w w' : World} {B : Nat} {x y z : Value} (h : Below B0 w w') (hB : B0 ≤ B) : Below B0 w (((w'.setCell ⟨B, 0, none⟩ x).setCell ⟨B, 1, none⟩ y).setCell ⟨B, 2, none⟩ z) := ((h.setCell (p := ⟨B, 0, none⟩) hB _).setCell (p := ⟨B, 1, none⟩) hB _).setCell (p := ⟨B, 2, none⟩) hB _
theorem ret_ans {a b c e a' b' c' e' : Int} (h : a = a' ∧ b = b' ∧ c = c' ∧ e = e') : Ending.returned (.tuple #[.agg #[.int .i64 a, .int .i64 b, .int .i64 c], .int .i64 e]) = .returned (.tuple #[.agg #[.int .i64 a', .int .i64 b', .int .i64 c'], .int .i64 e']) := by
  obtain ⟨rfl, rfl, rfl, rfl⟩ := h
  rfl
theorem zero_ans {s : ByteArray} (h : isAns s = false) : (0 : Int) = aSt s ∧ (0 : Int) = aTi s ∧ (0 : Int) = aSa s ∧ (1400 : Int) = errW (isAns s) := by
  obtain ⟨g1, g2, g3⟩ := ans_none h
  exact ⟨g1.symm, g2.symm, g3.symm, (errW_f h).symm⟩
theorem some_ans {s : ByteArray} (h : isAns s = true) : numS (s.extract 0 1) = aSt s ∧ numS (s.extract 1 4) = aTi s ∧ numS (s.extract 4 5) = aSa s ∧ (0 : Int) = errW (isAns s) := by
  obtain ⟨g1, g2, g3⟩ := ans_ok h
  obtain ⟨f1, f2, f3⟩ := num_parts s
  exact ⟨f1.trans g1.symm, f2.trans g2.symm, f3.trans g3.symm, (errW_t h).symm⟩
end Go.Proofs.YtmlfkbkpkgaefaaGreatDoor.AnsWalk
