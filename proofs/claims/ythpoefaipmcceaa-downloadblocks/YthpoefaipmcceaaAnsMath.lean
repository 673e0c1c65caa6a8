/- Answers in six bytes, on numbers, lists and texts. No program is named here. -/
import Derived.Test.YthpoefaipmcceaaEntMath
import Derived.Test.YthpoefaipmcceaaSufMath
namespace Go.Proofs.Ythpoefaipmcceaa.Ans
open Go.Proofs.Ythpoefaipmcceaa Go.Proofs.Ythpoefaipmcceaa.Bytes Go.Proofs.Ythpoefaipmcceaa.Ent

def stB (c : Int) : Bool := decide (0 ≤ c ∧ c ≤ 6)
theorem stB_parts {c : Int} : stB c = true ↔ 0 ≤ c ∧ c ≤ 6 := by unfold stB; exact decide_eq_true_iff
def saB (c : Int) : Bool := decide (0 ≤ c ∧ c ≤ 7)
theorem saB_parts {c : Int} : saB c = true ↔ 0 ≤ c ∧ c ≤ 7 := by unfold saB; exact decide_eq_true_iff
def ansB (c v n : Int) : Bool := decide (0 ≤ c ∧ c ≤ 6 ∧ 0 ≤ v ∧ v ≤ 255 ∧ 0 ≤ n ∧ n ≤ 7)
theorem ansB_parts {c v n : Int} : ansB c v n = true ↔ 0 ≤ c ∧ c ≤ 6 ∧ 0 ≤ v ∧ v ≤ 255 ∧ 0 ≤ n ∧ n ≤ 7 := by unfold ansB; exact decide_eq_true_iff
theorem ansB_no {c v n : Int} (h : ¬ (0 ≤ c ∧ c ≤ 6 ∧ 0 ≤ v ∧ v ≤ 255 ∧ 0 ≤ n ∧ n ≤ 7)) : ansB c v n = false := by unfold ansB; exact decide_eq_false h
def errW (ok : Bool) : Int := if ok then 0 else 1400
theorem errW_t {ok : Bool} (h : ok = true) : errW ok = 0 := by rw [h]; rfl
theorem errW_f {ok : Bool} (h : ok = false) : errW ok = 1400 := by rw [h]; rfl
theorem errW_iff (ok : Bool) : errW ok = 0 ↔ ok = true := by cases ok <;> decide
def ansL (c v n : Int) : List UInt8 := lowL c.toNat 1 ++ lowL v.toNat 3 ++ lowL n.toNat 1 ++ lowL 0 1
theorem length_ansL (c v n : Int) : (ansL c v n).length = 6 := by simp [ansL, length_lowL]
def ansS (c v n : Int) : ByteArray := if ansB c v n then ⟨(ansL c v n).toArray⟩ else ⟨#[]⟩
theorem ansS_ok {c v n : Int} (h : ansB c v n = true) : ansS c v n = ⟨(ansL c v n).toArray⟩ := by unfold ansS; rw [if_pos h]
theorem ansS_no {c v n : Int} (h : ansB c v n = false) : ansS c v n = ⟨#[]⟩ := by unfold ansS; rw [h]; rfl
theorem list_ansS {c v n : Int} (h : ansB c v n = true) : (ansS c v n).data.toList = ansL c v n := by rw [ansS_ok h]
theorem size_ansS {c v n : Int} (h : ansB c v n = true) : (ansS c v n).size = 6 := by rw [← Nor.size_list, list_ansS h, length_ansL]

def rSt (l : List UInt8) : Nat := ofL ((l.drop 0).take 1)
def rTi (l : List UInt8) : Nat := ofL ((l.drop 1).take 3)
def rSa (l : List UInt8) : Nat := ofL ((l.drop 4).take 1)
/-- Is the text an answer? -/
def isAns (s : ByteArray) : Bool := decide (s.size = 6 ∧ ansB (rSt s.data.toList) (rTi s.data.toList) (rSa s.data.toList) = true ∧ ansL (rSt s.data.toList) (rTi s.data.toList) (rSa s.data.toList) = s.data.toList)
theorem isAns_parts {s : ByteArray} : isAns s = true ↔ s.size = 6 ∧ ansB (rSt s.data.toList) (rTi s.data.toList) (rSa s.data.toList) = true ∧ ansL (rSt s.data.toList) (rTi s.data.toList) (rSa s.data.toList) = s.data.toList := by unfold isAns; exact decide_eq_true_iff
def aSt (s : ByteArray) : Int := if isAns s then (rSt s.data.toList : Int) else 0
def aTi (s : ByteArray) : Int := if isAns s then (rTi s.data.toList : Int) else 0
def aSa (s : ByteArray) : Int := if isAns s then (rSa s.data.toList : Int) else 0
theorem ans_none {s : ByteArray} (h : isAns s = false) : aSt s = 0 ∧ aTi s = 0 ∧ aSa s = 0 := by
  unfold aSt aTi aSa
  rw [h]
  exact ⟨rfl, rfl, rfl⟩
theorem ans_ok {s : ByteArray} (h : isAns s = true) : aSt s = (rSt s.data.toList : Int) ∧ aTi s = (rTi s.data.toList : Int) ∧ aSa s = (rSa s.data.toList : Int) := by
  unfold aSt aTi aSa
  rw [h]
  exact ⟨rfl, rfl, rfl⟩
/-- What is got, put, is the text. -/
theorem put_ans {s : ByteArray} (h : isAns s = true) : ansB (aSt s) (aTi s) (aSa s) = true ∧ ansS (aSt s) (aTi s) (aSa s) = s := by
  obtain ⟨e1, e2, e3⟩ := ans_ok h
  obtain ⟨_, h2, h3⟩ := isAns_parts.1 h
  rw [e1, e2, e3]
  refine ⟨h2, ba_ext ?_⟩
  rw [list_ansS h2]
  exact h3
/-- An answer's bytes, part by part. -/
theorem parts {c v n : Int} (h : ansB c v n = true) : rSt (ansL c v n) = c.toNat ∧ rTi (ansL c v n) = v.toNat ∧ rSa (ansL c v n) = n.toNat := by
  have hp := ansB_parts.1 h
  have lc := length_lowL c.toNat 1
  have lv := length_lowL v.toNat 3
  have ln := length_lowL n.toNat 1
  have lz := length_lowL 0 1
  have ec : ofL (lowL c.toNat 1) = c.toNat := of_low_lt (by omega)
  have ev : ofL (lowL v.toNat 3) = v.toNat := of_low_lt (by omega)
  have en : ofL (lowL n.toNat 1) = n.toNat := of_low_lt (by omega)
  unfold rSt rTi rSa ansL
  generalize lowL c.toNat 1 = A at *
  generalize lowL v.toNat 3 = B at *
  generalize lowL n.toNat 1 = D at *
  generalize lowL 0 1 = Z at *
  match A, B, D, Z, lc, lv, ln, lz with
  | [_], [_, _, _], [_], [_], _, _, _, _ => exact ⟨ec, ev, en⟩
/-- What is put, got, is the answer. -/
theorem ans_put {c v n : Int} (h : ansB c v n = true) : isAns (ansS c v n) = true ∧ aSt (ansS c v n) = c ∧ aTi (ansS c v n) = v ∧ aSa (ansS c v n) = n := by
  have hp := ansB_parts.1 h
  have e := list_ansS h
  obtain ⟨e1, e2, e3⟩ := parts h
  have c1 : (c.toNat : Int) = c := by omega
  have c2 : (v.toNat : Int) = v := by omega
  have c3 : (n.toNat : Int) = n := by omega
  have hok : isAns (ansS c v n) = true := by
    rw [isAns_parts, e, e1, e2, e3, c1, c2, c3]
    exact ⟨size_ansS h, h, rfl⟩
  obtain ⟨g1, g2, g3⟩ := ans_ok hok
  rw [g1, g2, g3, e, e1, e2, e3]
  exact ⟨hok, c1, c2, c3⟩
/-- Unlike answers have unlike bytes. -/
theorem ans_inj {c v n c' v' n' : Int} (h : ansB c v n = true) (h' : ansB c' v' n' = true) (e : ansS c v n = ansS c' v' n') : c = c' ∧ v = v' ∧ n = n' := by
  obtain ⟨_, a1, a2, a3⟩ := ans_put h
  obtain ⟨_, b1, b2, b3⟩ := ans_put h'
  rw [e] at a1 a2 a3
  exact ⟨a1.symm.trans b1, a2.symm.trans b2, a3.symm.trans b3⟩
/-- A text that is another one tells none, or another answer. -/
theorem ans_other {c v n : Int} {s : ByteArray} (hne : ¬ s = ansS c v n) : isAns s = false ∨ (isAns s = true ∧ ¬ (aSt s = c ∧ aTi s = v ∧ aSa s = n)) := by
  cases k : isAns s with
  | false => exact .inl rfl
  | true =>
    refine .inr ⟨rfl, fun e => hne ?_⟩
    obtain ⟨_, u⟩ := put_ans k
    rw [e.1, e.2.1, e.2.2] at u
    exact u.symm
/-- An answer's bytes, one by one. -/
theorem bytes {c v n : Int} : ansL c v n = [byteAt c.toNat 0, byteAt v.toNat 0, byteAt v.toNat 1, byteAt v.toNat 2, byteAt n.toNat 0, 0] := rfl
end Go.Proofs.Ythpoefaipmcceaa.Ans
