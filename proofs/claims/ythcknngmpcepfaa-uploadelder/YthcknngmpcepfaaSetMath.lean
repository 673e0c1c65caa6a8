/- Requests in eight bytes, on numbers, lists and texts. No program is named here. -/
import Derived.Test.YthcknngmpcepfaaBagEnt
import Derived.Test.YthcknngmpcepfaaBagAns
namespace Go.Proofs.Ythcknngmpcepfaa.Sup
open Go.Proofs.Ythcknngmpcepfaa Go.Proofs.Ythcknngmpcepfaa.Bytes Go.Proofs.Ythcknngmpcepfaa.Ent

def codeB (c : Int) : Bool := decide (0 ≤ c ∧ c ≤ 6)
theorem codeB_parts {c : Int} : codeB c = true ↔ 0 ≤ c ∧ c ≤ 6 := by unfold codeB; exact decide_eq_true_iff
def supB (c v n : Int) : Bool := decide (0 ≤ c ∧ c ≤ 6 ∧ 0 ≤ v ∧ v ≤ 65535 ∧ 0 ≤ n ∧ n ≤ 32)
theorem supB_parts {c v n : Int} : supB c v n = true ↔ 0 ≤ c ∧ c ≤ 6 ∧ 0 ≤ v ∧ v ≤ 65535 ∧ 0 ≤ n ∧ n ≤ 32 := by unfold supB; exact decide_eq_true_iff
theorem supB_no {c v n : Int} (h : ¬ (0 ≤ c ∧ c ≤ 6 ∧ 0 ≤ v ∧ v ≤ 65535 ∧ 0 ≤ n ∧ n ≤ 32)) : supB c v n = false := by unfold supB; exact decide_eq_false h
def kind (c : Int) : Int := if c = 2 ∨ c = 3 ∨ c = 5 then 161 else 33
theorem kind_pos (c : Int) : 0 ≤ kind c := by unfold kind; split <;> decide
def errU (ok : Bool) : Int := if ok then 0 else 1300
theorem errU_t {ok : Bool} (h : ok = true) : errU ok = 0 := by rw [h]; rfl
theorem errU_f {ok : Bool} (h : ok = false) : errU ok = 1300 := by rw [h]; rfl
theorem errU_iff (ok : Bool) : errU ok = 0 ↔ ok = true := by cases ok <;> decide
def supL (c v n : Int) : List UInt8 := lowL (kind c).toNat 1 ++ lowL c.toNat 1 ++ lowL v.toNat 2 ++ lowL 0 2 ++ lowL n.toNat 2
theorem length_supL (c v n : Int) : (supL c v n).length = 8 := by simp [supL, length_lowL]
def supS (c v n : Int) : ByteArray := if supB c v n then ⟨(supL c v n).toArray⟩ else ⟨#[]⟩
theorem supS_ok {c v n : Int} (h : supB c v n = true) : supS c v n = ⟨(supL c v n).toArray⟩ := by unfold supS; rw [if_pos h]
theorem supS_no {c v n : Int} (h : supB c v n = false) : supS c v n = ⟨#[]⟩ := by unfold supS; rw [h]; rfl
theorem list_supS {c v n : Int} (h : supB c v n = true) : (supS c v n).data.toList = supL c v n := by rw [supS_ok h]
theorem size_supS {c v n : Int} (h : supB c v n = true) : (supS c v n).size = 8 := by rw [← Nor.size_list, list_supS h, length_supL]

def fc (l : List UInt8) : Nat := ofL ((l.drop 1).take 1)
def fv (l : List UInt8) : Nat := ofL ((l.drop 2).take 2)
def fn (l : List UInt8) : Nat := ofL ((l.drop 6).take 2)
def gotB (s : ByteArray) : Bool := decide (s.size = 8 ∧ supB (fc s.data.toList) (fv s.data.toList) (fn s.data.toList) = true ∧ supL (fc s.data.toList) (fv s.data.toList) (fn s.data.toList) = s.data.toList)
theorem gotB_parts {s : ByteArray} : gotB s = true ↔ s.size = 8 ∧ supB (fc s.data.toList) (fv s.data.toList) (fn s.data.toList) = true ∧ supL (fc s.data.toList) (fv s.data.toList) (fn s.data.toList) = s.data.toList := by unfold gotB; exact decide_eq_true_iff
def gc (s : ByteArray) : Int := if gotB s then (fc s.data.toList : Int) else 0
def gv (s : ByteArray) : Int := if gotB s then (fv s.data.toList : Int) else 0
def gn (s : ByteArray) : Int := if gotB s then (fn s.data.toList : Int) else 0
theorem got_no {s : ByteArray} (h : gotB s = false) : gc s = 0 ∧ gv s = 0 ∧ gn s = 0 := by
  unfold gc gv gn
  rw [h]
  exact ⟨rfl, rfl, rfl⟩
theorem got_ok {s : ByteArray} (h : gotB s = true) : gc s = (fc s.data.toList : Int) ∧ gv s = (fv s.data.toList : Int) ∧ gn s = (fn s.data.toList : Int) := by
  unfold gc gv gn
  rw [h]
  exact ⟨rfl, rfl, rfl⟩
/-- What is got, put, is the text. -/
theorem put_got {s : ByteArray} (h : gotB s = true) : supB (gc s) (gv s) (gn s) = true ∧ supS (gc s) (gv s) (gn s) = s := by
  obtain ⟨e1, e2, e3⟩ := got_ok h
  obtain ⟨_, h2, h3⟩ := gotB_parts.1 h
  rw [e1, e2, e3]
  refine ⟨h2, ba_ext ?_⟩
  rw [list_supS h2]
  exact h3
/-- A request's bytes, part by part. -/
theorem parts {c v n : Int} (h : supB c v n = true) : fc (supL c v n) = c.toNat ∧ fv (supL c v n) = v.toNat ∧ fn (supL c v n) = n.toNat := by
  have hp := supB_parts.1 h
  have lk := length_lowL (kind c).toNat 1
  have lc := length_lowL c.toNat 1
  have lv := length_lowL v.toNat 2
  have lz := length_lowL 0 2
  have ln := length_lowL n.toNat 2
  have ec : ofL (lowL c.toNat 1) = c.toNat := of_low_lt (by omega)
  have ev : ofL (lowL v.toNat 2) = v.toNat := of_low_lt (by omega)
  have en : ofL (lowL n.toNat 2) = n.toNat := of_low_lt (by omega)
  unfold fc fv fn supL
  generalize lowL (kind c).toNat 1 = K at *
  generalize lowL c.toNat 1 = A at *
  generalize lowL v.toNat 2 = B at *
  generalize lowL 0 2 = Z at *
  generalize lowL n.toNat 2 = D at *
  match K, A, B, Z, D, lk, lc, lv, lz, ln with
  | [_], [_], [_, _], [_, _], [_, _], _, _, _, _, _ => exact ⟨ec, ev, en⟩
/-- What is put, got, is the request. -/
theorem got_put {c v n : Int} (h : supB c v n = true) : gotB (supS c v n) = true ∧ gc (supS c v n) = c ∧ gv (supS c v n) = v ∧ gn (supS c v n) = n := by
  have hp := supB_parts.1 h
  have e := list_supS h
  obtain ⟨e1, e2, e3⟩ := parts h
  have c1 : (c.toNat : Int) = c := by omega
  have c2 : (v.toNat : Int) = v := by omega
  have c3 : (n.toNat : Int) = n := by omega
  have hok : gotB (supS c v n) = true := by
    rw [gotB_parts, e, e1, e2, e3, c1, c2, c3]
    exact ⟨size_supS h, h, rfl⟩
  obtain ⟨g1, g2, g3⟩ := got_ok hok
  rw [g1, g2, g3, e, e1, e2, e3]
  exact ⟨hok, c1, c2, c3⟩
/-- Unlike requests have unlike bytes. -/
theorem sup_inj {c v n c' v' n' : Int} (h : supB c v n = true) (h' : supB c' v' n' = true) (e : supS c v n = supS c' v' n') : c = c' ∧ v = v' ∧ n = n' := by
  obtain ⟨_, a1, a2, a3⟩ := got_put h
  obtain ⟨_, b1, b2, b3⟩ := got_put h'
  rw [e] at a1 a2 a3
  exact ⟨a1.symm.trans b1, a2.symm.trans b2, a3.symm.trans b3⟩
end Go.Proofs.Ythcknngmpcepfaa.Sup
