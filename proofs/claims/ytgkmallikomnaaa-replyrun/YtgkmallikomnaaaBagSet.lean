/- Requests in eight bytes, on numbers, lists and texts. No program is named here. -/
import Derived.Test.YtgkmallikomnaaaBagEnt
import Derived.Test.YtgkmallikomnaaaBagSuf
import Derived.Test.YtgkmallikomnaaaBagOps
namespace Go.Proofs.Ytgkmallikomnaaa.Sup
open Go.Proofs.Ytgkmallikomnaaa Go.Proofs.Ytgkmallikomnaaa.Bytes Go.Proofs.Ytgkmallikomnaaa.Ent

def codeB (c : Int) : Bool := decide (0 ≤ c ∧ c ≤ 6)
theorem codeB_parts {c : Int} : codeB c = true ↔ 0 ≤ c ∧ c ≤ 6 := by unfold codeB; exact decide_eq_true_iff
def supB (c v n : Int) : Bool := decide (0 ≤ c ∧ c ≤ 6 ∧ 0 ≤ v ∧ v ≤ 65535 ∧ 0 ≤ n ∧ n ≤ 32)
theorem supB_parts {c v n : Int} : supB c v n = true ↔ 0 ≤ c ∧ c ≤ 6 ∧ 0 ≤ v ∧ v ≤ 65535 ∧ 0 ≤ n ∧ n ≤ 32 := by unfold supB; exact decide_eq_true_iff
theorem supB_no {c v n : Int} (h : ¬ (0 ≤ c ∧ c ≤ 6 ∧ 0 ≤ v ∧ v ≤ 65535 ∧ 0 ≤ n ∧ n ≤ 32)) : supB c v n = false := by unfold supB; exact decide_eq_false h
def kind (c : Int) : Int := if c = 2 ∨ c = 3 ∨ c = 5 then 161 else 33
theorem kind_pos (c : Int) : 0 ≤ kind c := by unfold kind; split <;> decide
def errU (ok : Bool) : Int := if ok then 0 else 1300
theorem errU_t {ok : Bool} (h : ok = true) : errU ok = 0 := by rw [h]; rfl
theorem errU_f {ok : Bool} (h : ok = false) : errU ok = 1300 := by rw [h]; rfl
theorem errU_iff (ok : Bool) : errU ok = 0 ↔ ok = true := by cases ok <;> decide
def supL (c v n : Int) : List UInt8 := lowL (kind c).toNat 1 ++ lowL c.toNat 1 ++ lowL v.toNat 2 ++ lowL 0 2 ++ lowL n.toNat 2
theorem length_supL (c v n : Int) : (supL c v n).length = 8 := by simp [supL, length_lowL]
def supS (c v n : Int) : ByteArray := if supB c v n then ⟨(supL c v n).toArray⟩ else ⟨#[]⟩
theorem supS_ok {c v n : Int} (h : supB c v n = true) : supS c v n = ⟨(supL c v n).toArray⟩ := by unfold supS; rw [if_pos h]
theorem supS_no {c v n : Int} (h : supB c v n = false) : supS c v n = ⟨#[]⟩ := by unfold supS; rw [h]; rfl
theorem list_supS {c v n : Int} (h : supB c v n = true) : (supS c v n).data.toList = supL c v n := by rw [supS_ok h]
theorem size_supS {c v n : Int} (h : supB c v n = true) : (supS c v n).size = 8 := by rw [← Nor.size_list, list_supS h, length_supL]

def fc (l : List UInt8) : Nat := ofL ((l.drop 1).take 1)
def fv (l : List UInt8) : Nat := ofL ((l.drop 2).take 2)
def fn (l : List UInt8) : Nat := ofL ((l.drop 6).take 2)
def gotB (s : ByteArray) : Bool := decide (s.size = 8 ∧ supB (fc s.data.toList) (fv s.data.toList) (fn s.data.toList) = true ∧ supL (fc s.data.toList) (fv s.data.toList) (fn s.data.toList) = s.data.toList)
theorem gotB_parts {s : ByteArray} : gotB s = true ↔ s.size = 8 ∧ supB (fc s.data.toList) (fv s.data.toList) (fn s.data.toList) = true ∧ supL (fc s.data.toList) (fv s.data.toList) (fn s.data.toList) = s.data.toList := by unfold gotB; exact decide_eq_true_iff
def gc (s : ByteArray) : Int := if gotB s then (fc s.data.toList : Int) else 0
def gv (s : ByteArray) : Int := if gotB s then (fv s.data.toList : Int) else 0
def gn (s : ByteArray) : Int := if gotB s then (fn s.data.toList : Int) else 0
theorem got_no {s : ByteArray} (h : gotB s = false) : gc s = 0 ∧ gv s = 0 ∧ gn s = 0 := by
  unfold gc gv gn
  rw [h]
  exact ⟨rfl, rfl, rfl⟩
theorem got_ok {s : ByteArray} (h : gotB s = true) : gc s = (fc s.data.toList : Int) ∧ gv s = (fv s.data.toList : Int) ∧ gn s = (fn s.data.toList : Int) := by
  unfold gc gv gn
  rw [h]
  exact ⟨rfl, rfl, rfl⟩
/-- What is got, put, is the text. -/
theorem put_got {s : ByteArray} (h : gotB s = true) : supB (gc s) (gv s) (gn s) = true ∧ supS (gc s) (gv s) (gn s) = s := by
  obtain ⟨e1, e2, e3⟩ := got_ok h
  obtain ⟨_, h2, h3⟩ := gotB_parts.1 h
  rw [e1, e2, e3]
  refine ⟨h2, ba_ext ?_⟩
  rw [list_supS h2]
  exact h3
/-- A request's bytes, part by part. -/
theorem parts {c v n : Int} (h : supB c v n = true) : fc (supL c v n) = c.toNat ∧ fv (supL c v n) = v.toNat ∧ fn (supL c v n) = n.toNat := by
  have hp := supB_parts.1 h
  have lk := length_lowL (kind c).toNat 1
  have lc := length_lowL c.toNat 1
  have lv := length_lowL v.toNat 2
  have lz := length_lowL 0 2
  have ln := length_lowL n.toNat 2
  have ec : ofL (lowL c.toNat 1) = c.toNat := of_low_lt (by omega)
  have ev : ofL (lowL v.toNat 2) = v.toNat := of_low_lt (by omega)
  have en : ofL (lowL n.toNat 2) = n.toNat := of_low_lt (by omega)
  unfold fc fv fn supL
  generalize lowL (kind c).toNat 1 = K at *
  generalize lowL c.toNat 1 = A at *
  generalize lowL v.toNat 2 = B at *
  generalize lowL 0 2 = Z at *
  generalize lowL n.toNat 2 = D at *
  match K, A, B, Z, D, lk, lc, lv, lz, ln with
  | [_], [_], [_, _], [_, _], [_, _], _, _, _, _, _ => exact ⟨ec, ev, en⟩
/-- What is put, got, is the request. -/
theorem got_put {c v n : Int} (h : supB c v n = true) : gotB (supS c v n) = true ∧ gc (supS c v n) = c ∧ gv (supS c v n) = v ∧ gn (supS c v n) = n := by
  have hp := supB_parts.1 h
  have e := list_supS h
  obtain ⟨e1, e2, e3⟩ := parts h
  have c1 : (c.toNat : Int) = c := by omega
  have c2 : (v.toNat : Int) = v := by omega
  have c3 : (n.toNat : Int) = n := by omega
  have hok : gotB (supS c v n) = true := by
    rw [gotB_parts, e, e1, e2, e3, c1, c2, c3]
    exact ⟨size_supS h, h, rfl⟩
  obtain ⟨g1, g2, g3⟩ := got_ok hok
  rw [g1, g2, g3, e, e1, e2, e3]
  exact ⟨hok, c1, c2, c3⟩
/-- Unlike requests have unlike bytes. -/
theorem sup_inj {c v n c' v' n' : Int} (h : supB c v n = true) (h' : supB c' v' n' = true) (e : supS c v n = supS c' v' n') : c = c' ∧ v = v' ∧ n = n' := by
  obtain ⟨_, a1, a2, a3⟩ := got_put h
  obtain ⟨_, b1, b2, b3⟩ := got_put h'
  rw [e] at a1 a2 a3
  exact ⟨a1.symm.trans b1, a2.symm.trans b2, a3.symm.trans b3⟩
end Go.Proofs.Ytgkmallikomnaaa.Sup

/- The contracts of package setup: each call returns what the plain functions give, whatever its arguments; of what was there nothing has turned. -/
namespace Go.Proofs.Ytgkmallikomnaaa.SetWalk
open Go.Proofs.Ytgkmallikomnaaa Go.RowKit Go.Proofs.Ytgkmallikomnaaa.Bytes Go.Proofs.Ytgkmallikomnaaa.NorWalk Go.Proofs.Ytgkmallikomnaaa.Ent Go.Proofs.Ytgkmallikomnaaa.EntLow Go.Proofs.Ytgkmallikomnaaa.Sup
open Go.Proofs.Ytgkmallikomnaaa.EntRow (text_ne size_alloc1)
open Go.Proofs.Ytgkmallikomnaaa.EntWalk (lowT size_lowT list_lowT numS ext_le)
open Go.Proofs.Ytgkmallikomnaaa.EntWalk (lowT_any)
open Go.Proofs.Ytgkmallikomnaaa.EntWalk (num_low)
open Go.Proofs.Ytgkmallikomnaaa.OpsRow (boxM boxB boxD thenD)
attribute [local go_sem ↓] Go.wp_at_zero Go.wp_at_succ

theorem num_any (n : Int) (w : World) : Calls Try.prog 11 #[.int .i64 n] w fun e w' => e = .returned (.int .i64 n) ∧ w' = w := by
  go_enter Try.func11, Try.ntmps11
  go_wp2
  go_ret
  exact ⟨rfl, rfl⟩
theorem kind_ways (c : Int) : (c = 2 ∧ kind c = 161) ∨ (c = 3 ∧ kind c = 161) ∨ (c = 5 ∧ kind c = 161) ∨ (¬ c = 2 ∧ ¬ c = 3 ∧ ¬ c = 5 ∧ kind c = 33) := by
  unfold kind
  split <;> omega
theorem may_ways (c v n : Int) : (codeB c = false ∧ supB c v n = false) ∨ (codeB c = true ∧ ¬ 0 ≤ v ∧ supB c v n = false) ∨ (codeB c = true ∧ 0 ≤ v ∧ ¬ v ≤ 65535 ∧ supB c v n = false) ∨ (codeB c = true ∧ 0 ≤ v ∧ v ≤ 65535 ∧ ¬ 0 ≤ n ∧ supB c v n = false) ∨ (codeB c = true ∧ 0 ≤ v ∧ v ≤ 65535 ∧ 0 ≤ n ∧ ¬ n ≤ 32 ∧ supB c v n = false) ∨ (codeB c = true ∧ 0 ≤ v ∧ v ≤ 65535 ∧ 0 ≤ n ∧ n ≤ 32 ∧ supB c v n = true) := by
  unfold codeB supB
  simp only [decide_eq_true_eq, decide_eq_false_iff_not]
  omega
theorem laid {c v n : Int} (h : supB c v n = true) : lowT (kind c) 1 ++ lowT c 1 ++ lowT v 2 ++ lowT 0 2 ++ lowT n 2 = supS c v n := by
  apply ba_ext
  rw [list_supS h, list_append, list_append, list_append, list_append, list_lowT, list_lowT, list_lowT, list_lowT, list_lowT]
  rfl
theorem num_parts (s : ByteArray) : numS (s.extract 1 2) = (fc s.data.toList : Int) ∧ numS (s.extract 2 4) = (fv s.data.toList : Int) ∧ numS (s.extract 6 8) = (fn s.data.toList : Int) := by
  unfold numS fc fv fn
  rw [list_extract, list_extract, list_extract]
  exact ⟨rfl, rfl, rfl⟩
/-- A text of eight bytes: no request's numbers; numbers of one, but other bytes; one. -/
theorem got_ways {s : ByteArray} (h1 : s.size = 8) : (supB (numS (s.extract 1 2)) (numS (s.extract 2 4)) (numS (s.extract 6 8)) = false ∧ gotB s = false) ∨ (supB (numS (s.extract 1 2)) (numS (s.extract 2 4)) (numS (s.extract 6 8)) = true ∧ ¬ supS (numS (s.extract 1 2)) (numS (s.extract 2 4)) (numS (s.extract 6 8)) = s ∧ gotB s = false) ∨ (supB (numS (s.extract 1 2)) (numS (s.extract 2 4)) (numS (s.extract 6 8)) = true ∧ supS (numS (s.extract 1 2)) (numS (s.extract 2 4)) (numS (s.extract 6 8)) = s ∧ gotB s = true) := by
  obtain ⟨e1, e2, e3⟩ := num_parts s
  rw [e1, e2, e3]
  cases h2 : supB (fc s.data.toList) (fv s.data.toList) (fn s.data.toList) with
  | false =>
    refine .inl ⟨rfl, ?_⟩
    unfold gotB
    exact decide_eq_false (fun h => by rw [h2] at h; exact absurd h.2.1 (by decide))
  | true =>
    by_cases h3 : supS (fc s.data.toList) (fv s.data.toList) (fn s.data.toList) = s
    · exact .inr (.inr ⟨rfl, h3, gotB_parts.2 ⟨h1, h2, (list_supS h2).symm.trans (congrArg (fun x => x.data.toList) h3)⟩⟩)
    · refine .inr (.inl ⟨rfl, h3, ?_⟩)
      unfold gotB
      refine decide_eq_false (fun h => h3 (ba_ext ?_))
      rw [list_supS h2]
      exact h.2.2
/-- A struct of three cells in a block of its own that may be written. -/
theorem resM (w : World) (x y z : Value) (e : TypeId) : w.heap.size < (w.alloc (.cells #[x, y, z] e)).heap.size ∧ (w.alloc (.cells #[x, y, z] e)).cell? ⟨w.heap.size, 0, none⟩ = some x ∧ (w.alloc (.cells #[x, y, z] e)).cell? ⟨w.heap.size, 1, none⟩ = some y ∧ (w.alloc (.cells #[x, y, z] e)).cell? ⟨w.heap.size, 2, none⟩ = some z ∧ ∀ i, (w.alloc (.cells #[x, y, z] e)).frozen? ⟨w.heap.size, i, none⟩ = false := by
  obtain ⟨h1, h2, h3, h4⟩ := boxM w x y z e
  exact ⟨h1, h2, h3, h4, fun i => World.frozen?_alloc_at _ e _ i rfl⟩
theorem resB {w w' : World} {B : Nat} {x y z : Value} (h : B < w.heap.size ∧ w.cell? ⟨B, 0, none⟩ = some x ∧ w.cell? ⟨B, 1, none⟩ = some y ∧ w.cell? ⟨B, 2, none⟩ = some z ∧ ∀ i, w.frozen? ⟨B, i, none⟩ = false) (hb : Below w.heap.size w w') :
    B < w'.heap.size ∧ w'.cell? ⟨B, 0, none⟩ = some x ∧ w'.cell? ⟨B, 1, none⟩ = some y ∧ w'.cell? ⟨B, 2, none⟩ = some z ∧ ∀ i, w'.frozen? ⟨B, i, none⟩ = false := by
  obtain ⟨h0, h1, h2, h3, h4⟩ := h
  obtain ⟨g0, g1, g2, g3⟩ := boxB ⟨h0, h1, h2, h3⟩ hb
  exact ⟨g0, g1, g2, g3, fun i => by rw [hb.frozen (p := ⟨B, i, none⟩) h0]; exact h4 i⟩
/-- A struct's three cells, stored. -/
theorem set3 {B0 : Nat} {w w' : World} {B : Nat} {x y z : Value} (h : Below B0 w w') (hB : B0 ≤ B) : Below B0 w (((w'.setCell ⟨B, 0, none⟩ x).setCell ⟨B, 1, none⟩ y).setCell ⟨B, 2, none⟩ z) := ((h.setCell (p := ⟨B, 0, none⟩) hB _).setCell (p := ⟨B, 1, none⟩) hB _).setCell (p := ⟨B, 2, none⟩) hB _
theorem ret_set {a b c e a' b' c' e' : Int} (h : a = a' ∧ b = b' ∧ c = c' ∧ e = e') : Ending.returned (.tuple #[.agg #[.int .i64 a, .int .i64 b, .int .i64 c], .int .i64 e]) = .returned (.tuple #[.agg #[.int .i64 a', .int .i64 b', .int .i64 c'], .int .i64 e']) := by
  obtain ⟨rfl, rfl, rfl, rfl⟩ := h
  rfl
theorem zero_set {s : ByteArray} (h : gotB s = false) : (0 : Int) = gc s ∧ (0 : Int) = gv s ∧ (0 : Int) = gn s ∧ (1300 : Int) = errU (gotB s) := by
  obtain ⟨g1, g2, g3⟩ := got_no h
  exact ⟨g1.symm, g2.symm, g3.symm, (errU_f h).symm⟩
theorem some_set {s : ByteArray} (h : gotB s = true) : numS (s.extract 1 2) = gc s ∧ numS (s.extract 2 4) = gv s ∧ numS (s.extract 6 8) = gn s ∧ (0 : Int) = errU (gotB s) := by
  obtain ⟨g1, g2, g3⟩ := got_ok h
  obtain ⟨f1, f2, f3⟩ := num_parts s
  exact ⟨f1.trans g1.symm, f2.trans g2.symm, f3.trans g3.symm, (errU_t h).symm⟩
end Go.Proofs.Ytgkmallikomnaaa.SetWalk
