/- Answers in six bytes, on numbers, lists and texts. No program is named here. -/
import Derived.Test.YtgkmallikomnaaaBagEnt
import Derived.Test.YtgkmallikomnaaaBagSuf
import Derived.Test.YtgkmallikomnaaaBagOps
namespace Go.Proofs.Ytgkmallikomnaaa.Ans
open Go.Proofs.Ytgkmallikomnaaa Go.Proofs.Ytgkmallikomnaaa.Bytes Go.Proofs.Ytgkmallikomnaaa.Ent

def stB (c : Int) : Bool := decide (0 ≤ c ∧ c ≤ 6)
theorem stB_parts {c : Int} : stB c = true ↔ 0 ≤ c ∧ c ≤ 6 := by unfold stB; exact decide_eq_true_iff
def saB (c : Int) : Bool := decide (0 ≤ c ∧ c ≤ 7)
theorem saB_parts {c : Int} : saB c = true ↔ 0 ≤ c ∧ c ≤ 7 := by unfold saB; exact decide_eq_true_iff
def ansB (c v n : Int) : Bool := decide (0 ≤ c ∧ c ≤ 6 ∧ 0 ≤ v ∧ v ≤ 255 ∧ 0 ≤ n ∧ n ≤ 7)
theorem ansB_parts {c v n : Int} : ansB c v n = true ↔ 0 ≤ c ∧ c ≤ 6 ∧ 0 ≤ v ∧ v ≤ 255 ∧ 0 ≤ n ∧ n ≤ 7 := by unfold ansB; exact decide_eq_true_iff
theorem ansB_no {c v n : Int} (h : ¬ (0 ≤ c ∧ c ≤ 6 ∧ 0 ≤ v ∧ v ≤ 255 ∧ 0 ≤ n ∧ n ≤ 7)) : ansB c v n = false := by unfold ansB; exact decide_eq_false h
def errW (ok : Bool) : Int := if ok then 0 else 1400
theorem errW_t {ok : Bool} (h : ok = true) : errW ok = 0 := by rw [h]; rfl
theorem errW_f {ok : Bool} (h : ok = false) : errW ok = 1400 := by rw [h]; rfl
theorem errW_iff (ok : Bool) : errW ok = 0 ↔ ok = true := by cases ok <;> decide
def ansL (c v n : Int) : List UInt8 := lowL c.toNat 1 ++ lowL v.toNat 3 ++ lowL n.toNat 1 ++ lowL 0 1
theorem length_ansL (c v n : Int) : (ansL c v n).length = 6 := by simp [ansL, length_lowL]
def ansS (c v n : Int) : ByteArray := if ansB c v n then ⟨(ansL c v n).toArray⟩ else ⟨#[]⟩
theorem ansS_ok {c v n : Int} (h : ansB c v n = true) : ansS c v n = ⟨(ansL c v n).toArray⟩ := by unfold ansS; rw [if_pos h]
theorem ansS_no {c v n : Int} (h : ansB c v n = false) : ansS c v n = ⟨#[]⟩ := by unfold ansS; rw [h]; rfl
theorem list_ansS {c v n : Int} (h : ansB c v n = true) : (ansS c v n).data.toList = ansL c v n := by rw [ansS_ok h]
theorem size_ansS {c v n : Int} (h : ansB c v n = true) : (ansS c v n).size = 6 := by rw [← Nor.size_list, list_ansS h, length_ansL]

def rSt (l : List UInt8) : Nat := ofL ((l.drop 0).take 1)
def rTi (l : List UInt8) : Nat := ofL ((l.drop 1).take 3)
def rSa (l : List UInt8) : Nat := ofL ((l.drop 4).take 1)
/-- Is the text an answer? -/
def isAns (s : ByteArray) : Bool := decide (s.size = 6 ∧ ansB (rSt s.data.toList) (rTi s.data.toList) (rSa s.data.toList) = true ∧ ansL (rSt s.data.toList) (rTi s.data.toList) (rSa s.data.toList) = s.data.toList)
theorem isAns_parts {s : ByteArray} : isAns s = true ↔ s.size = 6 ∧ ansB (rSt s.data.toList) (rTi s.data.toList) (rSa s.data.toList) = true ∧ ansL (rSt s.data.toList) (rTi s.data.toList) (rSa s.data.toList) = s.data.toList := by unfold isAns; exact decide_eq_true_iff
def aSt (s : ByteArray) : Int := if isAns s then (rSt s.data.toList : Int) else 0
def aTi (s : ByteArray) : Int := if isAns s then (rTi s.data.toList : Int) else 0
def aSa (s : ByteArray) : Int := if isAns s then (rSa s.data.toList : Int) else 0
theorem ans_none {s : ByteArray} (h : isAns s = false) : aSt s = 0 ∧ aTi s = 0 ∧ aSa s = 0 := by
  unfold aSt aTi aSa
  rw [h]
  exact ⟨rfl, rfl, rfl⟩
theorem ans_ok {s : ByteArray} (h : isAns s = true) : aSt s = (rSt s.data.toList : Int) ∧ aTi s = (rTi s.data.toList : Int) ∧ aSa s = (rSa s.data.toList : Int) := by
  unfold aSt aTi aSa
  rw [h]
  exact ⟨rfl, rfl, rfl⟩
/-- What is got, put, is the text. -/
theorem put_ans {s : ByteArray} (h : isAns s = true) : ansB (aSt s) (aTi s) (aSa s) = true ∧ ansS (aSt s) (aTi s) (aSa s) = s := by
  obtain ⟨e1, e2, e3⟩ := ans_ok h
  obtain ⟨_, h2, h3⟩ := isAns_parts.1 h
  rw [e1, e2, e3]
  refine ⟨h2, ba_ext ?_⟩
  rw [list_ansS h2]
  exact h3
/-- An answer's bytes, part by part. -/
theorem parts {c v n : Int} (h : ansB c v n = true) : rSt (ansL c v n) = c.toNat ∧ rTi (ansL c v n) = v.toNat ∧ rSa (ansL c v n) = n.toNat := by
  have hp := ansB_parts.1 h
  have lc := length_lowL c.toNat 1
  have lv := length_lowL v.toNat 3
  have ln := length_lowL n.toNat 1
  have lz := length_lowL 0 1
  have ec : ofL (lowL c.toNat 1) = c.toNat := of_low_lt (by omega)
  have ev : ofL (lowL v.toNat 3) = v.toNat := of_low_lt (by omega)
  have en : ofL (lowL n.toNat 1) = n.toNat := of_low_lt (by omega)
  unfold rSt rTi rSa ansL
  generalize lowL c.toNat 1 = A at *
  generalize lowL v.toNat 3 = B at *
  generalize lowL n.toNat 1 = D at *
  generalize lowL 0 1 = Z at *
  match A, B, D, Z, lc, lv, ln, lz with
  | [_], [_, _, _], [_], [_], _, _, _, _ => exact ⟨ec, ev, en⟩
/-- What is put, got, is the answer. -/
theorem ans_put {c v n : Int} (h : ansB c v n = true) : isAns (ansS c v n) = true ∧ aSt (ansS c v n) = c ∧ aTi (ansS c v n) = v ∧ aSa (ansS c v n) = n := by
  have hp := ansB_parts.1 h
  have e := list_ansS h
  obtain ⟨e1, e2, e3⟩ := parts h
  have c1 : (c.toNat : Int) = c := by omega
  have c2 : (v.toNat : Int) = v := by omega
  have c3 : (n.toNat : Int) = n := by omega
  have hok : isAns (ansS c v n) = true := by
    rw [isAns_parts, e, e1, e2, e3, c1, c2, c3]
    exact ⟨size_ansS h, h, rfl⟩
  obtain ⟨g1, g2, g3⟩ := ans_ok hok
  rw [g1, g2, g3, e, e1, e2, e3]
  exact ⟨hok, c1, c2, c3⟩
/-- Unlike answers have unlike bytes. -/
theorem ans_inj {c v n c' v' n' : Int} (h : ansB c v n = true) (h' : ansB c' v' n' = true) (e : ansS c v n = ansS c' v' n') : c = c' ∧ v = v' ∧ n = n' := by
  obtain ⟨_, a1, a2, a3⟩ := ans_put h
  obtain ⟨_, b1, b2, b3⟩ := ans_put h'
  rw [e] at a1 a2 a3
  exact ⟨a1.symm.trans b1, a2.symm.trans b2, a3.symm.trans b3⟩
/-- A text that is another one tells none, or another answer. -/
theorem ans_other {c v n : Int} {s : ByteArray} (hne : ¬ s = ansS c v n) : isAns s = false ∨ (isAns s = true ∧ ¬ (aSt s = c ∧ aTi s = v ∧ aSa s = n)) := by
  cases k : isAns s with
  | false => exact .inl rfl
  | true =>
    refine .inr ⟨rfl, fun e => hne ?_⟩
    obtain ⟨_, u⟩ := put_ans k
    rw [e.1, e.2.1, e.2.2] at u
    exact u.symm
/-- An answer's bytes, one by one. -/
theorem bytes {c v n : Int} : ansL c v n = [byteAt c.toNat 0, byteAt v.toNat 0, byteAt v.toNat 1, byteAt v.toNat 2, byteAt n.toNat 0, 0] := rfl
end Go.Proofs.Ytgkmallikomnaaa.Ans

/- The contracts of package answer: each call returns what the plain functions give, whatever its arguments; of what was there nothing has turned. -/
namespace Go.Proofs.Ytgkmallikomnaaa.AnsWalk
open Go.Proofs.Ytgkmallikomnaaa Go.RowKit Go.Proofs.Ytgkmallikomnaaa.Bytes Go.Proofs.Ytgkmallikomnaaa.NorWalk Go.Proofs.Ytgkmallikomnaaa.Ent Go.Proofs.Ytgkmallikomnaaa.EntLow Go.Proofs.Ytgkmallikomnaaa.Ans
open Go.Proofs.Ytgkmallikomnaaa.EntRow (text_ne size_alloc1)
open Go.Proofs.Ytgkmallikomnaaa.EntWalk (lowT size_lowT list_lowT numS ext_le)
open Go.Proofs.Ytgkmallikomnaaa.EntWalk (lowT_any)
open Go.Proofs.Ytgkmallikomnaaa.EntWalk (num_low)
open Go.Proofs.Ytgkmallikomnaaa.OpsRow (boxM boxB boxD thenD)
attribute [local go_sem ↓] Go.wp_at_zero Go.wp_at_succ

theorem num_any (n : Int) (w : World) : Calls Try.prog 11 #[.int .i64 n] w fun e w' => e = .returned (.int .i64 n) ∧ w' = w := by
  go_enter Try.func11, Try.ntmps11
  go_wp2
  go_ret
  exact ⟨rfl, rfl⟩
theorem mayStatus_any (n : Int) (w : World) : Calls Try.prog 74 #[.int .i64 n] w fun e w' => e = .returned (.bool (stB n)) ∧ w' = w := by
  go_enter Try.func74, Try.ntmps74
  go_wp2
  all_goals
    go_ret
    exact ⟨ret_bool (by unfold stB; rw [Bool.eq_iff_iff]; simp; try omega), rfl⟩
theorem mayState_any (n : Int) (w : World) : Calls Try.prog 75 #[.int .i64 n] w fun e w' => e = .returned (.bool (saB n)) ∧ w' = w := by
  go_enter Try.func75, Try.ntmps75
  go_wp2
  all_goals
    go_ret
    exact ⟨ret_bool (by unfold saB; rw [Bool.eq_iff_iff]; simp; try omega), rfl⟩
theorem may_ways (c v n : Int) : (stB c = false ∧ ansB c v n = false) ∨ (stB c = true ∧ ¬ 0 ≤ v ∧ ansB c v n = false) ∨ (stB c = true ∧ 0 ≤ v ∧ ¬ v ≤ 255 ∧ ansB c v n = false) ∨ (stB c = true ∧ 0 ≤ v ∧ v ≤ 255 ∧ saB n = false ∧ ansB c v n = false) ∨ (stB c = true ∧ 0 ≤ v ∧ v ≤ 255 ∧ saB n = true ∧ ansB c v n = true) := by
  unfold stB saB ansB
  simp only [decide_eq_true_eq, decide_eq_false_iff_not]
  omega
set_option maxRecDepth 100000 in
set_option maxHeartbeats 1000000 in
theorem amay_any (c v n : Int) (w : World) : Calls Try.prog 71 #[.agg #[.int .i64 c, .int .i64 v, .int .i64 n]] w fun e w' => e = .returned (.bool (ansB c v n)) ∧ Below w.heap.size w w' := by
  have hX := boxM w (.int .i64 c) (.int .i64 v) (.int .i64 n) 43
  rcases may_ways c v n with ⟨h1, h⟩ | ⟨h1, h2, h⟩ | ⟨h1, h2, h3, h⟩ | ⟨h1, h2, h3, h4, h⟩ | ⟨h1, h2, h3, h4, h⟩
  all_goals
    rw [h]
    clear h
    go_enter Try.func71, Try.ntmps71
    go_wp2_with (first | (go_at_call 74; refine (mayStatus_any _ _).mono ?_; rintro e w' ⟨rfl, rfl⟩) | (go_at_call 75; refine (mayState_any _ _).mono ?_; rintro e w' ⟨rfl, rfl⟩))
    go_ret
    first | exact ⟨rfl, (Below.refl _ _).alloc (Nat.le_refl _) _⟩ | exact ⟨ret_bool (decide_eq_false (by omega)), (Below.refl _ _).alloc (Nat.le_refl _) _⟩ | exact ⟨ret_bool (decide_eq_true (by omega)), (Below.refl _ _).alloc (Nat.le_refl _) _⟩
set_option maxRecDepth 100000 in
set_option maxHeartbeats 1000000 in
theorem aput_no (c v n : Int) (w : World) (h : ansB c v n = false) : Calls Try.prog 67 #[.agg #[.int .i64 c, .int .i64 v, .int .i64 n]] w fun e w' => e = .returned (.tuple #[.string ⟨#[]⟩, .int .i64 1400]) ∧ Below w.heap.size w w' := by
  have hB := (Below.refl w.heap.size w).alloc (Nat.le_refl _) (.cells #[.int .i64 c, .int .i64 v, .int .i64 n] 43)
  have hX := boxM w (.int .i64 c) (.int .i64 v) (.int .i64 n) 43
  go_enter Try.func67, Try.ntmps67
  go_wp2_with (go_at_call 71; refine (amay_any _ _ _ _).mono ?_; rintro e w' ⟨rfl, hb⟩; replace hB := hB.trans (hb.mono hB.size); replace hX := boxB hX hb; clear hb)
  go_ret2
  exact ⟨rfl, hB⟩
theorem laid {c v n : Int} (h : ansB c v n = true) : lowT c 1 ++ lowT v 3 ++ lowT n 1 ++ lowT 0 1 = ansS c v n := by
  apply ba_ext
  rw [list_ansS h, list_append, list_append, list_append, list_lowT, list_lowT, list_lowT, list_lowT]
  rfl
set_option maxRecDepth 100000 in
set_option maxHeartbeats 4000000 in
theorem aput_yes (c v n : Int) (w : World) (h : ansB c v n = true) : Calls Try.prog 67 #[.agg #[.int .i64 c, .int .i64 v, .int .i64 n]] w fun e w' => e = .returned (.tuple #[.string (ansS c v n), .int .i64 0]) ∧ Below w.heap.size w w' := by
  have hB := (Below.refl w.heap.size w).alloc (Nat.le_refl _) (.cells #[.int .i64 c, .int .i64 v, .int .i64 n] 43)
  have hX := boxM w (.int .i64 c) (.int .i64 v) (.int .i64 n) 43
  obtain ⟨p1, _, p2, _, p3, _⟩ := ansB_parts.1 h
  have p4 : (0 : Int) ≤ 0 := by omega
  have HP := hide (laid h)
  have a1 : (lowT c 1).size ≤ 1 := size_lowT c 1
  have b1 : (lowT v 3).size ≤ 3 := size_lowT v 3
  have c1 : (lowT n 1).size ≤ 1 := size_lowT n 1
  have d1 : (lowT 0 1).size ≤ 1 := size_lowT 0 1
  have n1 : ¬ 9223372036854775807 < (lowT c 1).size + (lowT v 3).size := by omega
  have n2 : ¬ 9223372036854775807 < (lowT c 1).size + (lowT v 3).size + (lowT n 1).size := by omega
  have n3 : ¬ 9223372036854775807 < (lowT c 1).size + (lowT v 3).size + (lowT n 1).size + (lowT 0 1).size := by omega
  go_enter Try.func67, Try.ntmps67
  go_wp2_with (go_at_call 71; refine (amay_any _ _ _ _).mono ?_; rintro e w' ⟨rfl, hb⟩; replace hB := hB.trans (hb.mono hB.size); replace hX := boxB hX hb; clear hb)
  go_region_held3 (fun W => W.cell? ⟨w.heap.size, 0, none⟩ = some (.int .i64 c) ∧ W.cell? ⟨w.heap.size, 1, none⟩ = some (.int .i64 v) ∧ W.cell? ⟨w.heap.size, 2, none⟩ = some (.int .i64 n)) (go_keep) (first | (go_at_call 72; refine (lowT_any _ _ _ (by assumption) (by decide) (by decide)).mono ?_; rintro e w' ⟨rfl, hb⟩; replace hB := thenD hb hB rfl rfl rfl rfl; replace hX := boxD hb hX; clear hb))
  go_wp2
  go_ret2
  exact ⟨ret_text HP.out rfl, hB⟩
theorem aput_any (c v n : Int) (w : World) : Calls Try.prog 67 #[.agg #[.int .i64 c, .int .i64 v, .int .i64 n]] w fun e w' => e = .returned (.tuple #[.string (ansS c v n), .int .i64 (errW (ansB c v n))]) ∧ Below w.heap.size w w' := by
  cases h : ansB c v n with
  | false => rw [ansS_no h]; exact aput_no c v n w h
  | true => exact aput_yes c v n w h

theorem num_parts (s : ByteArray) : numS (s.extract 0 1) = (rSt s.data.toList : Int) ∧ numS (s.extract 1 4) = (rTi s.data.toList : Int) ∧ numS (s.extract 4 5) = (rSa s.data.toList : Int) := by
  unfold numS rSt rTi rSa
  rw [list_extract, list_extract, list_extract]
  exact ⟨rfl, rfl, rfl⟩
/-- A text of six bytes: no answer's numbers; numbers of one, but other bytes; one. -/
theorem ans_ways {s : ByteArray} (h1 : s.size = 6) : (ansB (numS (s.extract 0 1)) (numS (s.extract 1 4)) (numS (s.extract 4 5)) = false ∧ isAns s = false) ∨ (ansB (numS (s.extract 0 1)) (numS (s.extract 1 4)) (numS (s.extract 4 5)) = true ∧ ¬ ansS (numS (s.extract 0 1)) (numS (s.extract 1 4)) (numS (s.extract 4 5)) = s ∧ isAns s = false) ∨ (ansB (numS (s.extract 0 1)) (numS (s.extract 1 4)) (numS (s.extract 4 5)) = true ∧ ansS (numS (s.extract 0 1)) (numS (s.extract 1 4)) (numS (s.extract 4 5)) = s ∧ isAns s = true) := by
  obtain ⟨e1, e2, e3⟩ := num_parts s
  rw [e1, e2, e3]
  cases h2 : ansB (rSt s.data.toList) (rTi s.data.toList) (rSa s.data.toList) with
  | false =>
    refine .inl ⟨rfl, ?_⟩
    unfold isAns
    exact decide_eq_false (fun h => by rw [h2] at h; exact absurd h.2.1 (by decide))
  | true =>
    by_cases h3 : ansS (rSt s.data.toList) (rTi s.data.toList) (rSa s.data.toList) = s
    · exact .inr (.inr ⟨rfl, h3, isAns_parts.2 ⟨h1, h2, (list_ansS h2).symm.trans (congrArg (fun x => x.data.toList) h3)⟩⟩)
    · refine .inr (.inl ⟨rfl, h3, ?_⟩)
      unfold isAns
      refine decide_eq_false (fun h => h3 (ba_ext ?_))
      rw [list_ansS h2]
      exact h.2.2
theorem build_ans (c v n : Int) (w : World) : (Instr.build 43 #[(0, .int .i64 c), (1, .int .i64 v), (2, .int .i64 n)]).run Try.prog w = .ok (.agg #[.int .i64 c, .int .i64 v, .int .i64 n]) w := run_build w 43 _ _ (by kernel_rfl)
theorem build_no (w : World) : (Instr.build 43 #[]).run Try.prog w = .ok (.agg #[.int .i64 0, .int .i64 0, .int .i64 0]) w := run_build w 43 _ _ (by kernel_rfl)
theorem build_c (v : Int) (w : World) : (Instr.build 43 #[(0, .int .i64 v)]).run Try.prog w = .ok (.agg #[.int .i64 v, .int .i64 0, .int .i64 0]) w := run_build w 43 _ _ (by kernel_rfl)
theorem build_v (v : Int) (w : World) : (Instr.build 43 #[(1, .int .i64 v)]).run Try.prog w = .ok (.agg #[.int .i64 0, .int .i64 v, .int .i64 0]) w := run_build w 43 _ _ (by kernel_rfl)
theorem build_n (v : Int) (w : World) : (Instr.build 43 #[(2, .int .i64 v)]).run Try.prog w = .ok (.agg #[.int .i64 0, .int .i64 0, .int .i64 v]) w := run_build w 43 _ _ (by kernel_rfl)
/-- A struct of three cells in a block of its own that may be written. -/
theorem resM (w : World) (x y z : Value) (e : TypeId) : w.heap.size < (w.alloc (.cells #[x, y, z] e)).heap.size ∧ (w.alloc (.cells #[x, y, z] e)).cell? ⟨w.heap.size, 0, none⟩ = some x ∧ (w.alloc (.cells #[x, y, z] e)).cell? ⟨w.heap.size, 1, none⟩ = some y ∧ (w.alloc (.cells #[x, y, z] e)).cell? ⟨w.heap.size, 2, none⟩ = some z ∧ ∀ i, (w.alloc (.cells #[x, y, z] e)).frozen? ⟨w.heap.size, i, none⟩ = false := by
  obtain ⟨h1, h2, h3, h4⟩ := boxM w x y z e
  exact ⟨h1, h2, h3, h4, fun i => World.frozen?_alloc_at _ e _ i rfl⟩
theorem resB {w w' : World} {B : Nat} {x y z : Value} (h : B < w.heap.size ∧ w.cell? ⟨B, 0, none⟩ = some x ∧ w.cell? ⟨B, 1, none⟩ = some y ∧ w.cell? ⟨B, 2, none⟩ = some z ∧ ∀ i, w.frozen? ⟨B, i, none⟩ = false) (hb : Below w.heap.size w w') :
    B < w'.heap.size ∧ w'.cell? ⟨B, 0, none⟩ = some x ∧ w'.cell? ⟨B, 1, none⟩ = some y ∧ w'.cell? ⟨B, 2, none⟩ = some z ∧ ∀ i, w'.frozen? ⟨B, i, none⟩ = false := by
  obtain ⟨h0, h1, h2, h3, h4⟩ := h
  obtain ⟨g0, g1, g2, g3⟩ := boxB ⟨h0, h1, h2, h3⟩ hb
  exact ⟨g0, g1, g2, g3, fun i => by rw [hb.frozen (p := ⟨B, i, none⟩) h0]; exact h4 i⟩
/-- A struct's three cells, stored. -/
theorem set3 {B0 : Nat} {w w' : World} {B : Nat} {x y z : Value} (h : Below B0 w w') (hB : B0 ≤ B) : Below B0 w (((w'.setCell ⟨B, 0, none⟩ x).setCell ⟨B, 1, none⟩ y).setCell ⟨B, 2, none⟩ z) := ((h.setCell (p := ⟨B, 0, none⟩) hB _).setCell (p := ⟨B, 1, none⟩) hB _).setCell (p := ⟨B, 2, none⟩) hB _
theorem ret_ans {a b c e a' b' c' e' : Int} (h : a = a' ∧ b = b' ∧ c = c' ∧ e = e') : Ending.returned (.tuple #[.agg #[.int .i64 a, .int .i64 b, .int .i64 c], .int .i64 e]) = .returned (.tuple #[.agg #[.int .i64 a', .int .i64 b', .int .i64 c'], .int .i64 e']) := by
  obtain ⟨rfl, rfl, rfl, rfl⟩ := h
  rfl
theorem zero_ans {s : ByteArray} (h : isAns s = false) : (0 : Int) = aSt s ∧ (0 : Int) = aTi s ∧ (0 : Int) = aSa s ∧ (1400 : Int) = errW (isAns s) := by
  obtain ⟨g1, g2, g3⟩ := ans_none h
  exact ⟨g1.symm, g2.symm, g3.symm, (errW_f h).symm⟩
theorem some_ans {s : ByteArray} (h : isAns s = true) : numS (s.extract 0 1) = aSt s ∧ numS (s.extract 1 4) = aTi s ∧ numS (s.extract 4 5) = aSa s ∧ (0 : Int) = errW (isAns s) := by
  obtain ⟨g1, g2, g3⟩ := ans_ok h
  obtain ⟨f1, f2, f3⟩ := num_parts s
  exact ⟨f1.trans g1.symm, f2.trans g2.symm, f3.trans g3.symm, (errW_t h).symm⟩
set_option maxHeartbeats 4000000 in
theorem aget_none (s : ByteArray) (w : World) (h1 : ¬ s.size = 6) : Calls Try.prog 64 #[.string s] w fun r w' => r = .returned (.tuple #[.agg #[.int .i64 0, .int .i64 0, .int .i64 0], .int .i64 1400]) ∧ Below w.heap.size w w' := by
  have b2 := build_no
  go_enter Try.func64, Try.ntmps64
  go_wp2
  exact bodyPost_ret (v := .tuple #[.agg #[.int .i64 0, .int .i64 0, .int .i64 0], .int .i64 1400]) (by simp [results, Try.results64, go_sem]) rfl ⟨rfl, (Below.refl _ _).alloc (Nat.le_refl _) _⟩
set_option maxRecDepth 100000 in
set_option maxHeartbeats 4000000 in
theorem aget_6 (s : ByteArray) (w : World) (h1 : s.size = 6) : Calls Try.prog 64 #[.string s] w fun r w' => r = .returned (.tuple #[.agg #[.int .i64 (aSt s), .int .i64 (aTi s), .int .i64 (aSa s)], .int .i64 (errW (isAns s))]) ∧ Below w.heap.size w w' := by
  have b1 := build_ans
  have b2 := build_no
  have hc := ans_ways h1
  have HC := hide hc
  clear hc
  have z1 : s.size ≤ 6 := by omega
  have z2 : 6 ≤ s.size := by omega
  have y1 : (1 : Int) ≤ (s.size : Int) := by omega
  have y2 : (4 : Int) ≤ (s.size : Int) := by omega
  have y3 : (5 : Int) ≤ (s.size : Int) := by omega
  clear h1
  have hR := resB (resM w (.int .i64 0) (.int .i64 0) (.int .i64 0) 43) ((Below.refl _ _).alloc (Nat.le_refl _) (.cells #[.int .i64 (numS (s.extract 0 1)), .int .i64 (numS (s.extract 1 4)), .int .i64 (numS (s.extract 4 5))] 43))
  have hX := boxM (w.alloc (.cells #[.int .i64 0, .int .i64 0, .int .i64 0] 43)) (.int .i64 (numS (s.extract 0 1))) (.int .i64 (numS (s.extract 1 4))) (.int .i64 (numS (s.extract 4 5))) 43
  have hB := ((Below.refl w.heap.size w).alloc (Nat.le_refl _) (.cells #[.int .i64 0, .int .i64 0, .int .i64 0] 43)).alloc (Nat.le_of_lt (size_alloc1 _ _)) (.cells #[.int .i64 (numS (s.extract 0 1)), .int .i64 (numS (s.extract 1 4)), .int .i64 (numS (s.extract 4 5))] 43)
  rw [show (w.alloc (.cells #[.int .i64 0, .int .i64 0, .int .i64 0] 43)).heap.size = w.heap.size + 1 from by simp] at hX
  have HB := hide hB
  have HX := hide hX
  have HR := hide hR
  clear hB hX hR
  go_enter Try.func64, Try.ntmps64
  go_wp2
  go_region_held3 (fun _ => True) (trivial) ((go_at_call 66; refine (num_low _ _ (by exact ext_le _ _ _ (by omega))).mono ?_; rintro e w' ⟨rfl, rfl⟩))
  all_goals
    have hB := HB.out.drew
    have hX := boxB HX.out (Below.refl _ _).drew
    have hR := resB HR.out (Below.refl _ _).drew
    clear HB HX HR
    generalize (World.alloc _ (.cells #[.int .i64 (numS (s.extract 0 1)), .int .i64 (numS (s.extract 1 4)), .int .i64 (numS (s.extract 4 5))] 43)).drew = W at *
    rcases HC.out with ⟨h2, h3⟩ | ⟨h2, h3, h4⟩ | ⟨h2, h3, h4⟩
    · have e0 : errW false = 1400 := rfl
      have HZ := hide (zero_ans h3)
      clear h3
      go_wp2_with (go_at_call 67; refine (aput_any _ _ _ _).mono ?_; rintro e w' ⟨rfl, hb⟩; replace hB := thenB hB hb; replace hX := boxB hX hb; replace hR := resB hR hb; clear hb)
      exact bodyPost_ret (v := .tuple #[.agg #[.int .i64 0, .int .i64 0, .int .i64 0], .int .i64 1400]) (by simp [results, Try.results64, go_sem, hR]) rfl ⟨ret_ans HZ.out, set3 hB (Nat.le_refl _)⟩
    · have e0 : errW true = 0 := rfl
      have HZ := hide (zero_ans h4)
      have h5 := text_ne h3
      clear h4 h3
      go_wp2_with (go_at_call 67; refine (aput_any _ _ _ _).mono ?_; rintro e w' ⟨rfl, hb⟩; replace hB := thenB hB hb; replace hX := boxB hX hb; replace hR := resB hR hb; clear hb)
      exact bodyPost_ret (v := .tuple #[.agg #[.int .i64 0, .int .i64 0, .int .i64 0], .int .i64 1400]) (by simp [results, Try.results64, go_sem, hR]) rfl ⟨ret_ans HZ.out, set3 hB (Nat.le_refl _)⟩
    · have e0 : errW true = 0 := rfl
      have HZ := hide (some_ans h4)
      clear h4
      go_wp2_with (go_at_call 67; refine (aput_any _ _ _ _).mono ?_; rintro e w' ⟨rfl, hb⟩; replace hB := thenB hB hb; replace hX := boxB hX hb; replace hR := resB hR hb; clear hb)
      exact bodyPost_ret (v := .tuple #[.agg #[.int .i64 (numS (s.extract 0 1)), .int .i64 (numS (s.extract 1 4)), .int .i64 (numS (s.extract 4 5))], .int .i64 0]) (by simp [results, Try.results64, go_sem, hR]) rfl ⟨ret_ans HZ.out, set3 hB (Nat.le_refl _)⟩
theorem aget_any (s : ByteArray) (w : World) : Calls Try.prog 64 #[.string s] w fun r w' => r = .returned (.tuple #[.agg #[.int .i64 (aSt s), .int .i64 (aTi s), .int .i64 (aSa s)], .int .i64 (errW (isAns s))]) ∧ Below w.heap.size w w' := by
  by_cases h : s.size = 6
  · exact aget_6 s w h
  · have h2 : isAns s = false := by unfold isAns; exact decide_eq_false (fun g => h g.1)
    obtain ⟨g1, g2, g3⟩ := ans_none h2
    rw [g1, g2, g3, h2]
    exact aget_none s w h
/-- Get where the text is none. -/
theorem aget_no {s : ByteArray} (h : isAns s = false) (w : World) : Calls Try.prog 64 #[.string s] w fun r w' => r = .returned (.tuple #[.agg #[.int .i64 0, .int .i64 0, .int .i64 0], .int .i64 1400]) ∧ Below w.heap.size w w' := by
  obtain ⟨g1, g2, g3⟩ := ans_none h
  have g := aget_any s w
  rw [g1, g2, g3, h] at g
  exact g
/-- Get of what is put. -/
theorem aget_put {c v n : Int} (h : ansB c v n = true) (w : World) : Calls Try.prog 64 #[.string (ansS c v n)] w fun r w' => r = .returned (.tuple #[.agg #[.int .i64 c, .int .i64 v, .int .i64 n], .int .i64 0]) ∧ Below w.heap.size w w' := by
  obtain ⟨g0, g1, g2, g3⟩ := ans_put h
  have g := aget_any (ansS c v n) w
  rw [g0, g1, g2, g3] at g
  exact g
end Go.Proofs.Ytgkmallikomnaaa.AnsWalk
