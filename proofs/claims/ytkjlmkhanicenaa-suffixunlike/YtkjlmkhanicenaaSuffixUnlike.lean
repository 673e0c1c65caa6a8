/- Whatever the two images and the two numbers of whom they are for: the law SuffixUnlike returns true (unlike images, or numbers, have unlike files; what is refused has none), and the arguments read as they did; no condition. -/
import Derived.Test.YtkjlmkhanicenaaRows
import Derived.Test.YtkjlmkhanicenaaNorMath
import Derived.Test.YtkjlmkhanicenaaBytes
import Derived.Test.YtkjlmkhanicenaaNorWalk
import Derived.Test.YtkjlmkhanicenaaOpsMath
import Derived.Test.YtkjlmkhanicenaaOpsRow
import Derived.Test.YtkjlmkhanicenaaCrcMath
import Derived.Test.YtkjlmkhanicenaaCrcSum
import Derived.Test.YtkjlmkhanicenaaEntMath
import Derived.Test.YtkjlmkhanicenaaEntRow
import Derived.Test.YtkjlmkhanicenaaEntLow
import Derived.Test.YtkjlmkhanicenaaEntWalk
import Derived.Test.YtkjlmkhanicenaaImgClone
import Derived.Test.YtkjlmkhanicenaaSufMath
import Derived.Test.YtkjlmkhanicenaaSufWalk
import Derived.Test.YtkjlmkhanicenaaSufAwake
import Derived.WalkKit
import Derived.ProofKit
import Derived.OpenShut
import Derived.ShutString
import Derived.ChangeOld
import Derived.Below
namespace Go.Proofs.Ytkjlmkhanicenaa.suffixUnlike
open Go.ChangeShapes Go.WideShapes Go.ChangeAt Go.RowKit
open Go.ChangeMaps (open_string shut_string)
set_option linter.unusedVariables false

open Go.Proofs.Ytkjlmkhanicenaa.Bytes
open Go.Proofs.Ytkjlmkhanicenaa.Suf
open Go.Proofs.Ytkjlmkhanicenaa.SufWalk
open Go.Proofs.Ytkjlmkhanicenaa.SufAwake
theorem own : ownKnob Try.prog.godebug = none := by kernel_rfl
theorem laidOut : laidOutB Try.prog = true := by kernel_rfl
theorem field_of {H : Type} {enc : TypeId × Value → H} {P : Program} {w : World} {base : Nat} {spare : Nat → Bool} {held : Bool} {t : TypeId} {fs : Array Field} {fuel : Nat} {cs : List Value} {x : DataW H × List MemPlace} (ht : P.underlying t = some (.struct fs)) (h : DataW.trod enc P w base spare held fuel t cs = some x) (i : Nat) (f : Field) (hf : fs[i]? = some f) :
    ∃ n y, DataW.trod enc P w base spare held n f.type ((cs.drop f.offset).take (P.cellsOf f.type)) = some y := by
  obtain ⟨xs, n, _, _, _, hlen, hq⟩ := DataW.trod_struct ht h
  have hi : i < xs.length := by
    rw [hlen]
    rcases Nat.lt_or_ge i fs.size with h1 | h1
    · exact h1
    · rw [Array.getElem?_eq_none h1] at hf; cases hf
  exact ⟨n, xs[i], by rw [hq i f hf, List.getElem?_eq_getElem hi]⟩
theorem list23 {l : List Value} (h : l.length = 3) : ∃ c0 c1 c2, l = [c0, c1, c2] := by
  match l, h with
  | [c0, c1, c2], _ => exact ⟨c0, c1, c2, rfl⟩
set_option maxRecDepth 100000 in
theorem open23 {H : Type} {enc : TypeId × Value → H} {w : World} {base : Nat} {spare : Nat → Bool} {held : Bool} {r : Reach} {b0 : Nat} {v : Value} {d : DataW H} {p : List MemPlace} (hv : Value.okWide Try.prog w r b0 23 v) (h : DataW.Trod enc Try.prog w base spare held 23 v d p) :
    ∃ (x0 : Int) (x1 : Int) (x2 : Int), v = .agg #[.int .i64 x0, .int .i64 x1, .int .i64 x2] ∧ (Lit.int .i64 x0).wf = true ∧ (Lit.int .i64 x1).wf = true ∧ (Lit.int .i64 x2).wf = true := by
  obtain ⟨cs, rfl, hsz⟩ := okWide_struct Try.underlying23 hv
  have hc : Try.prog.cellsOf 23 = 3 := by kernel_rfl
  rw [hc] at hsz
  obtain ⟨l⟩ := cs
  obtain ⟨c0, c1, c2, rfl⟩ := list23 (l := l) (by simpa using hsz)
  obtain ⟨fuel, hf⟩ := h
  have k0 : Try.prog.cellsOf 3 = 1 := by kernel_rfl
  obtain ⟨n0, y0, h0⟩ := field_of Try.underlying23 hf 0 _ rfl
  have g0 : DataW.trod enc Try.prog w base spare held n0 3 [c0] = some y0 := by simpa [Value.cells, k0] using h0
  obtain ⟨x0, e0, _, w0⟩ := DataW.trod_int Try.underlying3 g0
  obtain rfl := (List.cons.inj e0).1
  have k1 : Try.prog.cellsOf 3 = 1 := by kernel_rfl
  obtain ⟨n1, y1, h1⟩ := field_of Try.underlying23 hf 1 _ rfl
  have g1 : DataW.trod enc Try.prog w base spare held n1 3 [c1] = some y1 := by simpa [Value.cells, k1] using h1
  obtain ⟨x1, e1, _, w1⟩ := DataW.trod_int Try.underlying3 g1
  obtain rfl := (List.cons.inj e1).1
  have k2 : Try.prog.cellsOf 3 = 1 := by kernel_rfl
  obtain ⟨n2, y2, h2⟩ := field_of Try.underlying23 hf 2 _ rfl
  have g2 : DataW.trod enc Try.prog w base spare held n2 3 [c2] = some y2 := by simpa [Value.cells, k2] using h2
  obtain ⟨x2, e2, _, w2⟩ := DataW.trod_int Try.underlying3 g2
  obtain rfl := (List.cons.inj e2).1
  exact ⟨x0, x1, x2, rfl, w0, w1, w2⟩

open Go.Proofs.Ytkjlmkhanicenaa.OpsRow (boxM boxB)
open Go.Proofs.Ytkjlmkhanicenaa.EntRow (text_ne size_alloc1)
/-- One refused or both; the same twice; or others: then the files are others. -/
theorem ways (a b : ByteArray) (v p r v' p' r' : Int) : (bldOk a v p r = false ∧ bldOk b v' p' r' = false) ∨ (bldOk a v p r = false ∧ bldOk b v' p' r' = true) ∨ (bldOk a v p r = true ∧ bldOk b v' p' r' = false) ∨ (bldOk a v p r = true ∧ bldOk b v' p' r' = true ∧ a = b ∧ v = v' ∧ p = p' ∧ r = r') ∨ (bldOk a v p r = true ∧ bldOk b v' p' r' = true ∧ ((fileS a v p r).toList == (fileS b v' p' r').toList) = false ∧ ((a.toList == b.toList) = false ∨ (a = b ∧ ¬ v = v') ∨ (a = b ∧ v = v' ∧ ¬ p = p') ∨ (a = b ∧ v = v' ∧ p = p' ∧ ¬ r = r'))) := by
  cases k1 : bldOk a v p r <;> cases k2 : bldOk b v' p' r'
  · exact .inl ⟨rfl, rfl⟩
  · exact .inr (.inl ⟨rfl, rfl⟩)
  · exact .inr (.inr (.inl ⟨rfl, rfl⟩))
  · by_cases h : a = b ∧ v = v' ∧ p = p' ∧ r = r'
    · exact .inr (.inr (.inr (.inl ⟨rfl, rfl, h⟩)))
    · refine .inr (.inr (.inr (.inr ⟨rfl, rfl, text_ne (fun e => h (file_inj k1 k2 e)), ?_⟩)))
      by_cases h1 : a = b
      · by_cases h2 : v = v'
        · by_cases h3 : p = p'
          · exact .inr (.inr (.inr ⟨h1, h2, h3, fun h4 => h ⟨h1, h2, h3, h4⟩⟩))
          · exact .inr (.inr (.inl ⟨h1, h2, h3⟩))
        · exact .inr (.inl ⟨h1, h2⟩)
      · exact .inl (text_ne h1)
set_option maxRecDepth 100000 in
set_option maxHeartbeats 2000000 in
theorem walk (a0 : ByteArray) (a1 : ByteArray) (a2_0 : Int) (a2_1 : Int) (a2_2 : Int) (a3_0 : Int) (a3_1 : Int) (a3_2 : Int) (w0 : a0.size ≤ maxLen) (w1 : a1.size ≤ maxLen) (w2_0 : (Lit.int .i64 a2_0).wf = true) (w2_1 : (Lit.int .i64 a2_1).wf = true) (w2_2 : (Lit.int .i64 a2_2).wf = true) (w3_0 : (Lit.int .i64 a3_0).wf = true) (w3_1 : (Lit.int .i64 a3_1).wf = true) (w3_2 : (Lit.int .i64 a3_2).wf = true) (w : World) :
    Calls Try.prog 7 #[.string a0, .string a1, .agg #[.int .i64 a2_0, .int .i64 a2_1, .int .i64 a2_2], .agg #[.int .i64 a3_0, .int .i64 a3_1, .int .i64 a3_2]] w fun e w' => e = .returned (.bool true) ∧ Below w.heap.size w w' := by
  have hB := ((Below.refl w.heap.size w).alloc (Nat.le_refl _) (.cells #[.int .i64 a2_0, .int .i64 a2_1, .int .i64 a2_2] 23)).alloc (Nat.le_of_lt (size_alloc1 _ _)) (.cells #[.int .i64 a3_0, .int .i64 a3_1, .int .i64 a3_2] 23)
  have hX := boxB (boxM w (.int .i64 a2_0) (.int .i64 a2_1) (.int .i64 a2_2) 23) ((Below.refl _ _).alloc (Nat.le_refl _) (.cells #[.int .i64 a3_0, .int .i64 a3_1, .int .i64 a3_2] 23))
  have hY := boxM (w.alloc (.cells #[.int .i64 a2_0, .int .i64 a2_1, .int .i64 a2_2] 23)) (.int .i64 a3_0) (.int .i64 a3_1) (.int .i64 a3_2) 23
  rw [show (w.alloc (.cells #[.int .i64 a2_0, .int .i64 a2_1, .int .i64 a2_2] 23)).heap.size = w.heap.size + 1 from by simp] at hY
  have cA := fun w => build_any a0 a2_0 a2_1 a2_2 w
  have cB := fun w => build_any a1 a3_0 a3_1 a3_2 w
  rcases ways a0 a1 a2_0 a2_1 a2_2 a3_0 a3_1 a3_2 with ⟨k1, k2⟩ | ⟨k1, k2⟩ | ⟨k1, k2⟩ | ⟨k1, k2, rfl, rfl, rfl, rfl⟩ | ⟨k1, k2, k3, k4 | ⟨rfl, k4⟩ | ⟨rfl, rfl, k4⟩ | ⟨rfl, rfl, rfl, k4⟩⟩
  all_goals
    rw [k1] at cA
    rw [k2] at cB
    try rw [fileS_no k1] at cA
    try rw [fileS_no k2] at cB
    have CA : Hid _ := hide cA
    have CB : Hid _ := hide cB
    clear cA cB k1 k2
    try generalize fileS a0 a2_0 a2_1 a2_2 = S at *
    try generalize fileS a1 a3_0 a3_1 a3_2 = T at *
    go_enter Try.func7, Try.ntmps7
    go_wp2_with (first | (go_at_call 13; refine (awake_any _).mono ?_; rintro e w' ⟨rfl, hb⟩; replace hB := hB.trans (hb.mono hB.size); replace hX := boxB hX hb; replace hY := boxB hY hb; clear hb))
    refine (CA.out _).mono ?_; rintro e w5 ⟨rfl, hb⟩; replace hB := thenB hB hb; replace hX := boxB hX hb; replace hY := boxB hY hb; clear hb
    go_wp2_with fail
    refine (CB.out _).mono ?_; rintro e w6 ⟨rfl, hb⟩; replace hB := thenB hB hb; replace hX := boxB hX hb; replace hY := boxB hY hb; clear hb
    have f1 : errF true = 0 := rfl
    have f2 : errF false = 1100 := rfl
    go_wp2_with (first | (go_at_call 12; refine (num_any _ _).mono ?_; rintro e w' ⟨rfl, rfl⟩))
    go_ret
    exact ⟨rfl, hB⟩

set_option maxRecDepth 100000 in
theorem lifted (os : Os) (started : os.Started) (H : Type) (enc : TypeId × Value → H) :
    ReturnsInHanded {} Try.checked os 7 .any (Rows.suffixUnlikeSpec.pre6 enc Try.prog Try.f7 Rows.suffixUnlikeRow.domain false) (Rows.suffixUnlikeSpec.post enc Try.prog Try.f7 false true false false) := by
  refine returnsInHanded_of_change (C := Try.checked) own started (by kernel_rfl) Try.func7
    (ChangeSpec.witness6 (enc := enc) (C := Try.checked) false ⟨#[], #[.string ByteArray.empty, .string ByteArray.empty, .agg #[.int .i64 0, .int .i64 0, .int .i64 0], .agg #[.int .i64 0, .int .i64 0, .int .i64 0]], []⟩ 8 (by kernel_rfl) (by kernel_rfl) (by kernel_rfl) (by kernel_rfl)) ?_
  intro W base args ds gs before hval0 hW hcnd _
  have hval : ∀ (j : Nat) t v, Try.f7.params[j]? = some t → args[j]? = some v → Value.okWide Try.prog W .any base t v := hval0
  have hW' := hW
  obtain ⟨p, q, hA0, hV, rfl, hfz, hnd⟩ := hW
  have hA : DataW.TrodAll enc Try.prog W 0 (fun _ => true) true Try.f7.params.toList args.toList ds p := hA0
  rw [Try.params7] at hA hval
  obtain ⟨v0, vs0, d0, ds0, p0, q0, hargs, rfl, rfl, h0, r0⟩ := trodAll_cons hA
  obtain ⟨v1, vs1, d1, ds1, p1, q1, rfl, rfl, rfl, h1, r1⟩ := trodAll_cons r0
  obtain ⟨v2, vs2, d2, ds2, p2, q2, rfl, rfl, rfl, h2, r2⟩ := trodAll_cons r1
  obtain ⟨v3, vs3, d3, ds3, p3, q3, rfl, rfl, rfl, h3, r3⟩ := trodAll_cons r2
  obtain ⟨rfl, rfl, rfl⟩ := trodAll_nil r3
  obtain rfl : args = #[v0, v1, v2, v3] := by cases args; simp_all
  obtain ⟨rfl, rfl⟩ := trodVars_none hV
  obtain ⟨a0, rfl, rfl, rfl, w0⟩ := open_string Try.underlying9 (hval 0 9 v0 rfl rfl) h0
  obtain ⟨a1, rfl, rfl, rfl, w1⟩ := open_string Try.underlying9 (hval 1 9 v1 rfl rfl) h1
  have k2 := h2
  have lt2 : ∀ x ∈ p2, x.block < W.heap.size := by obtain ⟨m, hm⟩ := k2; exact DataW.trod_lt m _ _ _ hm
  obtain ⟨a2_0, a2_1, a2_2, rfl, w2_0, w2_1, w2_2⟩ := open23 (hval 2 23 v2 rfl rfl) h2
  have k3 := h3
  have lt3 : ∀ x ∈ p3, x.block < W.heap.size := by obtain ⟨m, hm⟩ := k3; exact DataW.trod_lt m _ _ _ hm
  obtain ⟨a3_0, a3_1, a3_2, rfl, w3_0, w3_1, w3_2⟩ := open23 (hval 3 23 v3 rfl rfl) h3
  clear hA0 hval0
  refine (walk a0 a1 a2_0 a2_1 a2_2 a3_0 a3_1 a3_2 w0 w1 w2_0 w2_1 w2_2 w3_0 w3_1 w3_2 W).mono fun e W' ⟨he, bel⟩ => ?_
  subst he
  exact ⟨_, rfl, _, _, _, [], _, [], hW', (trodAll_cons_mk (shut_bool Try.underlying4 _) trodAll_mk0), (trodAll_cons_mk (shut_string Try.underlying9 w0) (trodAll_cons_mk (shut_string Try.underlying9 w1) (trodAll_cons_mk (Below.trod laidOut (by kernel_rfl) (of_decide_eq_true (by kernel_rfl)) k2 bel lt2) (trodAll_cons_mk (Below.trod laidOut (by kernel_rfl) (of_decide_eq_true (by kernel_rfl)) k3 bel lt3) trodAll_mk0)))), rfl, bel.frame _, fun h => by cases h⟩

theorem over : Rows.suffixUnlikeRow.holds Try.pinned (OpenSpec.ofChange Rows.suffixUnlikeSpec) :=
  OpenClaim.holds_of_wide 7 Try.f7 rfl rfl rfl rfl rfl rfl rfl ⟨rfl, rfl, rfl, rfl, rfl⟩ rfl rfl rfl rfl rfl (by kernel_rfl) Try.func7 (by kernel_rfl)
    (of_decide_eq_true (by kernel_rfl)) (by unfold Func.isWrapper; first | (rw [if_pos (by decide +kernel)]; kernel_rfl) | (rw [if_neg (by decide +kernel)]; exact ⟨rfl, rfl⟩))
    (fun os started H enc _ => lifted os started H enc)

theorem proved : Rows.SuffixUnlikeSaid :=
  over
#print axioms proved
end Go.Proofs.Ytkjlmkhanicenaa.suffixUnlike
