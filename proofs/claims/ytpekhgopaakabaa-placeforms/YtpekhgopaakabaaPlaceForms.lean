/- Whatever the two numbers: the law PlaceForms returns true (flashes and records that are none are refused; behind the greatest number there is none; a blank flash's first number is 1), and the arguments read as they did; no condition. -/
import Derived.Test.YtpekhgopaakabaaRows
import Derived.Test.YtpekhgopaakabaaPlaAwake
import Derived.Test.YtpekhgopaakabaaEntRef
import Derived.BigQuiet
import Derived.ChangeOld
import Derived.Below
import Derived.WalkKit
import Derived.ProofKit
import Derived.OpenShut
import Derived.ShutString
namespace Go.Proofs.Ytpekhgopaakabaa.placeForms
open Go.ChangeShapes Go.WideShapes Go.ChangeAt Go.RowKit
open Go.ChangeMaps (open_string shut_string)
set_option linter.unusedVariables false

open Go.Proofs.Ytpekhgopaakabaa.Bytes
open Go.Proofs.Ytpekhgopaakabaa.NorWalk
open Go.Proofs.Ytpekhgopaakabaa.NorRef
open Go.Proofs.Ytpekhgopaakabaa.Ent
open Go.Proofs.Ytpekhgopaakabaa.EntRow
open Go.Proofs.Ytpekhgopaakabaa.EntWalk
open Go.Proofs.Ytpekhgopaakabaa.EntRef
open Go.Proofs.Ytpekhgopaakabaa.Jou
open Go.Proofs.Ytpekhgopaakabaa.JouRef
open Go.Proofs.Ytpekhgopaakabaa.Act
open Go.Proofs.Ytpekhgopaakabaa.Pla
open Go.Proofs.Ytpekhgopaakabaa.PlaWalk
open Go.Proofs.Ytpekhgopaakabaa.PlaAwake
theorem own : ownKnob Try.prog.godebug = none := by kernel_rfl

theorem splice_get (f s : List UInt8) (p i : Nat) (hp : p + s.length ≤ f.length) : (f.take p ++ s ++ f.drop (p + s.length))[i]? = if i < p then f[i]? else if i < p + s.length then s[i - p]? else f[i]? := by
  have h1 : (f.take p).length = p := by rw [List.length_take]; omega
  by_cases a : i < p
  · rw [if_pos a, List.append_assoc, List.getElem?_append_left (by omega), List.getElem?_take_of_lt a]
  · rw [if_neg a]
    by_cases b : i < p + s.length
    · rw [if_pos b, List.getElem?_append_left (by rw [List.length_append]; omega), List.getElem?_append_right (by omega), h1]
    · rw [if_neg b, List.getElem?_append_right (by rw [List.length_append]; omega), List.length_append, h1, List.getElem?_drop, show p + s.length + (i - (p + s.length)) = i from by omega]
def putF (S : ByteArray) (p q : Nat) : ByteArray := Nor.blankS.extract 0 p ++ S ++ Nor.blankS.extract q 768
theorem putF_get (S : ByteArray) (p i : Nat) (hS : S.size = 24) (hp : p + 24 ≤ 768) : (putF S p (p + 24)).data.toList[i]? = if i < p then Nor.blankL[i]? else if i < p + 24 then S.data.toList[i - p]? else Nor.blankL[i]? := by
  have hl : S.data.toList.length = 24 := by rw [Nor.size_list]; exact hS
  have h := splice_get Nor.blankL S.data.toList p i (by rw [hl, Nor.length_blankL]; omega)
  rw [hl] at h
  have e : (Nor.blankS.extract (p + 24) 768).data.toList = Nor.blankL.drop (p + 24) := by
    have := list_tail Nor.blankS (p + 24)
    rw [Nor.size_blankS, Held.list_blankS] at this
    exact this
  have e2 : (putF S p (p + 24)).data.toList = Nor.blankL.take p ++ S.data.toList ++ Nor.blankL.drop (p + 24) := by
    unfold putF
    rw [list_append, list_append, list_head, e, Held.list_blankS]
  rw [e2]
  exact h
theorem putF_size (S : ByteArray) (p : Nat) (hS : S.size = 24) (hp : p + 24 ≤ 768) : (putF S p (p + 24)).size = 768 := by
  unfold putF
  rw [ByteArray.size_append, ByteArray.size_append, ByteArray.size_extract, ByteArray.size_extract, Nor.size_blankS]
  omega
theorem put_scan {q t z m : Int} (h : recMay q t z m = true) (k : Nat) (hk : k < 8) : scanL (putF (putS q t z m) (24 * k) (24 * k + 24)) = [⟨24 * (k : Int), q, t, z, m⟩] := by
  have hS := size_putS h
  have hg := fun i => putF_get (putS q t z m) (24 * k) i hS (by omega)
  have h1 : slotS (putF (putS q t z m) (24 * k) (24 * k + 24)) k = putS q t z m := slotS_is hS fun i hi => by
    rw [hg, if_neg (by omega), if_pos (by omega), show 24 * k + i - 24 * k = i from by omega]
  rw [scan_ok (putF_size _ _ hS (by omega)), found_one (p := k) h h1 8 (fun j h2 h3 => slot_full fun i hi => ?_), if_pos hk]
  rw [hg]
  have hb := Nor.get_blankL (24 * j + i) (by omega)
  by_cases a : 24 * j + i < 24 * k
  · rw [if_pos a, hb]
  · rw [if_neg a, if_neg (by omega), hb]
theorem no_rec (f : ByteArray) (q t z m : Int) (h : ¬ (1 ≤ q ∧ q ≤ 1048576 ∧ 0 ≤ t ∧ t ≤ 1 ∧ 1 ≤ z ∧ z ≤ 288 ∧ 0 ≤ m ∧ m ≤ 4294967295)) : appOk f q t z m = false := by
  cases g : appOk f q t z m with
  | false => rfl
  | true => exact absurd (recMay_parts.1 (imgOk_parts.1 g).2) h
theorem no_app {f : ByteArray} (h : mayF f = false) (q t z m : Int) : appOk f q t z m = false := by unfold appOk; rw [h, Bool.false_and]
theorem build_top (w : World) : (Instr.build 23 #[(0, .int .i64 1048576), (2, .int .i64 5)]).run Try.prog w = .ok (.agg #[.int .i64 1048576, .int .i64 0, .int .i64 5, .int .i64 0]) w := run_build w 23 _ _ (by kernel_rfl)
theorem may_top : recMay 1048576 0 5 0 = true := by decide
theorem next_top (k p : Nat) (hk : k < 8) (hp : p = 24 * k) (w : World) : Calls Try.prog 8 #[.string (putF (putS 1048576 0 5 0) p (p + 24))] w fun e w' => e = .returned (.tuple #[.int .i64 0, .int .i64 801]) ∧ Below w.heap.size w w' := by
  subst hp
  have h := next_any (putF (putS 1048576 0 5 0) (24 * k) (24 * k + 24)) w
  have hz := putF_size (putS 1048576 0 5 0) (24 * k) (size_putS may_top) (by omega)
  have e := next_full (mayF_t hz) (by unfold topI; rw [put_scan may_top k hk]; show ¬ max (0 : Int) 1048576 < 1048576; omega)
  rw [e.1, e.2] at h
  exact h
theorem next_blank (w : World) : Calls Try.prog 8 #[.string Nor.blankS] w fun e w' => e = .returned (.tuple #[.int .i64 1, .int .i64 0]) ∧ Below w.heap.size w w' := by
  have h := next_any Nor.blankS w
  have e := next_yes (mayF_t Nor.size_blankS) (by rw [blank_top]; omega)
  rw [blank_top] at e
  rw [e.1, e.2] at h
  exact h
theorem boxes3 {w' W : World} {a b c d x y z u : Value} {o : Obj} {e : TypeId} (h : ((w'.alloc o).alloc (.cells #[a, b, c, d] e)).alloc (.cells #[x, y, z, u] e) = W) :
    (w'.heap.size + 1 < W.heap.size ∧ W.cell? ⟨w'.heap.size + 1, 0, none⟩ = some a ∧ W.cell? ⟨w'.heap.size + 1, 1, none⟩ = some b ∧ W.cell? ⟨w'.heap.size + 1, 2, none⟩ = some c ∧ W.cell? ⟨w'.heap.size + 1, 3, none⟩ = some d) ∧
    (w'.heap.size + 1 + 1 < W.heap.size ∧ W.cell? ⟨w'.heap.size + 1 + 1, 0, none⟩ = some x ∧ W.cell? ⟨w'.heap.size + 1 + 1, 1, none⟩ = some y ∧ W.cell? ⟨w'.heap.size + 1 + 1, 2, none⟩ = some z ∧ W.cell? ⟨w'.heap.size + 1 + 1, 3, none⟩ = some u) ∧
    (∀ w0 : World, Below w0.heap.size w0 w' → Below w0.heap.size w0 W) := by
  subst h
  have hX := boxM (w'.alloc o) a b c d e
  rw [show (w'.alloc o).heap.size = w'.heap.size + 1 from by simp] at hX
  have hY := boxM ((w'.alloc o).alloc (.cells #[a, b, c, d] e)) x y z u e
  rw [show ((w'.alloc o).alloc (.cells #[a, b, c, d] e)).heap.size = w'.heap.size + 1 + 1 from by simp] at hY
  refine ⟨boxB hX ((Below.refl _ _).alloc (Nat.le_refl _) _), hY, fun w0 hb => ?_⟩
  have h0 := hb.size
  exact ((hb.alloc h0 _).alloc (by simp; omega) _).alloc (by simp; omega) _
set_option maxRecDepth 100000 in
set_option maxHeartbeats 4000000 in
theorem walk (a0 : Int) (a1 : Int) (w0 : (Lit.int .i64 a0).wf = true) (w1 : (Lit.int .i64 a1).wf = true) (w : World) :
    Calls Try.prog 5 #[.int .i64 a0, .int .i64 a1] w fun e w' => e = .returned (.bool true) ∧ Below w.heap.size w w' := by
  have hB : Below w.heap.size w w := Below.refl _ _
  obtain ⟨d, hd, md⟩ : ∃ k : Nat, k ≤ 1023 ∧ bits .and .i64 a1 1023 = (k : Int) := mask_i64 a1 1023 (by omega)
  obtain ⟨c, hc, mc⟩ : ∃ k : Nat, k ≤ 7 ∧ bits .and .i64 a0 7 = (k : Int) := mask_i64 a0 7 (by omega)
  obtain ⟨n, hn, mn⟩ : ∃ k : Nat, k < 3 ∧ wrap64 ((IntKind.u64.wrap a0).tmod 3) = (k : Int) := mod_u64 a0 3 (by omega) (by omega)
  obtain ⟨p, hp⟩ : ∃ p : Nat, p = 24 * c := ⟨_, rfl⟩
  have mp : 24 * (c : Int) = (p : Int) := by omega
  have hp1 : p ≤ 168 := by omega
  have C1 := hide (fun w => refBlank_any w)
  have C2 := hide (fun w => next_top c p (by omega) hp w)
  have C3 := hide (fun w => next_blank w)
  have C4 := hide (fun w => refPut_any 1048576 0 5 0 w)
  rw [may_top] at C4
  have e0 : errE true = 0 := rfl
  have br := build_top
  have z1 : Nor.blankS.size ≤ 768 := by rw [Nor.size_blankS]; omega
  have z2 : 768 ≤ Nor.blankS.size := by rw [Nor.size_blankS]; omega
  have z3 : (1 : Int) ≤ (Nor.blankS.size : Int) := by omega
  have M0 : Hid (mayF ⟨#[]⟩ = false) := by show mayF ⟨#[]⟩ = false; decide
  have M1 : Hid (mayF (Nor.blankS.extract 1 Nor.blankS.size) = false) := mayF_f (by rw [ByteArray.size_extract]; omega)
  have M2 : Hid (mayF (Nor.blankS ++ ⟨#[120]⟩) = false) := mayF_f (by rw [ByteArray.size_append]; have : (ByteArray.mk #[120]).size = 1 := rfl; omega)
  have HF : Hid (putF (putS 1048576 0 5 0) p (p + 24) = Nor.blankS.extract 0 p ++ putS 1048576 0 5 0 ++ Nor.blankS.extract (p + 24) Nor.blankS.size) := by show _ = _; rw [Nor.size_blankS]; rfl
  have s1 : (putS 1048576 0 5 0).size = 24 := size_putS may_top
  have s2 : (Nor.blankS.extract 0 p).size = p := by rw [ByteArray.size_extract]; omega
  have q1 : ¬ 9223372036854775807 < (Nor.blankS.extract 0 p).size + (putS 1048576 0 5 0).size := by omega
  have q2 : ¬ 9223372036854775807 < (Nor.blankS.extract 0 p ++ putS 1048576 0 5 0).size + (Nor.blankS.extract (p + 24) Nor.blankS.size).size := by rw [ByteArray.size_append, ByteArray.size_extract, ByteArray.size_extract]; omega
  have r1 : p ≤ Nor.blankS.size := by omega
  have r2 : p + 24 ≤ Nor.blankS.size := by omega
  clear s1 s2
  generalize putF (putS 1048576 0 5 0) p (p + 24) = X at *
  generalize putS 1048576 0 5 0 = S at *
  generalize Nor.blankS = F at *
  clear hp hc
  obtain rfl | rfl | rfl : n = 0 ∨ n = 1 ∨ n = 2 := by omega
  all_goals
    clear hn
    go_enter Try.func5, Try.ntmps5
    go_wp2_with (first | (go_at_call 15; refine (awake_any _).mono ?_; rintro e w' ⟨rfl, hb⟩; replace hB := hB.trans (hb.mono hB.size); clear hb) | (go_at_call 22; refine (C1.out _).mono ?_; rintro e w' ⟨rfl, hb⟩; replace hB := hB.trans (hb.mono hB.size); clear hb))
    refine (next_none _ _ (by first | exact M0.out | exact M1.out | exact M2.out)).mono ?_; rintro e w3 ⟨rfl, rfl⟩
    generalize hW : World.alloc (World.alloc (World.alloc w' _) _) _ = W
    obtain ⟨hX, hY, hZ⟩ := boxes3 hW
    replace hB := hZ w hB
    clear hW hZ
    generalize w'.heap.size = B at *
    go_wp2_with fail
    refine (append_no _ _ _ _ _ _ (no_app (by first | exact M0.out | exact M1.out | exact M2.out) _ _ _ _)).mono ?_; rintro e w4 ⟨rfl, hb⟩; replace hB := thenB hB hb; replace hX := boxB hX hb; replace hY := boxB hY hb; clear hb
    go_wp2_with fail
    refine (append_no _ _ _ _ _ _ (no_rec _ _ _ _ _ (by omega))).mono ?_; rintro e w5 ⟨rfl, hb⟩; replace hB := thenB hB hb; replace hX := boxB hX hb; clear hb hY
    go_wp2_with fail
    refine (C4.out _).mono ?_; rintro e w6 ⟨rfl, hb⟩; replace hB := thenB hB hb; clear hb hX
    go_wp2_with fail
    go_quiet (fail)
    go_wp2_with fail
    rw [← HF.out]
    refine (C2.out _).mono ?_; rintro e w7 ⟨rfl, hb⟩; replace hB := thenB (bel_drewN hB _) hb; clear hb
    go_wp2_with fail
    refine (C3.out _).mono ?_; rintro e w8 ⟨rfl, hb⟩; replace hB := thenB hB hb; clear hb
    go_wp2_with (go_at_call 12; refine (numJ_any _ _).mono ?_; rintro e w' ⟨rfl, rfl⟩)
    go_ret
    exact ⟨rfl, hB⟩

set_option maxRecDepth 100000 in
theorem lifted (os : Os) (started : os.Started) (H : Type) (enc : TypeId × Value → H) :
    ReturnsInHanded {} Try.checked os 5 .any (Rows.placeFormsSpec.pre6 enc Try.prog Try.f5 Rows.placeFormsRow.domain false) (Rows.placeFormsSpec.post enc Try.prog Try.f5 false true false false) := by
  refine returnsInHanded_of_change (C := Try.checked) own started (by kernel_rfl) Try.func5
    (ChangeSpec.witness6 (enc := enc) (C := Try.checked) false ⟨#[], #[.int .i64 0, .int .i64 0], []⟩ 8 (by kernel_rfl) (by kernel_rfl) (by kernel_rfl) (by kernel_rfl)) ?_
  intro W base args ds gs before hval0 hW hcnd _
  have hval : ∀ (j : Nat) t v, Try.f5.params[j]? = some t → args[j]? = some v → Value.okWide Try.prog W .any base t v := hval0
  have hW' := hW
  obtain ⟨p, q, hA0, hV, rfl, hfz, hnd⟩ := hW
  have hA : DataW.TrodAll enc Try.prog W 0 (fun _ => true) true Try.f5.params.toList args.toList ds p := hA0
  rw [Try.params5] at hA hval
  obtain ⟨v0, vs0, d0, ds0, p0, q0, hargs, rfl, rfl, h0, r0⟩ := trodAll_cons hA
  obtain ⟨v1, vs1, d1, ds1, p1, q1, rfl, rfl, rfl, h1, r1⟩ := trodAll_cons r0
  obtain ⟨rfl, rfl, rfl⟩ := trodAll_nil r1
  obtain rfl : args = #[v0, v1] := by cases args; simp_all
  obtain ⟨rfl, rfl⟩ := trodVars_none hV
  obtain ⟨a0, rfl, rfl, rfl, w0⟩ := open_int Try.underlying3 (hval 0 3 v0 rfl rfl) h0
  obtain ⟨a1, rfl, rfl, rfl, w1⟩ := open_int Try.underlying3 (hval 1 3 v1 rfl rfl) h1
  clear hA0 hval0
  refine (walk a0 a1 w0 w1 W).mono fun e W' ⟨he, bel⟩ => ?_
  subst he
  exact ⟨_, rfl, _, _, _, [], _, [], hW', (trodAll_cons_mk (shut_bool Try.underlying4 _) trodAll_mk0), (trodAll_cons_mk (shut_int Try.underlying3 w0) (trodAll_cons_mk (shut_int Try.underlying3 w1) trodAll_mk0)), rfl, bel.frame _, fun h => by cases h⟩

theorem over : Rows.placeFormsRow.holds Try.pinned (OpenSpec.ofChange Rows.placeFormsSpec) :=
  OpenClaim.holds_of_wide 5 Try.f5 rfl rfl rfl rfl rfl rfl rfl ⟨rfl, rfl, rfl, rfl, rfl⟩ rfl rfl rfl rfl rfl (by kernel_rfl) Try.func5 (by kernel_rfl)
    (of_decide_eq_true (by kernel_rfl)) (by unfold Func.isWrapper; first | (rw [if_pos (by decide +kernel)]; kernel_rfl) | (rw [if_neg (by decide +kernel)]; exact ⟨rfl, rfl⟩))
    (fun os started H enc _ => lifted os started H enc)

theorem proved : Rows.PlaceFormsSaid :=
  over
#print axioms proved
end Go.Proofs.Ytpekhgopaakabaa.placeForms
