/- Whatever the text and the number: the law StageErases returns true (a slot's steps make it blank and turn nothing else), and the arguments read as they did; no condition. -/
import Derived.Test.YtlmndigldifaoaaRows
import Derived.Test.YtlmndigldifaoaaStaAwake
import Derived.Test.YtlmndigldifaoaaOpsRef
import Derived.Deep.RegionHeld3
import Derived.ChangeOld
import Derived.Below
import Derived.WalkKit
import Derived.ProofKit
import Derived.OpenShut
import Derived.ShutString
namespace Go.Proofs.Ytlmndigldifaoaa.stageErases
open Go.ChangeShapes Go.WideShapes Go.ChangeAt Go.RowKit
open Go.ChangeMaps (open_string shut_string)
set_option linter.unusedVariables false

open Go.Proofs.Ytlmndigldifaoaa.Bytes
open Go.Proofs.Ytlmndigldifaoaa.NorRef
open Go.Proofs.Ytlmndigldifaoaa.Ent
open Go.Proofs.Ytlmndigldifaoaa.EntRow
open Go.Proofs.Ytlmndigldifaoaa.EntWalk
open Go.Proofs.Ytlmndigldifaoaa.Jou
open Go.Proofs.Ytlmndigldifaoaa.JouRef
open Go.Proofs.Ytlmndigldifaoaa.Ops
open Go.Proofs.Ytlmndigldifaoaa.Act
open Go.Proofs.Ytlmndigldifaoaa.Pla
open Go.Proofs.Ytlmndigldifaoaa.Sta
open Go.Proofs.Ytlmndigldifaoaa.StaWalk
open Go.Proofs.Ytlmndigldifaoaa.StaAwake
theorem own : ownKnob Try.prog.godebug = none := by kernel_rfl

theorem text_is {a b : ByteArray} (h : a = b) : (a.toList == b.toList) = true := by rw [h]; exact beq_iff_eq.2 rfl
theorem er_at (b : Int) (n i : Nat) (h : i < (erTo b n).length) : (erTo b n)[i] = ⟨true, b + 96 * (i : Int), ⟨#[]⟩⟩ := by
  have := get_erTo b n i (by rw [length_erTo] at h; exact h)
  rw [List.getElem?_eq_getElem h] at this
  exact Option.some.inj this
set_option maxRecDepth 100000 in
set_option maxHeartbeats 4000000 in
theorem walk (a0 : ByteArray) (a1 : Int) (w0 : a0.size ≤ maxLen) (w1 : (Lit.int .i64 a1).wf = true) (w : World) :
    Calls Try.prog 6 #[.string a0, .int .i64 a1] w fun e w' => e = .returned (.bool true) ∧ Below w.heap.size w w' := by
  have hB : Below w.heap.size w w := Below.refl _ _
  obtain ⟨c, hc, mc⟩ : ∃ k : Nat, k ≤ 1 ∧ bits .and .i64 a1 1 = (k : Int) := mask_i64 a1 1 (by omega)
  by_cases hf : a0.size = 768
  · have z1 : a0.size ≤ 768 := by omega
    have z2 : 768 ≤ a0.size := by omega
    have hd : ((a0.size : Int) != 768) = false := by rw [hf]; rfl
    have HZ := hide hf
    clear hf
    have C3 := hide (fun w => refBlank_any w)
    obtain rfl | rfl : c = 0 ∨ c = 1 := by omega
    · clear hc
      have C1 := hide (fun w => erases_yes 0 192 w (by omega) rfl)
      have HA := hide (er_at 192 3)
      have hL : (erTo (192 : Int) 3).length = 3 := length_erTo _ _
      have HL := hide hL
      clear hL
      generalize erTo (192 : Int) 3 = L at *
      go_enter Try.func6, Try.ntmps6
      go_wp2_with (go_at_call 15; refine (awake_any _).mono ?_; rintro e w' ⟨rfl, hb⟩; replace hB := hB.trans (hb.mono hB.size); clear hb)
      refine (C1.out _).mono ?_; rintro e w1 ⟨v, rfl, hown, hb⟩; replace hB := thenB hB hb; clear hb
      obtain ⟨g, cap, rfl, f1, f2⟩ := hown.form (by omega)
      obtain ⟨f3, hg, hin⟩ := OpsRow.owns_in hown
      clear hown C1 f1 f2 f3
      go_wp2_with (go_at_call 13; refine (numJ_any _ _).mono ?_; rintro e w' ⟨rfl, rfl⟩)
      go_loopw [8, 9] (fun x y wr => ∃ (n : Nat) (F : ByteArray), n ≤ 3 ∧ x = .string F ∧ y = .int .i64 n ∧ Hid (Gone a0 F 192 n) ∧ Below w'.heap.size w' wr) (fun _ y _ => 3 - (intOf y).toNat)
      case atStart => exact ⟨0, _, Nat.zero_le _, rfl, rfl, gone_zero HZ.out 192, Below.refl _ _⟩
      case round =>
        obtain ⟨n, F, hn, rfl, rfl, HX, hbel⟩ := hrel
        by_cases hlt : n < 3
        · have hlt2 : n < L.length := by rw [HL.out]; exact hlt
          have hin1 := hin.below hbel hg
          have c0 := hin1.er n hlt2
          have c1 := hin1.pl n hlt2
          have c2 := hin1.tx n hlt2
          rw [HA.out n hlt2] at c0 c1 c2
          obtain ⟨g1, g2⟩ := gone_step HX.out (by omega) (by omega)
          have HD := hide (fun w => OpsRef.refDo_any F true (((192 : Nat) : Int) + 96 * (n : Int)) ⟨#[]⟩ w)
          rw [g1] at HD
          have HX2 := hide g2
          have e0 : errO true = 0 := rfl
          obtain ⟨A, hA⟩ : ∃ A : Int, ((192 : Nat) : Int) + 96 * (n : Int) = A := ⟨_, rfl⟩
          have hA2 : (192 : Int) + 96 * (n : Int) = A := hA
          rw [hA] at HD HX2
          rw [hA2] at c1
          clear hin1 g1 g2 HX hA hA2
          generalize cutS F true A ⟨#[]⟩ 96 = G at *
          go_wp2_with (go_at_call 21; refine (HD.out _).mono ?_; rintro e w3 ⟨rfl, hb⟩)
          exact ⟨⟨n + 1, _, by omega, rfl, by go_num, HX2, hbel.trans (hb.mono hbel.size)⟩, by simp [intOf]; omega⟩
        · obtain rfl : n = 3 := by omega
          obtain ⟨x1, x2, x3⟩ := gone_end HZ.out HX.out
          have zF : F.size = 768 := HX.out.sy
          have t1 : F.size ≤ 768 := by omega
          have t2 : 768 ≤ F.size := by omega
          have dl : ((F.size : Int) == (a0.size : Int)) = true := by rw [zF, HZ.out]; rfl
          have y1 : Nor.blankS.size ≤ 768 := by rw [Nor.size_blankS]; omega
          have y2 : 768 ≤ Nor.blankS.size := by rw [Nor.size_blankS]; omega
          replace hB := thenB hB hbel
          clear hin hbel hg HX zF HA HL hn hlt
          generalize Nor.blankS = K at *
          replace x2 : F.extract 192 480 = K.extract 0 288 := x2
          replace x3 : F.extract 480 F.size = a0.extract 480 a0.size := x3
          have i1 : (192 : Int) ≤ (F.size : Int) := by omega
          have i2 : (480 : Int) ≤ (F.size : Int) := by omega
          have i3 : (192 : Int) ≤ (a0.size : Int) := by omega
          have i4 : (480 : Int) ≤ (a0.size : Int) := by omega
          have X1 := text_is x1
          have X2 := text_is x2
          have X3 := text_is x3
          clear x1 x2 x3
          have i8 : IntKind.i64.wrap 480 = 480 := by decide
          have i5 : (288 : Int) ≤ (K.size : Int) := by omega
          go_wp2_with fail
          go_region_held3 (fun _ => True) (go_keep) (first | (go_at_call 18; refine (C3.out _).mono ?_; rintro e w5 ⟨rfl, hb⟩; replace hB := thenD hb hB rfl rfl rfl rfl; clear hb))
          go_wp2_with fail
          go_ret
          exact ⟨rfl, hB⟩
    · clear hc
      have C1 := hide (fun w => erases_yes 1 480 w (by omega) rfl)
      have HA := hide (er_at 480 3)
      have hL : (erTo (480 : Int) 3).length = 3 := length_erTo _ _
      have HL := hide hL
      clear hL
      generalize erTo (480 : Int) 3 = L at *
      go_enter Try.func6, Try.ntmps6
      go_wp2_with (go_at_call 15; refine (awake_any _).mono ?_; rintro e w' ⟨rfl, hb⟩; replace hB := hB.trans (hb.mono hB.size); clear hb)
      refine (C1.out _).mono ?_; rintro e w1 ⟨v, rfl, hown, hb⟩; replace hB := thenB hB hb; clear hb
      obtain ⟨g, cap, rfl, f1, f2⟩ := hown.form (by omega)
      obtain ⟨f3, hg, hin⟩ := OpsRow.owns_in hown
      clear hown C1 f1 f2 f3
      go_wp2_with (go_at_call 13; refine (numJ_any _ _).mono ?_; rintro e w' ⟨rfl, rfl⟩)
      go_loopw [8, 9] (fun x y wr => ∃ (n : Nat) (F : ByteArray), n ≤ 3 ∧ x = .string F ∧ y = .int .i64 n ∧ Hid (Gone a0 F 480 n) ∧ Below w'.heap.size w' wr) (fun _ y _ => 3 - (intOf y).toNat)
      case atStart => exact ⟨0, _, Nat.zero_le _, rfl, rfl, gone_zero HZ.out 480, Below.refl _ _⟩
      case round =>
        obtain ⟨n, F, hn, rfl, rfl, HX, hbel⟩ := hrel
        by_cases hlt : n < 3
        · have hlt2 : n < L.length := by rw [HL.out]; exact hlt
          have hin1 := hin.below hbel hg
          have c0 := hin1.er n hlt2
          have c1 := hin1.pl n hlt2
          have c2 := hin1.tx n hlt2
          rw [HA.out n hlt2] at c0 c1 c2
          obtain ⟨g1, g2⟩ := gone_step HX.out (by omega) (by omega)
          have HD := hide (fun w => OpsRef.refDo_any F true (((480 : Nat) : Int) + 96 * (n : Int)) ⟨#[]⟩ w)
          rw [g1] at HD
          have HX2 := hide g2
          have e0 : errO true = 0 := rfl
          obtain ⟨A, hA⟩ : ∃ A : Int, ((480 : Nat) : Int) + 96 * (n : Int) = A := ⟨_, rfl⟩
          have hA2 : (480 : Int) + 96 * (n : Int) = A := hA
          rw [hA] at HD HX2
          rw [hA2] at c1
          clear hin1 g1 g2 HX hA hA2
          generalize cutS F true A ⟨#[]⟩ 96 = G at *
          go_wp2_with (go_at_call 21; refine (HD.out _).mono ?_; rintro e w3 ⟨rfl, hb⟩)
          exact ⟨⟨n + 1, _, by omega, rfl, by go_num, HX2, hbel.trans (hb.mono hbel.size)⟩, by simp [intOf]; omega⟩
        · obtain rfl : n = 3 := by omega
          obtain ⟨x1, x2, x3⟩ := gone_end HZ.out HX.out
          have zF : F.size = 768 := HX.out.sy
          have t1 : F.size ≤ 768 := by omega
          have t2 : 768 ≤ F.size := by omega
          have dl : ((F.size : Int) == (a0.size : Int)) = true := by rw [zF, HZ.out]; rfl
          have y1 : Nor.blankS.size ≤ 768 := by rw [Nor.size_blankS]; omega
          have y2 : 768 ≤ Nor.blankS.size := by rw [Nor.size_blankS]; omega
          replace hB := thenB hB hbel
          clear hin hbel hg HX zF HA HL hn hlt
          generalize Nor.blankS = K at *
          replace x2 : F.extract 480 768 = K.extract 0 288 := x2
          replace x3 : F.extract 768 F.size = a0.extract 768 a0.size := x3
          have i1 : (480 : Int) ≤ (F.size : Int) := by omega
          have i2 : (768 : Int) ≤ (F.size : Int) := by omega
          have i3 : (480 : Int) ≤ (a0.size : Int) := by omega
          have i4 : (768 : Int) ≤ (a0.size : Int) := by omega
          have X1 := text_is x1
          have X2 := text_is x2
          have X3 := text_is x3
          clear x1 x2 x3
          have i8 : IntKind.i64.wrap 768 = 768 := by decide
          have i5 : (288 : Int) ≤ (K.size : Int) := by omega
          go_wp2_with fail
          go_region_held3 (fun _ => True) (go_keep) (first | (go_at_call 18; refine (C3.out _).mono ?_; rintro e w5 ⟨rfl, hb⟩; replace hB := thenD hb hB rfl rfl rfl rfl; clear hb))
          go_wp2_with fail
          go_ret
          exact ⟨rfl, hB⟩
  · have hd : ((a0.size : Int) != 768) = true := bne_iff_ne.2 (by omega)
    have C1 := hide (fun w => erases_yes c _ w hc rfl)
    go_enter Try.func6, Try.ntmps6
    go_wp2_with (first | (go_at_call 15; refine (awake_any _).mono ?_; rintro e w' ⟨rfl, hb⟩; replace hB := hB.trans (hb.mono hB.size); clear hb) | (go_at_call 8; refine (C1.out _).mono ?_; rintro e w1 ⟨v, rfl, hown, hb⟩; replace hB := thenB hB hb; clear hb) | (go_at_call 13; refine (numJ_any _ _).mono ?_; rintro e w' ⟨rfl, rfl⟩))
    go_ret
    exact ⟨rfl, hB⟩

set_option maxRecDepth 100000 in
theorem lifted (os : Os) (started : os.Started) (H : Type) (enc : TypeId × Value → H) :
    ReturnsInHanded {} Try.checked os 6 .any (Rows.stageErasesSpec.pre6 enc Try.prog Try.f6 Rows.stageErasesRow.domain false) (Rows.stageErasesSpec.post enc Try.prog Try.f6 false true false false) := by
  refine returnsInHanded_of_change (C := Try.checked) own started (by kernel_rfl) Try.func6
    (ChangeSpec.witness6 (enc := enc) (C := Try.checked) false ⟨#[], #[.string ByteArray.empty, .int .i64 0], []⟩ 8 (by kernel_rfl) (by kernel_rfl) (by kernel_rfl) (by kernel_rfl)) ?_
  intro W base args ds gs before hval0 hW hcnd _
  have hval : ∀ (j : Nat) t v, Try.f6.params[j]? = some t → args[j]? = some v → Value.okWide Try.prog W .any base t v := hval0
  have hW' := hW
  obtain ⟨p, q, hA0, hV, rfl, hfz, hnd⟩ := hW
  have hA : DataW.TrodAll enc Try.prog W 0 (fun _ => true) true Try.f6.params.toList args.toList ds p := hA0
  rw [Try.params6] at hA hval
  obtain ⟨v0, vs0, d0, ds0, p0, q0, hargs, rfl, rfl, h0, r0⟩ := trodAll_cons hA
  obtain ⟨v1, vs1, d1, ds1, p1, q1, rfl, rfl, rfl, h1, r1⟩ := trodAll_cons r0
  obtain ⟨rfl, rfl, rfl⟩ := trodAll_nil r1
  obtain rfl : args = #[v0, v1] := by cases args; simp_all
  obtain ⟨rfl, rfl⟩ := trodVars_none hV
  obtain ⟨a0, rfl, rfl, rfl, w0⟩ := open_string Try.underlying9 (hval 0 9 v0 rfl rfl) h0
  obtain ⟨a1, rfl, rfl, rfl, w1⟩ := open_int Try.underlying3 (hval 1 3 v1 rfl rfl) h1
  clear hA0 hval0
  refine (walk a0 a1 w0 w1 W).mono fun e W' ⟨he, bel⟩ => ?_
  subst he
  exact ⟨_, rfl, _, _, _, [], _, [], hW', (trodAll_cons_mk (shut_bool Try.underlying4 _) trodAll_mk0), (trodAll_cons_mk (shut_string Try.underlying9 w0) (trodAll_cons_mk (shut_int Try.underlying3 w1) trodAll_mk0)), rfl, bel.frame _, fun h => by cases h⟩

theorem over : Rows.stageErasesRow.holds Try.pinned (OpenSpec.ofChange Rows.stageErasesSpec) :=
  OpenClaim.holds_of_wide 6 Try.f6 rfl rfl rfl rfl rfl rfl rfl ⟨rfl, rfl, rfl, rfl, rfl⟩ rfl rfl rfl rfl rfl (by kernel_rfl) Try.func6 (by kernel_rfl)
    (of_decide_eq_true (by kernel_rfl)) (by unfold Func.isWrapper; first | (rw [if_pos (by decide +kernel)]; kernel_rfl) | (rw [if_neg (by decide +kernel)]; exact ⟨rfl, rfl⟩))
    (fun os started H enc _ => lifted os started H enc)

theorem proved : Rows.StageErasesSaid :=
  over
#print axioms proved
end Go.Proofs.Ytlmndigldifaoaa.stageErases
