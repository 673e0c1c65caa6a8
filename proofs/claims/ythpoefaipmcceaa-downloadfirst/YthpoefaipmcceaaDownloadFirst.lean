/- Whatever the flash and the data: the law DownloadFirst returns true (who begins erases the other slot, and writes there, and nowhere else), and the arguments read as they did; no condition. -/
import Derived.Test.YthpoefaipmcceaaRows
import Derived.Test.YthpoefaipmcceaaBagNor
import Derived.Test.YthpoefaipmcceaaBagOps
import Derived.Test.YthpoefaipmcceaaBagDev
import Derived.Test.YthpoefaipmcceaaChoRef
import Derived.Test.YthpoefaipmcceaaBagAct
import Derived.Test.YthpoefaipmcceaaBagDnl
import Derived.Test.YthpoefaipmcceaaBagRow
import Derived.Test.YthpoefaipmcceaaDnlAwake
import Derived.Deep.RegionHeld3
import Derived.Deep.Cut
import Derived.ChangeOld
import Derived.Below
import Derived.WalkKit
import Derived.ProofKit
import Derived.OpenShut
import Derived.ShutString
namespace Go.Proofs.Ythpoefaipmcceaa.downloadFirst
open Go.ChangeShapes Go.WideShapes Go.ChangeAt Go.RowKit
open Go.ChangeMaps (open_string shut_string)
set_option linter.unusedVariables false

open Go.Proofs.Ythpoefaipmcceaa.Bytes
open Go.Proofs.Ythpoefaipmcceaa.Ops
open Go.Proofs.Ythpoefaipmcceaa.Jou
open Go.Proofs.Ythpoefaipmcceaa.Act
open Go.Proofs.Ythpoefaipmcceaa.Held
open Go.Proofs.Ythpoefaipmcceaa.Cho
open Go.Proofs.Ythpoefaipmcceaa.Sta
open Go.Proofs.Ythpoefaipmcceaa.Dev
open Go.Proofs.Ythpoefaipmcceaa.DevRow
open Go.Proofs.Ythpoefaipmcceaa.DevHelp
open Go.Proofs.Ythpoefaipmcceaa.DevAwake
open Go.Proofs.Ythpoefaipmcceaa.Dnl
open Go.Proofs.Ythpoefaipmcceaa.DnlMore
open Go.Proofs.Ythpoefaipmcceaa.DnlDoes
theorem own : ownKnob Try.prog.godebug = none := by kernel_rfl

open Go.Proofs.Ythpoefaipmcceaa.OpsRow (thenD)
theorem text_is {a b : ByteArray} (h : a = b) : (a.toList == b.toList) = true := by rw [h]; exact beq_iff_eq.2 rfl
set_option maxRecDepth 100000 in
set_option maxHeartbeats 4000000 in
theorem walk (a0 : ByteArray) (a1 : ByteArray) (w0 : a0.size ≤ maxLen) (w1 : a1.size ≤ maxLen) (w : World) :
    Calls Try.prog 6 #[.string a0, .string a1] w fun e w' => e = .returned (.bool true) ∧ Below w.heap.size w w' := by
  have hB : Below w.heap.size w w := Below.refl _ _
  have br := DevWalk.build_d0
  cases hok : okB a0 newD 0 a1 with
  | false =>
    have C1 := hide (fun w => DnlAwake.refused (d := newD) hok (.slice none 0 0) w (isSt_nil w))
    have C5 := hide fun v w' h => sameDev_yes ⟨0, 0, 0, 0, 0, []⟩ v (.slice none 0 0) w' h (isSt_nil w')
    unfold newD at C1
    dsimp only at C1 C5
    clear hok
    go_enter Try.func6, Try.ntmps6
    go_wp2_with (go_at_call 14; refine (DnlAwake.awake_any _).mono ?_; rintro e w' ⟨rfl, hb⟩; replace hB := hB.trans (hb.mono hB.size); clear hb)
    refine (C1.out _).mono ?_; rintro e u2 ⟨sa, sc, rfl, hI, hb⟩; replace hB := thenB hB hb; clear hb
    have hQ := resM u2 (.int .i64 0) (.int .i64 0) (.int .i64 0) (.int .i64 0) (.int .i64 0) (.slice sa 0 sc) 24
    have hn := hal u2 (.cells #[.int .i64 0, .int .i64 0, .int .i64 0, .int .i64 0, .int .i64 0, .slice sa 0 sc] 24)
    replace hB := thenB hB hn
    replace hI := hI.below hn
    clear hn
    go_upto_region 4 with fail
    generalize u2.alloc _ = W2 at *
    generalize u2.heap.size = G2 at *
    go_wp2_with (go_at_call 12; refine (num_any _ _).mono ?_; rintro e w' ⟨rfl, rfl⟩)
    refine (C5.out _ _ hI).mono ?_; rintro e u3 ⟨rfl, hb⟩; replace hB := thenB hB hb; clear hb
    go_wp2_with fail
    go_ret
    exact ⟨rfl, hB⟩
  | true =>
    obtain ⟨h1, _, _, _, h6⟩ := okB_parts.1 hok
    by_cases h0 : a1.size = 0
    · have C1 := hide (fun w => DnlAwake.took (d := newD) (n := 0) hok (start_none h1 h0).2 rfl (.slice none 0 0) w (isSt_nil w))
      unfold newD failedD at C1
      dsimp only at C1
      obtain rfl := DnlWalk.text_none h0
      clear hok h1 h6 h0
      go_enter Try.func6, Try.ntmps6
      go_wp2_with (go_at_call 14; refine (DnlAwake.awake_any _).mono ?_; rintro e w' ⟨rfl, hb⟩; replace hB := hB.trans (hb.mono hB.size); clear hb)
      refine (C1.out _).mono ?_; rintro e u2 ⟨sa, sc, rfl, hI, hb⟩; replace hB := thenB hB hb; clear hb
      have hQ := resM u2 (.int .i64 7) (.int .i64 5) (.int .i64 0) (.int .i64 0) (.int .i64 0) (.slice sa 0 sc) 24
      have hn := hal u2 (.cells #[.int .i64 7, .int .i64 5, .int .i64 0, .int .i64 0, .int .i64 0, .slice sa 0 sc] 24)
      replace hB := thenB hB hn
      clear hn hI
      go_upto_region 4 with fail
      generalize u2.alloc _ = W2 at *
      generalize u2.heap.size = G2 at *
      go_wp2_with (go_at_call 12; refine (num_any _ _).mono ?_; rintro e w' ⟨rfl, rfl⟩)
      go_ret
      exact ⟨rfl, hB⟩
    have ht0 := DnlWalk.text_some h0
    obtain ⟨o0, o1⟩ := oth_01 a0
    obtain ⟨e1, e2⟩ := start_as (t := a1) o0 o1 h6
    have hst := (start_is h1 h0 h6).2
    have hN := length_start (othI a0) a1 o0 o1 h6
    have HM : Hid (mayAll (erL (othI a0) ++ wordsL (baseI (othI a0)) a1) = true) := may_append (may_erases _) may_words
    have C2 := hide (fun w => ChoRef.refOther_any a0 w)
    rw [show errOt a0 = 0 by unfold errOt; rw [h1]; rfl] at C2
    have C3 := hide (fun w => ActRef.refBase_any (othI a0) w)
    rw [(base_of o0 o1).1, show errI true = 0 from rfl, e2] at C3
    rw [e1] at hst hN HM
    obtain ⟨p, hp⟩ : ∃ p : Nat, p = 192 + 288 * (othI a0).toNat := ⟨_, rfl⟩
    rw [← hp] at hst hN HM C3
    have p0 : p = 192 ∨ p = 480 := by omega
    have p1 : p % 96 = 0 := by omega
    have p2 : p + 288 ≤ 768 := by omega
    have hf : a0.size = 768 := may_size h1
    obtain ⟨x0, x1, x2, x3⟩ := done hf p p1 p2 (by omega) (wordsOk_parts.2 ⟨by omega, by omega, by omega, by omega⟩ : wordsOk (p : Int) a1 = true)
    have HG := hide (fun n h => start_get (p := p) (t := a1) h6 (n := n) h)
    generalize erTo (p : Int) 3 ++ wordsTo (p : Int) a1 (wordsN a1) = L at *
    have HO := hide (fun n h => do_ok hf HM.out (n := n) h)
    have HT := hide (fun n h => doL_take a0 L n h)
    have C1 := hide (fun w => DnlAwake.took (d := newD) (n := 3 + (a1.size + 3) / 4) hok hst hN (.slice none 0 0) w (isSt_nil w))
    unfold newD at C1
    dsimp only at C1
    have X1 := text_is x1
    have y2 : (doL a0 L).extract 0 p = a0.extract 0 p := ext_out fun i _ hi => x2 i (.inl hi)
    have y3 : (doL a0 L).extract (p + 288) 768 = a0.extract (p + 288) 768 := ext_out fun i hi _ => x2 i (.inr hi)
    have X2 := text_is y2
    have X3 := text_is y3
    rw [show (768 : Nat) = a0.size from hf.symm] at X3
    obtain ⟨N, hNN⟩ : ∃ N : Nat, 3 + (a1.size + 3) / 4 = N := ⟨_, rfl⟩
    have hN4 : 4 ≤ N := by omega
    have hN11 : N ≤ 11 := by omega
    rw [hNN] at C1 hN
    have HN := hide hN
    have HZ := hide hf
    have HX := hide (⟨x0, X1, X2, X3⟩ : _ ∧ _ ∧ _ ∧ _)
    clear hok hst e1 e2 hp p1 HM x0 x1 x2 x3 y2 y3 X1 X2 X3 hN hNN h1 hf
    generalize othI a0 = S at *
    have f1 : (S != S) = false := bne_self_eq_false _
    have f2 : ((a1.size : Int) != (a1.size : Int)) = false := bne_self_eq_false _
    go_enter Try.func6, Try.ntmps6
    go_wp2_with (go_at_call 14; refine (DnlAwake.awake_any _).mono ?_; rintro e w' ⟨rfl, hb⟩; replace hB := hB.trans (hb.mono hB.size); clear hb)
    refine (C1.out _).mono ?_; rintro e u2 ⟨sa, sc, rfl, hI, hb⟩; replace hB := thenB hB hb; clear hb C1
    have hQ := resM u2 (.int .i64 1) (.int .i64 0) (.int .i64 1) (.int .i64 (a1.size : Int)) (.int .i64 S) (.slice sa N sc) 24
    have hn := hal u2 (.cells #[.int .i64 1, .int .i64 0, .int .i64 1, .int .i64 (a1.size : Int), .int .i64 S, .slice sa N sc] 24)
    replace hB := thenB hB hn
    replace hI := hI.below hn
    clear hn
    go_upto_region 4 with fail
    generalize u2.alloc _ = W2 at *
    generalize u2.heap.size = G2 at *
    go_upto_region 8 with (go_at_call 12; refine (num_any _ _).mono ?_; rintro e w' ⟨rfl, rfl⟩)
    go_upto_region 12 with (first | (go_at_call 18; refine (C2.out _).mono ?_; rintro e u3 ⟨rfl, hb⟩; replace hB := thenB hB hb; replace hQ := resB hQ hb; replace hI := hI.below hb; clear hb) | (go_at_call 19; refine (C3.out _).mono ?_; rintro e u4 ⟨rfl, rfl⟩))
    clear C2 C3
    obtain ⟨_, gb, go, rfl, s1, s2, hg, hin⟩ := DnlHelp.st_open hI (by omega)
    clear hI
    have hN9 : N ≤ 9223372036854775807 := by omega
    go_wp2_with fail
    go_loopw [11] (fun x wr => ∃ n : Nat, n ≤ N ∧ x = .int .i64 n ∧ Below u4.heap.size u4 wr) (fun x _ => N - (intOf x).toNat)
    case atStart => exact ⟨0, Nat.zero_le _, rfl, Below.refl _ _⟩
    case round =>
      obtain ⟨n, hn, rfl, hbel⟩ := hrel
      replace hQ := resB hQ hbel
      by_cases hlt : n < N
      · have hlt2 : n < L.length := by rw [HN.out]; exact hlt
        have hin1 := hin.below hbel hg
        have c0 := hin1.er n hlt2
        have c1 := hin1.pl n hlt2
        have c2 := hin1.tx n hlt2
        obtain ⟨q0, q1, q2⟩ := HG.out n hlt2
        rw [q0] at c0
        generalize L[n].pl = A at *
        generalize L[n].tx = T at *
        clear hin1 hin q0 HG HO HT HX HZ HN
        by_cases h3 : n < 3
        · rw [decide_eq_true h3] at c0
          have h3' : ((n : Int) < 3) := by omega
          go_wp2_with fail
          exact ⟨⟨n + 1, by omega, by go_num, hbel.alloc hbel.size _⟩, by simp [intOf]; omega⟩
        · rw [decide_eq_false h3] at c0
          have h3' : ¬ ((n : Int) < 3) := by omega
          go_wp2_with fail
          exact ⟨⟨n + 1, by omega, by go_num, hbel.alloc hbel.size _⟩, by simp [intOf]; omega⟩
      · obtain rfl : n = N := by omega
        replace hin := hin.below hbel hg
        replace hg := Nat.lt_of_lt_of_le hg hbel.size
        replace hB := thenB hB hbel
        clear hbel hlt hn HG
        go_wp2_with fail
        go_loopw [13, 14] (fun x y wr' => ∃ (m : Nat) (F : ByteArray), m ≤ n ∧ x = .string F ∧ y = .int .i64 m ∧ Hid (F = doL a0 (L.take m)) ∧ Below wr.heap.size wr wr') (fun _ y _ => n - (intOf y).toNat)
        case atStart => exact ⟨0, _, Nat.zero_le _, rfl, rfl, rfl, Below.refl _ _⟩
        case round =>
          obtain ⟨m, F, hm, rfl, rfl, HF, hbel⟩ := hrel
          replace hQ := resB hQ hbel
          by_cases hlt : m < n
          · have hlt2 : m < L.length := by rw [HN.out]; exact hlt
            have hin1 := hin.below hbel hg
            have c0 := hin1.er m hlt2
            have c1 := hin1.pl m hlt2
            have c2 := hin1.tx m hlt2
            have HD := hide (fun w => OpsRef.refDo_any F L[m].er L[m].pl L[m].tx w)
            have hok := HO.out m hlt2
            rw [← HF.out] at hok
            rw [hok, show errO true = 0 from rfl] at HD
            have HF2 : Hid (cutS F L[m].er L[m].pl L[m].tx 96 = doL a0 (L.take (m + 1))) := by show _ = _; rw [HF.out]; exact (HT.out m hlt2).symm
            clear hok HF
            generalize cutS F L[m].er L[m].pl L[m].tx 96 = F2 at *
            generalize L[m].er = E at *
            generalize L[m].pl = A at *
            generalize L[m].tx = T at *
            clear hin1 hin HO HT HX HZ HN
            go_wp2_with (go_at_call 16; refine (HD.out _).mono ?_; rintro e w3 ⟨rfl, hb⟩)
            exact ⟨⟨m + 1, _, by omega, rfl, by go_num, HF2, hbel.trans (hb.mono hbel.size)⟩, by simp [intOf]; omega⟩
          · obtain rfl : m = n := by omega
            have hF := HF.out
            rw [show L.take m = L by rw [← HN.out, List.take_length]] at hF
            obtain ⟨zF, X1, X2, X3⟩ := HX.out
            rw [← hF] at zF X1 X2 X3
            have i0 : a0.size = F.size := by rw [HZ.out, zF]
            rw [show (F.extract (p + 288) a0.size) = F.extract (p + 288) F.size by rw [i0]] at X3
            have t1 : F.size ≤ 768 := by omega
            have t2 : 768 ≤ F.size := by omega
            have t3 : a0.size ≤ 768 := by omega
            have t4 : 768 ≤ a0.size := by omega
            replace hB := thenB hB hbel
            clear hin hbel hg HX zF i0 hF HF HO HT HN HZ hm hlt
            rcases p0 with rfl | rfl
            · replace X3 : ((F.extract 480 F.size).toList == (a0.extract 480 a0.size).toList) = true := X3
              have i1 : (192 : Int) ≤ (F.size : Int) := by omega
              have i2 : (480 : Int) ≤ (F.size : Int) := by omega
              have i3 : (192 : Int) ≤ (a0.size : Int) := by omega
              have i4 : (480 : Int) ≤ (a0.size : Int) := by omega
              obtain ⟨r, hr⟩ : ∃ r : Nat, r = 192 + a1.size := ⟨_, rfl⟩
              rw [← hr] at X1
              have i5 : (r : Int) ≤ (F.size : Int) := by omega
              have i6 : (192 : Int) ≤ (r : Int) := by omega
              have i8 : IntKind.i64.wrap 480 = 480 := by decide
              have i9 : IntKind.i64.wrap ((192 : Int) + (a1.size : Int)) = (r : Int) := by rw [IntKind.wrap_i64]; omega
              clear hr
              go_wp2_with fail
              clear hQ
              have fs := DnlHelp.field_sent
              go_region_held3 (fun _ => True) (go_keep) (first | (go_at_call 17; refine (DnlAwake.sent_any _).mono ?_; rintro e w5 ⟨ka, kc, rfl, _, hb⟩; replace hB := thenD hb hB rfl rfl rfl rfl; clear hb))
              go_wp2_with fail
              go_ret
              exact ⟨rfl, hB⟩
            · replace X3 : ((F.extract 768 F.size).toList == (a0.extract 768 a0.size).toList) = true := X3
              have i1 : (480 : Int) ≤ (F.size : Int) := by omega
              have i2 : (768 : Int) ≤ (F.size : Int) := by omega
              have i3 : (480 : Int) ≤ (a0.size : Int) := by omega
              have i4 : (768 : Int) ≤ (a0.size : Int) := by omega
              obtain ⟨r, hr⟩ : ∃ r : Nat, r = 480 + a1.size := ⟨_, rfl⟩
              rw [← hr] at X1
              have i5 : (r : Int) ≤ (F.size : Int) := by omega
              have i6 : (480 : Int) ≤ (r : Int) := by omega
              have i8 : IntKind.i64.wrap 768 = 768 := by decide
              have i9 : IntKind.i64.wrap ((480 : Int) + (a1.size : Int)) = (r : Int) := by rw [IntKind.wrap_i64]; omega
              clear hr
              go_wp2_with fail
              clear hQ
              have fs := DnlHelp.field_sent
              go_region_held3 (fun _ => True) (go_keep) (first | (go_at_call 17; refine (DnlAwake.sent_any _).mono ?_; rintro e w5 ⟨ka, kc, rfl, _, hb⟩; replace hB := thenD hb hB rfl rfl rfl rfl; clear hb))
              go_wp2_with fail
              go_ret
              exact ⟨rfl, hB⟩

set_option maxRecDepth 100000 in
theorem lifted (os : Os) (started : os.Started) (H : Type) (enc : TypeId × Value → H) :
    ReturnsInHanded {} Try.checked os 6 .any (Rows.downloadFirstSpec.pre6 enc Try.prog Try.f6 Rows.downloadFirstRow.domain false) (Rows.downloadFirstSpec.post enc Try.prog Try.f6 false true false false) := by
  refine returnsInHanded_of_change (C := Try.checked) own started (by kernel_rfl) Try.func6
    (ChangeSpec.witness6 (enc := enc) (C := Try.checked) false ⟨#[], #[.string ByteArray.empty, .string ByteArray.empty], []⟩ 8 (by kernel_rfl) (by kernel_rfl) (by kernel_rfl) (by kernel_rfl)) ?_
  intro W base args ds gs before hval0 hW hcnd _
  have hval : ∀ (j : Nat) t v, Try.f6.params[j]? = some t → args[j]? = some v → Value.okWide Try.prog W .any base t v := hval0
  have hW' := hW
  obtain ⟨p, q, hA0, hV, rfl, hfz, hnd⟩ := hW
  have hA : DataW.TrodAll enc Try.prog W 0 (fun _ => true) true Try.f6.params.toList args.toList ds p := hA0
  rw [Try.params6] at hA hval
  obtain ⟨v0, vs0, d0, ds0, p0, q0, hargs, rfl, rfl, h0, r0⟩ := trodAll_cons hA
  obtain ⟨v1, vs1, d1, ds1, p1, q1, rfl, rfl, rfl, h1, r1⟩ := trodAll_cons r0
  obtain ⟨rfl, rfl, rfl⟩ := trodAll_nil r1
  obtain rfl : args = #[v0, v1] := by cases args; simp_all
  obtain ⟨rfl, rfl⟩ := trodVars_none hV
  obtain ⟨a0, rfl, rfl, rfl, w0⟩ := open_string Try.underlying9 (hval 0 9 v0 rfl rfl) h0
  obtain ⟨a1, rfl, rfl, rfl, w1⟩ := open_string Try.underlying9 (hval 1 9 v1 rfl rfl) h1
  clear hA0 hval0
  refine (walk a0 a1 w0 w1 W).mono fun e W' ⟨he, bel⟩ => ?_
  subst he
  exact ⟨_, rfl, _, _, _, [], _, [], hW', (trodAll_cons_mk (shut_bool Try.underlying4 _) trodAll_mk0), (trodAll_cons_mk (shut_string Try.underlying9 w0) (trodAll_cons_mk (shut_string Try.underlying9 w1) trodAll_mk0)), rfl, bel.frame _, fun h => by cases h⟩

theorem over : Rows.downloadFirstRow.holds Try.pinned (OpenSpec.ofChange Rows.downloadFirstSpec) :=
  OpenClaim.holds_of_wide 6 Try.f6 rfl rfl rfl rfl rfl rfl rfl ⟨rfl, rfl, rfl, rfl, rfl⟩ rfl rfl rfl rfl rfl (by kernel_rfl) Try.func6 (by kernel_rfl)
    (of_decide_eq_true (by kernel_rfl)) (by unfold Func.isWrapper; first | (rw [if_pos (by decide +kernel)]; kernel_rfl) | (rw [if_neg (by decide +kernel)]; exact ⟨rfl, rfl⟩))
    (fun os started H enc _ => lifted os started H enc)

theorem proved : Rows.DownloadFirstSaid :=
  over
#print axioms proved
end Go.Proofs.Ythpoefaipmcceaa.downloadFirst
