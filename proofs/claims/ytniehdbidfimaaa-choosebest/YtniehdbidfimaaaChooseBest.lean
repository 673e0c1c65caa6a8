/- Whatever the text: the law ChooseBest returns true (the active record is good, stands in the journal, and none that is good has a greater number; where none is good none is active), and the argument reads as it did; no condition. -/
import Derived.Test.YtniehdbidfimaaaRows
import Derived.Test.YtniehdbidfimaaaChoAwake
import Derived.Test.YtniehdbidfimaaaActRef
import Derived.BigQuiet
import Derived.ChangeOld
import Derived.Below
import Derived.WalkKit
import Derived.ProofKit
import Derived.OpenShut
import Derived.ShutString
namespace Go.Proofs.Ytniehdbidfimaaa.chooseBest
open Go.ChangeShapes Go.WideShapes Go.ChangeAt Go.RowKit
open Go.ChangeMaps (open_string shut_string)
set_option linter.unusedVariables false

open Go.Proofs.Ytniehdbidfimaaa.Bytes
open Go.Proofs.Ytniehdbidfimaaa.Jou
open Go.Proofs.Ytniehdbidfimaaa.JouRow
open Go.Proofs.Ytniehdbidfimaaa.JouRef
open Go.Proofs.Ytniehdbidfimaaa.Act
open Go.Proofs.Ytniehdbidfimaaa.ActRef
open Go.Proofs.Ytniehdbidfimaaa.Cho
open Go.Proofs.Ytniehdbidfimaaa.ChoWalk
open Go.Proofs.Ytniehdbidfimaaa.ChoAwake
theorem own : ownKnob Try.prog.godebug = none := by kernel_rfl

theorem ways5 (p r : FPl) : (p.pa = r.pa ∧ p.pq = r.pq ∧ p.pt = r.pt ∧ p.pz = r.pz ∧ p.pm = r.pm) ∨ ¬ p.pa = r.pa ∨ (p.pa = r.pa ∧ ¬ p.pq = r.pq) ∨ (p.pa = r.pa ∧ p.pq = r.pq ∧ ¬ p.pt = r.pt) ∨ (p.pa = r.pa ∧ p.pq = r.pq ∧ p.pt = r.pt ∧ ¬ p.pz = r.pz) ∨ (p.pa = r.pa ∧ p.pq = r.pq ∧ p.pt = r.pt ∧ p.pz = r.pz ∧ ¬ p.pm = r.pm) := by omega
set_option maxHeartbeats 4000000 in
theorem walk (a0 : ByteArray) (w0 : a0.size ≤ maxLen) (w : World) :
    Calls Try.prog 4 #[.string a0] w fun e w' => e = .returned (.bool true) ∧ Below w.heap.size w w' := by
  have hB : Below w.heap.size w w := Below.refl _ _
  have C1 := hide (fun w => active_any a0 w)
  have b1 := build_p0
  rcases three a0 with ⟨h0, _, hv, h1, _⟩ | ⟨h0, h2, hv, h1, _⟩ | ⟨h0, h2, h1, _⟩
  · have C2 := hide (fun w => refScan_no a0 w h0)
    rw [h1, hv] at C1
    have C1 : Hid (∀ w, Calls Try.prog 8 #[.string a0] w fun e w' => e = .returned (.tuple #[.agg #[.int .i64 0, .int .i64 0, .int .i64 0, .int .i64 0, .int .i64 0], .int .i64 700]) ∧ Below w.heap.size w w') := C1
    clear h0 hv h1
    go_enter Try.func4, Try.ntmps4
    go_wp2_with (first | (go_at_call 13; refine (awake_any _).mono ?_; rintro e w' ⟨rfl, hb⟩; replace hB := hB.trans (hb.mono hB.size); clear hb) | (go_at_call 8; refine (C1.out _).mono ?_; rintro e w' ⟨rfl, hb⟩; replace hB := hB.trans (hb.mono hB.size); clear hb) | (go_at_call 14; refine (C2.out _).mono ?_; rintro e w' ⟨rfl, rfl⟩) | (go_at_call 12; refine (numJ_any _ _).mono ?_; rintro e w' ⟨rfl, rfl⟩))
    go_ret
    exact ⟨rfl, hB.alloc hB.size _⟩
  · have C2 := hide (fun w => refScan_any a0 w)
    have HG := hide (fun (p : FPl) (w : World) => refGood_any a0 p.pq p.pt p.pz p.pm w)
    have HN : Hid (∀ i (hi : i < (scanL a0).length), goodP a0 (scanL a0)[i] = false) := fun i hi => act_bad h2 hi
    have hlen := scan_len a0
    have j0 : errJ true = 0 := rfl
    rw [h1] at C1
    rw [h0] at C2
    clear h0 h2 hv h1
    generalize scanL a0 = l at *
    generalize actV a0 = P at *
    go_enter Try.func4, Try.ntmps4
    go_wp2_with (first | (go_at_call 13; refine (awake_any _).mono ?_; rintro e w' ⟨rfl, hb⟩; replace hB := hB.trans (hb.mono hB.size); clear hb) | (go_at_call 8; refine (C1.out _).mono ?_; rintro e w' ⟨rfl, hb⟩; replace hB := hB.trans (hb.mono hB.size); clear hb))
    replace hB := hB.alloc hB.size (.cells #[.int .i64 P.pa, .int .i64 P.pq, .int .i64 P.pt, .int .i64 P.pz, .int .i64 P.pm] 25)
    refine (C2.out _).mono ?_
    rintro e w3 ⟨v, rfl, hown, hb⟩
    replace hB := thenB hB hb; clear hb
    obtain ⟨a, cap, rfl, hin⟩ := ownsP_is hown
    clear hown C1 C2
    go_wp2
    go_loopw [7, 8] (fun x y wr => ∃ n : Nat, n ≤ l.length ∧ x = .bool false ∧ y = .int .i64 n ∧ Below w3.heap.size w3 wr) (fun _ y _ => l.length - (intOf y).toNat)
    case atStart => exact ⟨0, Nat.zero_le _, rfl, rfl, Below.refl _ _⟩
    case round =>
      obtain ⟨n, hn, rfl, rfl, hbel⟩ := hrel
      by_cases hlt : n < l.length
      · rcases hin with hin | ⟨g, rfl, hg, hin⟩
        · rw [hin] at hlt; simp at hlt
        have hin1 := hin.below hbel hg
        have c1 := hin1.pq n hlt
        have c2 := hin1.pt n hlt
        have c3 := hin1.pz n hlt
        have c4 := hin1.pm n hlt
        have HG1 := hide (HG.out l[n])
        rw [show goodB a0 l[n].pq l[n].pt l[n].pz l[n].pm = false from HN.out n hlt] at HG1
        clear hin hin1
        go_wp2_with (go_at_call 15; refine (HG1.out _).mono ?_; rintro e w4 ⟨rfl, hb⟩)
        exact ⟨⟨n + 1, by omega, rfl, by go_num, thenB hbel hb⟩, by simp [intOf]; omega⟩
      · replace hB := thenB hB hbel
        go_wp2_with (go_at_call 12; refine (numJ_any _ _).mono ?_; rintro e w' ⟨rfl, rfl⟩)
        go_ret
        exact ⟨rfl, hB⟩
  · obtain ⟨k, hk, ek, _, _, hbest⟩ := act_best h2
    have C2 := hide (fun w => refScan_any a0 w)
    have HG := hide (fun (p : FPl) (w : World) => refGood_any a0 p.pq p.pt p.pz p.pm w)
    have HN : Hid (∀ i (hi : i < (scanL a0).length), goodP a0 (scanL a0)[i] = true → (scanL a0)[i].pq ≤ (actV a0).pq) := fun i hi gi => by have := hbest i hi gi; omega
    have HK : Hid (∀ (hk : k < (scanL a0).length), (scanL a0)[k] = actV a0) := fun _ => ek
    have HL : Hid (k < (scanL a0).length) := hk
    have HGk : Hid (goodP a0 (actV a0) = true) := (act_best h2).choose_spec.choose_spec.2.2.1
    have hlen := scan_len a0
    have j0 : errJ true = 0 := rfl
    rw [h1] at C1
    rw [h0] at C2
    clear h0 h2 h1 hbest ek hk
    generalize scanL a0 = l at *
    generalize actV a0 = P at *
    go_enter Try.func4, Try.ntmps4
    go_wp2_with (first | (go_at_call 13; refine (awake_any _).mono ?_; rintro e w' ⟨rfl, hb⟩; replace hB := hB.trans (hb.mono hB.size); clear hb) | (go_at_call 8; refine (C1.out _).mono ?_; rintro e w1 ⟨rfl, hb⟩))
    replace hB := thenB hB hb; clear hb
    have hX := box5M w1 (.int .i64 P.pa) (.int .i64 P.pq) (.int .i64 P.pt) (.int .i64 P.pz) (.int .i64 P.pm) 25
    replace hB := hB.alloc hB.size (.cells #[.int .i64 P.pa, .int .i64 P.pq, .int .i64 P.pt, .int .i64 P.pz, .int .i64 P.pm] 25)
    generalize w1.alloc (.cells #[.int .i64 P.pa, .int .i64 P.pq, .int .i64 P.pt, .int .i64 P.pz, .int .i64 P.pm] 25) = W1 at *
    generalize w1.heap.size = B1 at *
    refine (C2.out _).mono ?_
    rintro e w3 ⟨v, rfl, hown, hb⟩
    replace hB := thenB hB hb; replace hX := box5B hX hb; clear hb
    obtain ⟨a, cap, rfl, hin⟩ := ownsP_is hown
    clear hown C1 C2
    go_wp2
    go_loopw [7, 8] (fun x y wr => ∃ (b : Bool) (n : Nat), n ≤ l.length ∧ x = .bool b ∧ y = .int .i64 n ∧ Hid (k < n → b = true) ∧ Below w3.heap.size w3 wr) (fun _ y _ => l.length - (intOf y).toNat)
    case atStart => exact ⟨false, 0, Nat.zero_le _, rfl, rfl, fun h => by omega, Below.refl _ _⟩
    case round =>
      obtain ⟨b, n, hn, rfl, rfl, HI, hbel⟩ := hrel
      by_cases hlt : n < l.length
      · rcases hin with hin | ⟨g, rfl, hg, hin⟩
        · rw [hin] at hlt; simp at hlt
        have hin1 := hin.below hbel hg
        have hg1 : g < wr.heap.size := Nat.lt_of_lt_of_le hg hbel.size
        have c1 := hin1.pq n hlt
        have c2 := hin1.pt n hlt
        have c3 := hin1.pz n hlt
        have c4 := hin1.pm n hlt
        have HIn := hide hin1
        have HX := hide (box5B hX hbel)
        have HG1 := hide (HG.out l[n])
        clear hin hin1
        cases hgd : goodP a0 l[n] with
        | false =>
          have HI2 : Hid (k < n + 1 → b = true) := fun h => by
            by_cases e : k = n
            · subst e
              have := HK.out hlt
              rw [this, HGk.out] at hgd
              cases hgd
            · exact HI.out (by omega)
          rw [show goodB a0 l[n].pq l[n].pt l[n].pz l[n].pm = false from hgd] at HG1
          clear hgd HI
          go_wp2_with (go_at_call 15; refine (HG1.out _).mono ?_; rintro e w4 ⟨rfl, hb⟩)
          exact ⟨⟨b, n + 1, by omega, rfl, by go_num, HI2, thenB hbel hb⟩, by simp [intOf]; omega⟩
        | true =>
          have hq : l[n].pq ≤ P.pq := HN.out n hlt hgd
          rw [show goodB a0 l[n].pq l[n].pt l[n].pz l[n].pm = true from hgd] at HG1
          clear hgd
          go_wp2_with (go_at_call 15; refine (HG1.out _).mono ?_; rintro e w4 ⟨rfl, hb⟩)
          have hb' := thenB hbel hb
          have hin4 := HIn.out.below hb hg1
          have d0 := hin4.pa n hlt
          have d1 := hin4.pq n hlt
          have d2 := hin4.pt n hlt
          have d3 := hin4.pz n hlt
          have d4 := hin4.pm n hlt
          have hX4 := box5B HX.out hb
          unfold Box5 at hX4
          clear hin4 c1 c2 c3 c4 hbel hb hX
          cases b with
          | true =>
            clear HI
            generalize l[n].pa = A at *
            generalize l[n].pq = Q at *
            generalize l[n].pt = T at *
            generalize l[n].pz = Z at *
            generalize l[n].pm = M at *
            go_quiet ((go_at_call 12; exact Calls.quiet_of_same (numJ_any _ _)))
            go_wp2
            go_quiet (fail)
            go_wp2
            exact ⟨⟨true, n + 1, by omega, rfl, by go_num, fun _ => rfl, bel_drewN hb' _⟩, by simp [intOf]; omega⟩
          | false =>
            have HE : Hid (¬ l[n] = P → (k < n + 1 → false = true)) := fun hne h => by
              by_cases e : k = n
              · subst e
                exact absurd (HK.out hlt) hne
              · exact HI.out (by omega)
            have HF : Hid (∀ p r : FPl, ¬ p.pa = r.pa ∨ ¬ p.pq = r.pq ∨ ¬ p.pt = r.pt ∨ ¬ p.pz = r.pz ∨ ¬ p.pm = r.pm → ¬ p = r) := fun p r h e => by subst e; omega
            clear HI
            have hw := ways5 l[n] P
            rcases hw with ⟨g0, g1, g2, g3, g4⟩ | g0 | ⟨g0, g1⟩ | ⟨g0, g1, g2⟩ | ⟨g0, g1, g2, g3⟩ | ⟨g0, g1, g2, g3, g4⟩
            · rw [g0] at d0; rw [g1] at d1 hq; rw [g2] at d2; rw [g3] at d3; rw [g4] at d4
              clear g0 g1 g2 g3 g4
              go_quiet ((go_at_call 12; exact Calls.quiet_of_same (numJ_any _ _)))
              go_wp2
              go_quiet (fail)
              go_wp2
              exact ⟨⟨true, n + 1, by omega, rfl, by go_num, fun _ => rfl, bel_drewN hb' _⟩, by simp [intOf]; omega⟩
            · have HI2 := hide (HE.out (HF.out _ _ (.inl g0)))
              go_quiet ((go_at_call 12; exact Calls.quiet_of_same (numJ_any _ _)))
              go_wp2
              go_quiet (fail)
              go_wp2
              exact ⟨⟨false, n + 1, by omega, rfl, by go_num, HI2, bel_drewN hb' _⟩, by simp [intOf]; omega⟩
            · have HI2 := hide (HE.out (HF.out _ _ (.inr (.inl g1))))
              rw [g0] at d0
              clear g0
              go_quiet ((go_at_call 12; exact Calls.quiet_of_same (numJ_any _ _)))
              go_wp2
              go_quiet (fail)
              go_wp2
              exact ⟨⟨false, n + 1, by omega, rfl, by go_num, HI2, bel_drewN hb' _⟩, by simp [intOf]; omega⟩
            · have HI2 := hide (HE.out (HF.out _ _ (.inr (.inr (.inl g2)))))
              rw [g0] at d0; rw [g1] at d1 hq
              clear g0 g1
              go_quiet ((go_at_call 12; exact Calls.quiet_of_same (numJ_any _ _)))
              go_wp2
              go_quiet (fail)
              go_wp2
              exact ⟨⟨false, n + 1, by omega, rfl, by go_num, HI2, bel_drewN hb' _⟩, by simp [intOf]; omega⟩
            · have HI2 := hide (HE.out (HF.out _ _ (.inr (.inr (.inr (.inl g3))))))
              rw [g0] at d0; rw [g1] at d1 hq; rw [g2] at d2
              clear g0 g1 g2
              go_quiet ((go_at_call 12; exact Calls.quiet_of_same (numJ_any _ _)))
              go_wp2
              go_quiet (fail)
              go_wp2
              exact ⟨⟨false, n + 1, by omega, rfl, by go_num, HI2, bel_drewN hb' _⟩, by simp [intOf]; omega⟩
            · have HI2 := hide (HE.out (HF.out _ _ (.inr (.inr (.inr (.inr g4))))))
              rw [g0] at d0; rw [g1] at d1 hq; rw [g2] at d2; rw [g3] at d3
              clear g0 g1 g2 g3
              go_quiet ((go_at_call 12; exact Calls.quiet_of_same (numJ_any _ _)))
              go_wp2
              go_quiet (fail)
              go_wp2
              exact ⟨⟨false, n + 1, by omega, rfl, by go_num, HI2, bel_drewN hb' _⟩, by simp [intOf]; omega⟩
      · have hbt : b = true := HI.out (by have := HL.out; omega)
        subst hbt
        replace hB := thenB hB hbel
        clear hin hX hbel
        go_wp2_with (go_at_call 12; refine (numJ_any _ _).mono ?_; rintro e w' ⟨rfl, rfl⟩)
        go_ret
        exact ⟨rfl, hB⟩

set_option maxRecDepth 100000 in
theorem lifted (os : Os) (started : os.Started) (H : Type) (enc : TypeId × Value → H) :
    ReturnsInHanded {} Try.checked os 4 .any (Rows.chooseBestSpec.pre6 enc Try.prog Try.f4 Rows.chooseBestRow.domain false) (Rows.chooseBestSpec.post enc Try.prog Try.f4 false true false false) := by
  refine returnsInHanded_of_change (C := Try.checked) own started (by kernel_rfl) Try.func4
    (ChangeSpec.witness6 (enc := enc) (C := Try.checked) false ⟨#[], #[.string ByteArray.empty], []⟩ 8 (by kernel_rfl) (by kernel_rfl) (by kernel_rfl) (by kernel_rfl)) ?_
  intro W base args ds gs before hval0 hW hcnd _
  have hval : ∀ (j : Nat) t v, Try.f4.params[j]? = some t → args[j]? = some v → Value.okWide Try.prog W .any base t v := hval0
  have hW' := hW
  obtain ⟨p, q, hA0, hV, rfl, hfz, hnd⟩ := hW
  have hA : DataW.TrodAll enc Try.prog W 0 (fun _ => true) true Try.f4.params.toList args.toList ds p := hA0
  rw [Try.params4] at hA hval
  obtain ⟨v0, vs0, d0, ds0, p0, q0, hargs, rfl, rfl, h0, r0⟩ := trodAll_cons hA
  obtain ⟨rfl, rfl, rfl⟩ := trodAll_nil r0
  obtain rfl : args = #[v0] := by cases args; simp_all
  obtain ⟨rfl, rfl⟩ := trodVars_none hV
  obtain ⟨a0, rfl, rfl, rfl, w0⟩ := open_string Try.underlying9 (hval 0 9 v0 rfl rfl) h0
  clear hA0 hval0
  refine (walk a0 w0 W).mono fun e W' ⟨he, bel⟩ => ?_
  subst he
  exact ⟨_, rfl, _, _, _, [], _, [], hW', (trodAll_cons_mk (shut_bool Try.underlying4 _) trodAll_mk0), (trodAll_cons_mk (shut_string Try.underlying9 w0) trodAll_mk0), rfl, bel.frame _, fun h => by cases h⟩

theorem over : Rows.chooseBestRow.holds Try.pinned (OpenSpec.ofChange Rows.chooseBestSpec) :=
  OpenClaim.holds_of_wide 4 Try.f4 rfl rfl rfl rfl rfl rfl rfl ⟨rfl, rfl, rfl, rfl, rfl⟩ rfl rfl rfl rfl rfl (by kernel_rfl) Try.func4 (by kernel_rfl)
    (of_decide_eq_true (by kernel_rfl)) (by unfold Func.isWrapper; first | (rw [if_pos (by decide +kernel)]; kernel_rfl) | (rw [if_neg (by decide +kernel)]; exact ⟨rfl, rfl⟩))
    (fun os started H enc _ => lifted os started H enc)

theorem proved : Rows.ChooseBestSaid :=
  over
#print axioms proved
end Go.Proofs.Ytniehdbidfimaaa.chooseBest
