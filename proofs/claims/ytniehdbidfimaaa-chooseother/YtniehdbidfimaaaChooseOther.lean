/- Whatever the two texts: the law ChooseOther returns true (any text laid into the other slot leaves the active record, while no other record that is good has its number or a greater one), and the arguments read as they did; no condition. -/
import Derived.Test.YtniehdbidfimaaaRows
import Derived.Test.YtniehdbidfimaaaChoAwake
import Derived.Test.YtniehdbidfimaaaChoTurn
import Derived.Test.YtniehdbidfimaaaActRef
import Derived.BigQuiet
import Derived.Deep.Cut
import Derived.ChangeOld
import Derived.Below
import Derived.WalkKit
import Derived.ProofKit
import Derived.OpenShut
import Derived.ShutString
namespace Go.Proofs.Ytniehdbidfimaaa.chooseOther
open Go.ChangeShapes Go.WideShapes Go.ChangeAt Go.RowKit
open Go.ChangeMaps (open_string shut_string)
set_option linter.unusedVariables false

open Go.Proofs.Ytniehdbidfimaaa.Bytes
open Go.Proofs.Ytniehdbidfimaaa.Jou
open Go.Proofs.Ytniehdbidfimaaa.JouRow
open Go.Proofs.Ytniehdbidfimaaa.JouRef
open Go.Proofs.Ytniehdbidfimaaa.Act
open Go.Proofs.Ytniehdbidfimaaa.ActRef
open Go.Proofs.Ytniehdbidfimaaa.Cho
open Go.Proofs.Ytniehdbidfimaaa.ChoWalk
open Go.Proofs.Ytniehdbidfimaaa.ChoAwake
theorem own : ownKnob Try.prog.godebug = none := by kernel_rfl

theorem ways5 (p r : FPl) : (p.pa = r.pa ∧ p.pq = r.pq ∧ p.pt = r.pt ∧ p.pz = r.pz ∧ p.pm = r.pm) ∨ ¬ p.pa = r.pa ∨ (p.pa = r.pa ∧ ¬ p.pq = r.pq) ∨ (p.pa = r.pa ∧ p.pq = r.pq ∧ ¬ p.pt = r.pt) ∨ (p.pa = r.pa ∧ p.pq = r.pq ∧ p.pt = r.pt ∧ ¬ p.pz = r.pz) ∨ (p.pa = r.pa ∧ p.pq = r.pq ∧ p.pt = r.pt ∧ p.pz = r.pz ∧ ¬ p.pm = r.pm) := by omega
theorem same5 {p r : FPl} (h : p.pa = r.pa ∧ p.pq = r.pq ∧ p.pt = r.pt ∧ p.pz = r.pz ∧ p.pm = r.pm) : p = r := by
  cases p
  cases r
  obtain ⟨h1, h2, h3, h4, h5⟩ := h
  simp only at h1 h2 h3 h4 h5
  rw [h1, h2, h3, h4, h5]
set_option maxHeartbeats 4000000 in
theorem walk (a0 : ByteArray) (a1 : ByteArray) (w0 : a0.size ≤ maxLen) (w1 : a1.size ≤ maxLen) (w : World) :
    Calls Try.prog 6 #[.string a0, .string a1] w fun e w' => e = .returned (.bool true) ∧ Below w.heap.size w w' := by
  have hB : Below w.heap.size w w := Below.refl _ _
  have C1 := hide (fun w => active_any a0 w)
  have C3 := hide (fun w => other_any a0 w)
  rcases three a0 with ⟨_, _, hv, h1, ho, h3⟩ | ⟨_, _, hv, h1, ho, h3⟩ | ⟨h0, h2, h1, h4, h3⟩
  · rw [h1] at C1
    rw [h3] at C3
    clear h1 h3 hv ho
    generalize actV a0 = P at *
    generalize othI a0 = O at *
    go_enter Try.func6, Try.ntmps6
    go_wp2_with (first | (go_at_call 13; refine (awake_any _).mono ?_; rintro e w' ⟨rfl, hb⟩; replace hB := hB.trans (hb.mono hB.size); clear hb) | (go_at_call 8; refine (C1.out _).mono ?_; rintro e w' ⟨rfl, hb⟩; replace hB := hB.trans (hb.mono hB.size); clear hb) | (go_at_call 10; replace hB := hB.alloc hB.size (.cells #[.int .i64 P.pa, .int .i64 P.pq, .int .i64 P.pt, .int .i64 P.pz, .int .i64 P.pm] 25); refine (C3.out _).mono ?_; rintro e w2 ⟨rfl, hb⟩; replace hB := thenB hB hb; clear hb) | (go_at_call 12; refine (numJ_any _ _).mono ?_; rintro e w' ⟨rfl, rfl⟩))
    go_ret
    exact ⟨rfl, hB⟩
  · rw [h1] at C1
    rw [h3] at C3
    clear h1 h3 hv ho
    generalize actV a0 = P at *
    generalize othI a0 = O at *
    go_enter Try.func6, Try.ntmps6
    go_wp2_with (first | (go_at_call 13; refine (awake_any _).mono ?_; rintro e w' ⟨rfl, hb⟩; replace hB := hB.trans (hb.mono hB.size); clear hb) | (go_at_call 8; refine (C1.out _).mono ?_; rintro e w' ⟨rfl, hb⟩; replace hB := hB.trans (hb.mono hB.size); clear hb) | (go_at_call 10; replace hB := hB.alloc hB.size (.cells #[.int .i64 P.pa, .int .i64 P.pq, .int .i64 P.pt, .int .i64 P.pz, .int .i64 P.pm] 25); refine (C3.out _).mono ?_; rintro e w2 ⟨rfl, hb⟩; replace hB := thenB hB hb; clear hb) | (go_at_call 12; refine (numJ_any _ _).mono ?_; rintro e w' ⟨rfl, rfl⟩))
    go_ret
    exact ⟨rfl, hB⟩
  · rw [h1] at C1
    rw [h3] at C3
    by_cases hz : 288 < a1.size
    · have hz2 : (288 : Int) < (a1.size : Int) := by omega
      clear hz h0 h1 h2 h3 h4
      generalize actV a0 = P at *
      generalize othI a0 = O at *
      go_enter Try.func6, Try.ntmps6
      go_wp2_with (first | (go_at_call 13; refine (awake_any _).mono ?_; rintro e w' ⟨rfl, hb⟩; replace hB := hB.trans (hb.mono hB.size); clear hb) | (go_at_call 8; refine (C1.out _).mono ?_; rintro e w' ⟨rfl, hb⟩; replace hB := hB.trans (hb.mono hB.size); clear hb) | (go_at_call 10; replace hB := hB.alloc hB.size (.cells #[.int .i64 P.pa, .int .i64 P.pq, .int .i64 P.pt, .int .i64 P.pz, .int .i64 P.pm] 25); refine (C3.out _).mono ?_; rintro e w2 ⟨rfl, hb⟩; replace hB := thenB hB hb; clear hb) | (go_at_call 12; refine (numJ_any _ _).mono ?_; rintro e w' ⟨rfl, rfl⟩))
      go_ret
      exact ⟨rfl, hB⟩
    · have hs := act_slot h2
      have hf : a0.size = 768 := (act_rec h2).1
      obtain ⟨O, hO⟩ : ∃ O : Nat, O = (1 - (actV a0).pt).toNat := ⟨_, rfl⟩
      have hO1 : 1 - (actV a0).pt = (O : Int) := by omega
      have hO2 : O ≤ 1 := by omega
      obtain ⟨p, hp⟩ : ∃ p : Nat, p = 192 + 288 * O := ⟨_, rfl⟩
      have ht : Turned a0 (a0.extract 0 p ++ a1 ++ a0.extract (p + a1.size) a0.size) (actV a0) := turned_put hf hs (by rw [hp, hO]) (by omega)
      have HA : Hid ((∀ i (hi : i < (scanL (a0.extract 0 p ++ a1 ++ a0.extract (p + a1.size) a0.size)).length), goodP (a0.extract 0 p ++ a1 ++ a0.extract (p + a1.size) a0.size) (scanL (a0.extract 0 p ++ a1 ++ a0.extract (p + a1.size) a0.size))[i] = true → (scanL (a0.extract 0 p ++ a1 ++ a0.extract (p + a1.size) a0.size))[i] = actV a0 ∨ (scanL (a0.extract 0 p ++ a1 ++ a0.extract (p + a1.size) a0.size))[i].pq < (actV a0).pq) → actV (a0.extract 0 p ++ a1 ++ a0.extract (p + a1.size) a0.size) = actV a0) := fun hn => (act_may (turned_act h2 ht hn)).2.1
      have CQ := hide (fun w => active_any (a0.extract 0 p ++ a1 ++ a0.extract (p + a1.size) a0.size) w)
      have CS := hide (fun w => refScan_any (a0.extract 0 p ++ a1 ++ a0.extract (p + a1.size) a0.size) w)
      rw [turned_some h2 ht] at CQ
      rw [mayF_t ht.sx] at CS
      rw [h4, hO1] at C3
      have j0 : errJ true = 0 := rfl
      have HG := hide (fun (q : FPl) (w : World) => refGood_any (a0.extract 0 p ++ a1 ++ a0.extract (p + a1.size) a0.size) q.pq q.pt q.pz q.pm w)
      have hlen := scan_len (a0.extract 0 p ++ a1 ++ a0.extract (p + a1.size) a0.size)
      have z1 : a0.size ≤ 768 := by omega
      have z2 : 768 ≤ a0.size := by omega
      have z3 : a1.size ≤ 288 := by omega
      have z4 : p ≤ 480 := by omega
      have z7 : p ≤ a0.size := by omega
      have sx : (a0.extract 0 p).size = p := by rw [ByteArray.size_extract]; omega
      have HP : Hid (1 - (actV a0).pt = (O : Int) ∧ 0 ≤ (actV a0).pt ∧ (actV a0).pt ≤ 1) := ⟨hO1, by omega, by omega⟩
      clear hz hf hs h0 h1 h2 h3 h4 ht
      generalize actV a0 = P at *
      have hz2 : decide ((288 : Int) < (a1.size : Int)) = false := decide_eq_false (by omega)
      have m0 : bits .and .i64 0 1 = 0 := by decide
      have m1 : bits .and .i64 1 1 = 1 := by decide
      have q1 : ¬ 9223372036854775807 < (a0.extract 0 p).size + a1.size := by omega
      have q2 : ¬ 9223372036854775807 < (a0.extract 0 p ++ a1).size + (a0.extract (p + a1.size) a0.size).size := by rw [ByteArray.size_append, ByteArray.size_extract, ByteArray.size_extract]; omega
      obtain ⟨rfl, rfl⟩ | ⟨rfl, rfl⟩ : (O = 0 ∧ p = 192) ∨ (O = 1 ∧ p = 480) := by omega
      all_goals
        clear hO hO1 hO2 hp
        go_enter Try.func6, Try.ntmps6
        go_wp2_with (go_at_call 13; refine (awake_any _).mono ?_; rintro e w' ⟨rfl, hb⟩; replace hB := hB.trans (hb.mono hB.size); clear hb)
        refine (C1.out _).mono ?_; rintro e w1 ⟨rfl, hb⟩; replace hB := thenB hB hb; clear hb
        have hX := box5M w1 (.int .i64 P.pa) (.int .i64 P.pq) (.int .i64 P.pt) (.int .i64 P.pz) (.int .i64 P.pm) 25
        replace hB := hB.alloc hB.size (.cells #[.int .i64 P.pa, .int .i64 P.pq, .int .i64 P.pt, .int .i64 P.pz, .int .i64 P.pm] 25)
        go_wp2_with fail
        generalize w1.alloc (.cells #[.int .i64 P.pa, .int .i64 P.pq, .int .i64 P.pt, .int .i64 P.pz, .int .i64 P.pm] 25) = W1 at *
        generalize w1.heap.size = B1 at *
        refine (C3.out _).mono ?_; rintro e w2 ⟨rfl, hb⟩; replace hB := thenB hB hb; replace hX := box5B hX hb; clear hb
        go_upto_region 7 with (go_at_call 12; refine (numJ_any _ _).mono ?_; rintro e w' ⟨rfl, rfl⟩)
        go_upto_region 8 with fail
        have hal := (Below.refl w'.heap.size w').alloc (Nat.le_refl _) (.cells #[.int .i64 192, .int .i64 480] 3)
        replace hB := thenB hB hal
        replace hX := box5B hX hal
        clear hal
        generalize w'.alloc (.cells #[.int .i64 192, .int .i64 480] 3) = W2 at *
        go_quiet (fail)
        replace hB := bel_drewN hB nq
        have hX' : Box5 (W2.drewN nq) B1 (.int .i64 P.pa) (.int .i64 P.pq) (.int .i64 P.pt) (.int .i64 P.pz) (.int .i64 P.pm) := hX
        clear hX q1 q2 z1 z2 z3 z4 z7 sx hz2
        generalize W2.drewN nq = W3 at *
        generalize a0.extract 0 _ ++ a1 ++ a0.extract _ a0.size = X at *
        generalize scanL X = l at *
        generalize actV X = V at *
        go_wp2_with fail
        refine (CS.out _).mono ?_
        rintro e w5 ⟨v, rfl, hown, hb⟩
        replace hB := thenB hB hb; replace hX' := box5B hX' hb; clear hb
        obtain ⟨a, cap, rfl, hin⟩ := ownsP_is hown
        clear hown C1 C3 CS
        go_wp2
        go_loopw [13] (fun y wr => ∃ n : Nat, n ≤ l.length ∧ y = .int .i64 n ∧ Hid (∀ i (hi : i < l.length), i < n → goodP X l[i] = true → l[i] = P ∨ l[i].pq < P.pq) ∧ Below w5.heap.size w5 wr) (fun y _ => l.length - (intOf y).toNat)
        case atStart => exact ⟨0, Nat.zero_le _, rfl, fun i _ h => by omega, Below.refl _ _⟩
        case round =>
          obtain ⟨n, hn, rfl, HI, hbel⟩ := hrel
          by_cases hlt : n < l.length
          · rcases hin with hin | ⟨g, rfl, hg, hin⟩
            · rw [hin] at hlt; simp at hlt
            have hin1 := hin.below hbel hg
            have hg1 : g < wr.heap.size := Nat.lt_of_lt_of_le hg hbel.size
            have c1 := hin1.pq n hlt
            have c2 := hin1.pt n hlt
            have c3 := hin1.pz n hlt
            have c4 := hin1.pm n hlt
            have HIn := hide hin1
            have HX := hide (box5B hX' hbel)
            have HG1 := hide (HG.out l[n])
            clear hin hin1 hX'
            have HI2 : Hid ((goodP X l[n] = true → l[n] = P ∨ l[n].pq < P.pq) → (∀ i (hi : i < l.length), i < n + 1 → goodP X l[i] = true → l[i] = P ∨ l[i].pq < P.pq)) := fun h i hi h1 => by
              by_cases e : i = n
              · subst e; exact h
              · exact HI.out i hi (by omega)
            clear HI
            cases hgd : goodP X l[n] with
            | false =>
              have HI3 := hide (HI2.out (fun h => by rw [hgd] at h; cases h))
              rw [show goodB X l[n].pq l[n].pt l[n].pz l[n].pm = false from hgd] at HG1
              clear hgd HI2
              go_wp2_with (go_at_call 15; refine (HG1.out _).mono ?_; rintro e w6 ⟨rfl, hb⟩)
              go_quiet (fail)
              go_wp2
              exact ⟨⟨n + 1, by omega, by go_num, HI3, bel_drewN (thenB hbel hb) _⟩, by simp [intOf]; omega⟩
            | true =>
              rw [show goodB X l[n].pq l[n].pt l[n].pz l[n].pm = true from hgd] at HG1
              clear hgd
              go_wp2_with (go_at_call 15; refine (HG1.out _).mono ?_; rintro e w6 ⟨rfl, hb⟩)
              have hb' := thenB hbel hb
              have hin4 := HIn.out.below hb hg1
              have d0 := hin4.pa n hlt
              have d1 := hin4.pq n hlt
              have d2 := hin4.pt n hlt
              have d3 := hin4.pz n hlt
              have d4 := hin4.pm n hlt
              have hX4 := box5B HX.out hb
              unfold Box5 at hX4
              clear hin4 c1 c2 c3 c4 hbel hb
              have hBe := thenB hB hb'
              rcases ways5 l[n] P with g0 | g0 | ⟨g0, g1⟩ | ⟨g0, g1, g2⟩ | ⟨g0, g1, g2, g3⟩ | ⟨g0, g1, g2, g3, g4⟩
              · have HI3 := hide (HI2.out (fun _ => .inl (same5 g0)))
                obtain ⟨g0, g1, g2, g3, g4⟩ := g0
                rw [g0] at d0; rw [g1] at d1; rw [g2] at d2; rw [g3] at d3; rw [g4] at d4
                clear g0 g1 g2 g3 g4 HI2
                go_quiet (fail)
                go_wp2
                exact ⟨⟨n + 1, by omega, by go_num, HI3, bel_drewN hb' _⟩, by simp [intOf]; omega⟩
              · by_cases hq : P.pq ≤ l[n].pq
                · go_quiet (fail)
                  go_wp2
                  go_ret
                  exact ⟨rfl, bel_drewN hBe _⟩
                · have HI3 := hide (HI2.out (fun _ => .inr (by omega)))
                  clear HI2
                  go_quiet (fail)
                  go_wp2
                  exact ⟨⟨n + 1, by omega, by go_num, HI3, bel_drewN hb' _⟩, by simp [intOf]; omega⟩
              · rw [g0] at d0
                clear g0
                by_cases hq : P.pq ≤ l[n].pq
                · go_quiet (fail)
                  go_wp2
                  go_ret
                  exact ⟨rfl, bel_drewN hBe _⟩
                · have HI3 := hide (HI2.out (fun _ => .inr (by omega)))
                  clear HI2
                  go_quiet (fail)
                  go_wp2
                  exact ⟨⟨n + 1, by omega, by go_num, HI3, bel_drewN hb' _⟩, by simp [intOf]; omega⟩
              · rw [g0] at d0; rw [g1] at d1
                clear g0 g1
                go_quiet (fail)
                go_wp2
                go_ret
                exact ⟨rfl, bel_drewN hBe _⟩
              · rw [g0] at d0; rw [g1] at d1; rw [g2] at d2
                clear g0 g1 g2
                go_quiet (fail)
                go_wp2
                go_ret
                exact ⟨rfl, bel_drewN hBe _⟩
              · rw [g0] at d0; rw [g1] at d1; rw [g2] at d2; rw [g3] at d3
                clear g0 g1 g2 g3
                go_quiet (fail)
                go_wp2
                go_ret
                exact ⟨rfl, bel_drewN hBe _⟩
          · have hV : V = P := HA.out fun i hi => HI.out i hi (by omega)
            subst hV
            replace hB := thenB hB hbel
            replace hX' := box5B hX' hbel
            clear hin hbel HI HA
            go_wp2_with fail
            refine (CQ.out _).mono ?_; rintro e w7 ⟨rfl, hb⟩; replace hB := thenB hB hb; replace hX' := box5B hX' hb; clear hb
            have hal := (Below.refl w7.heap.size w7).alloc (Nat.le_refl _) (.cells #[.int .i64 V.pa, .int .i64 V.pq, .int .i64 V.pt, .int .i64 V.pz, .int .i64 V.pm] 25)
            have hY := box5M w7 (.int .i64 V.pa) (.int .i64 V.pq) (.int .i64 V.pt) (.int .i64 V.pz) (.int .i64 V.pm) 25
            replace hB := thenB hB hal
            replace hX' := box5B hX' hal
            clear hal
            go_upto_region 17 with fail
            generalize w7.alloc (.cells #[.int .i64 V.pa, .int .i64 V.pq, .int .i64 V.pt, .int .i64 V.pz, .int .i64 V.pm] 25) = W7 at *
            generalize w7.heap.size = B7 at *
            unfold Box5 at hX' hY
            obtain ⟨hP0, hP1, hP2⟩ := HP.out
            go_wp2_with (go_at_call 12; refine (numJ_any _ _).mono ?_; rintro e w' ⟨rfl, rfl⟩)
            go_ret
            exact ⟨rfl, hB⟩

set_option maxRecDepth 100000 in
theorem lifted (os : Os) (started : os.Started) (H : Type) (enc : TypeId × Value → H) :
    ReturnsInHanded {} Try.checked os 6 .any (Rows.chooseOtherSpec.pre6 enc Try.prog Try.f6 Rows.chooseOtherRow.domain false) (Rows.chooseOtherSpec.post enc Try.prog Try.f6 false true false false) := by
  refine returnsInHanded_of_change (C := Try.checked) own started (by kernel_rfl) Try.func6
    (ChangeSpec.witness6 (enc := enc) (C := Try.checked) false ⟨#[], #[.string ByteArray.empty, .string ByteArray.empty], []⟩ 8 (by kernel_rfl) (by kernel_rfl) (by kernel_rfl) (by kernel_rfl)) ?_
  intro W base args ds gs before hval0 hW hcnd _
  have hval : ∀ (j : Nat) t v, Try.f6.params[j]? = some t → args[j]? = some v → Value.okWide Try.prog W .any base t v := hval0
  have hW' := hW
  obtain ⟨p, q, hA0, hV, rfl, hfz, hnd⟩ := hW
  have hA : DataW.TrodAll enc Try.prog W 0 (fun _ => true) true Try.f6.params.toList args.toList ds p := hA0
  rw [Try.params6] at hA hval
  obtain ⟨v0, vs0, d0, ds0, p0, q0, hargs, rfl, rfl, h0, r0⟩ := trodAll_cons hA
  obtain ⟨v1, vs1, d1, ds1, p1, q1, rfl, rfl, rfl, h1, r1⟩ := trodAll_cons r0
  obtain ⟨rfl, rfl, rfl⟩ := trodAll_nil r1
  obtain rfl : args = #[v0, v1] := by cases args; simp_all
  obtain ⟨rfl, rfl⟩ := trodVars_none hV
  obtain ⟨a0, rfl, rfl, rfl, w0⟩ := open_string Try.underlying9 (hval 0 9 v0 rfl rfl) h0
  obtain ⟨a1, rfl, rfl, rfl, w1⟩ := open_string Try.underlying9 (hval 1 9 v1 rfl rfl) h1
  clear hA0 hval0
  refine (walk a0 a1 w0 w1 W).mono fun e W' ⟨he, bel⟩ => ?_
  subst he
  exact ⟨_, rfl, _, _, _, [], _, [], hW', (trodAll_cons_mk (shut_bool Try.underlying4 _) trodAll_mk0), (trodAll_cons_mk (shut_string Try.underlying9 w0) (trodAll_cons_mk (shut_string Try.underlying9 w1) trodAll_mk0)), rfl, bel.frame _, fun h => by cases h⟩

theorem over : Rows.chooseOtherRow.holds Try.pinned (OpenSpec.ofChange Rows.chooseOtherSpec) :=
  OpenClaim.holds_of_wide 6 Try.f6 rfl rfl rfl rfl rfl rfl rfl ⟨rfl, rfl, rfl, rfl, rfl⟩ rfl rfl rfl rfl rfl (by kernel_rfl) Try.func6 (by kernel_rfl)
    (of_decide_eq_true (by kernel_rfl)) (by unfold Func.isWrapper; first | (rw [if_pos (by decide +kernel)]; kernel_rfl) | (rw [if_neg (by decide +kernel)]; exact ⟨rfl, rfl⟩))
    (fun os started H enc _ => lifted os started H enc)

theorem proved : Rows.ChooseOtherSaid :=
  over
#print axioms proved
end Go.Proofs.Ytniehdbidfimaaa.chooseOther
