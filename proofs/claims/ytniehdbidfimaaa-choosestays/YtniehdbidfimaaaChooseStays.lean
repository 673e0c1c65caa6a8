/- Whatever the flash, the numbers and the word: the law ChooseStays returns true (a word of the other slot programmed, or cut, leaves the active record, while none of that slot is good), and the arguments read as they did; no condition. -/
import Derived.Test.YtniehdbidfimaaaRows
import Derived.Test.YtniehdbidfimaaaChoAwake
import Derived.Test.YtniehdbidfimaaaChoTurn
import Derived.Test.YtniehdbidfimaaaActRef
import Derived.BigQuiet
import Derived.Deep.Cut
import Derived.ChangeOld
import Derived.Below
import Derived.WalkKit
import Derived.ProofKit
import Derived.OpenShut
import Derived.ShutString
namespace Go.Proofs.Ytniehdbidfimaaa.chooseStays
open Go.ChangeShapes Go.WideShapes Go.ChangeAt Go.RowKit
open Go.ChangeMaps (open_string shut_string)
set_option linter.unusedVariables false

open Go.Proofs.Ytniehdbidfimaaa.Bytes
open Go.Proofs.Ytniehdbidfimaaa.NorRef
open Go.Proofs.Ytniehdbidfimaaa.Jou
open Go.Proofs.Ytniehdbidfimaaa.JouRow
open Go.Proofs.Ytniehdbidfimaaa.JouRef
open Go.Proofs.Ytniehdbidfimaaa.Act
open Go.Proofs.Ytniehdbidfimaaa.ActRef
open Go.Proofs.Ytniehdbidfimaaa.Held
open Go.Proofs.Ytniehdbidfimaaa.HeldCalls
open Go.Proofs.Ytniehdbidfimaaa.Cho
open Go.Proofs.Ytniehdbidfimaaa.ChoWalk
open Go.Proofs.Ytniehdbidfimaaa.ChoAwake
theorem own : ownKnob Try.prog.godebug = none := by kernel_rfl

theorem base_oth {f : ByteArray} {p : FPl} (hs : p.pt = 0 ∨ p.pt = 1) (h : othI f = 1 - p.pt) (w : World) : Calls Try.prog 19 #[.int .i64 (othI f)] w fun e w' => e = .returned (.tuple #[.int .i64 (192 + 288 * (1 - p.pt)), .int .i64 0]) ∧ w' = w := by
  have g := refBase_any (othI f) w
  have h1 : baseOk (othI f) = true := baseOk_parts.2 ⟨by omega, by omega⟩
  have h2 : baseI (othI f) = 192 + 288 * (1 - p.pt) := by unfold baseI; rw [if_pos h1, h]
  rw [h1, h2] at g
  exact g
set_option maxHeartbeats 4000000 in
theorem walk (a0 : ByteArray) (a1 : Int) (a2 : ByteArray) (a3 : Int) (w0 : a0.size ≤ maxLen) (w1 : (Lit.int .i64 a1).wf = true) (w2 : a2.size ≤ maxLen) (w3 : (Lit.int .i64 a3).wf = true) (w : World) :
    Calls Try.prog 7 #[.string a0, .int .i64 a1, .string a2, .int .i64 a3] w fun e w' => e = .returned (.bool true) ∧ Below w.heap.size w w' := by
  have hB : Below w.heap.size w w := Below.refl _ _
  have C1 := hide (fun w => active_any a0 w)
  have C3 := hide (fun w => other_any a0 w)
  rcases three a0 with ⟨_, _, hv, h1, ho, h3⟩ | ⟨_, _, hv, h1, ho, h3⟩ | ⟨h0, h2, h1, h4, h3⟩
  · rw [h1] at C1
    rw [h3] at C3
    clear h1 h3 hv ho
    generalize actV a0 = P at *
    generalize othI a0 = O at *
    go_enter Try.func7, Try.ntmps7
    go_wp2_with (first | (go_at_call 13; refine (awake_any _).mono ?_; rintro e w' ⟨rfl, hb⟩; replace hB := hB.trans (hb.mono hB.size); clear hb) | (go_at_call 8; refine (C1.out _).mono ?_; rintro e w' ⟨rfl, hb⟩; replace hB := hB.trans (hb.mono hB.size); clear hb) | (go_at_call 10; replace hB := hB.alloc hB.size (.cells #[.int .i64 P.pa, .int .i64 P.pq, .int .i64 P.pt, .int .i64 P.pz, .int .i64 P.pm] 25); refine (C3.out _).mono ?_; rintro e w2 ⟨rfl, hb⟩; replace hB := thenB hB hb; clear hb) | (go_at_call 12; refine (numJ_any _ _).mono ?_; rintro e w' ⟨rfl, rfl⟩))
    go_ret
    exact ⟨rfl, hB⟩
  · rw [h1] at C1
    rw [h3] at C3
    clear h1 h3 hv ho
    generalize actV a0 = P at *
    generalize othI a0 = O at *
    go_enter Try.func7, Try.ntmps7
    go_wp2_with (first | (go_at_call 13; refine (awake_any _).mono ?_; rintro e w' ⟨rfl, hb⟩; replace hB := hB.trans (hb.mono hB.size); clear hb) | (go_at_call 8; refine (C1.out _).mono ?_; rintro e w' ⟨rfl, hb⟩; replace hB := hB.trans (hb.mono hB.size); clear hb) | (go_at_call 10; replace hB := hB.alloc hB.size (.cells #[.int .i64 P.pa, .int .i64 P.pq, .int .i64 P.pt, .int .i64 P.pz, .int .i64 P.pm] 25); refine (C3.out _).mono ?_; rintro e w2 ⟨rfl, hb⟩; replace hB := thenB hB hb; clear hb) | (go_at_call 12; refine (numJ_any _ _).mono ?_; rintro e w' ⟨rfl, rfl⟩))
    go_ret
    exact ⟨rfl, hB⟩
  · have hs := act_slot h2
    obtain ⟨c, hc, mc⟩ : ∃ k : Nat, k < 72 ∧ wrap64 ((IntKind.u64.wrap a1).tmod 72) = (k : Int) := mod_u64 a1 72 (by omega) (by omega)
    obtain ⟨d, hd, md⟩ : ∃ k : Nat, k < 33 ∧ wrap64 ((IntKind.u64.wrap a3).tmod 33) = (k : Int) := mod_u64 a3 33 (by omega) (by omega)
    have CB := hide (fun w => base_oth hs h4 w)
    obtain ⟨p, hp⟩ : ∃ p : Int, p = 192 + 288 * (1 - (actV a0).pt) := ⟨_, rfl⟩
    rw [← hp] at CB
    obtain ⟨r, hr⟩ : ∃ r : Int, r = p + 4 * (c : Int) := ⟨_, rfl⟩
    have hr0 : p + 4 * (c : Int) = r := hr.symm
    have hp1 : 0 ≤ p ∧ p ≤ 480 := by omega
    obtain ⟨hp2, hp3⟩ := hp1
    have CT := hide (fun w => refTorn_any a0 r a2 (d : Int) w)
    have e0 : Nor.errN true = 0 := rfl
    have e1 : Nor.errN false = 200 := rfl
    rw [h1] at C1
    rw [h3] at C3
    rw [h4] at CB C3
    cases hT : Nor.tornOk a0 r a2 (d : Int) with
    | false =>
      rw [hT] at CT
      generalize Nor.tornS a0 r a2 (d : Int) = X at *
      generalize actV a0 = P at *
      clear hT hs h0 h1 h2 h3 h4 hp hr
      generalize 1 - P.pt = O at *
      go_enter Try.func7, Try.ntmps7
      go_wp2_with (first | (go_at_call 13; refine (awake_any _).mono ?_; rintro e w' ⟨rfl, hb⟩; replace hB := hB.trans (hb.mono hB.size); clear hb) | (go_at_call 8; refine (C1.out _).mono ?_; rintro e w' ⟨rfl, hb⟩; replace hB := hB.trans (hb.mono hB.size); clear hb) | (go_at_call 10; replace hB := hB.alloc hB.size (.cells #[.int .i64 P.pa, .int .i64 P.pq, .int .i64 P.pt, .int .i64 P.pz, .int .i64 P.pm] 25); refine (C3.out _).mono ?_; rintro e w2 ⟨rfl, hb⟩; replace hB := thenB hB hb; clear hb) | (go_at_call 12; refine (numJ_any _ _).mono ?_; rintro e w' ⟨rfl, rfl⟩) | (go_at_call 19; refine (CB.out _).mono ?_; rintro e w' ⟨rfl, rfl⟩) | (go_at_call 20; refine (CT.out _).mono ?_; rintro e w3 ⟨rfl, hb⟩; replace hB := thenB hB hb; clear hb))
      go_ret
      exact ⟨rfl, hB⟩
    | true =>
      have ht : Turned a0 (Nor.tornS a0 r a2 (d : Int)) (actV a0) := turned_torn hs hc (hr.trans (by rw [hp])) hT
      rw [hT] at CT
      have CQ := hide (fun w => active_any (Nor.tornS a0 r a2 (d : Int)) w)
      have CS := hide (fun w => refScan_any (Nor.tornS a0 r a2 (d : Int)) w)
      rw [turned_some h2 ht] at CQ
      rw [mayF_t ht.sx] at CS
      have j0 : errJ true = 0 := rfl
      have HG := hide (fun (q : FPl) (w : World) => refGood_any (Nor.tornS a0 r a2 (d : Int)) q.pq q.pt q.pz q.pm w)
      have hlen := scan_len (Nor.tornS a0 r a2 (d : Int))
      have HS : Hid ((∀ i (hi : i < (scanL (Nor.tornS a0 r a2 (d : Int))).length), goodP (Nor.tornS a0 r a2 (d : Int)) (scanL (Nor.tornS a0 r a2 (d : Int)))[i] = true → ¬ (scanL (Nor.tornS a0 r a2 (d : Int)))[i].pt = 1 - (actV a0).pt) → actV (Nor.tornS a0 r a2 (d : Int)) = actV a0) := fun hn => (act_may (turned_stays h2 ht hn)).2.1
      have C5 := hide (fun w => held7_any w)
      have HH := hide size_heldS
      clear hT hs h0 h1 h2 h3 h4 hp hr ht
      generalize Nor.tornS a0 r a2 (d : Int) = X at *
      generalize scanL X = l at *
      generalize actV X = V at *
      generalize actV a0 = P at *
      generalize hO : 1 - P.pt = O at *
      clear hO
      generalize heldS = F at *
      go_enter Try.func7, Try.ntmps7
      go_wp2_with (go_at_call 13; refine (awake_any _).mono ?_; rintro e w' ⟨rfl, hb⟩; replace hB := hB.trans (hb.mono hB.size); clear hb)
      refine (C1.out _).mono ?_; rintro e w1 ⟨rfl, hb⟩; replace hB := thenB hB hb; clear hb
      have hX := box5M w1 (.int .i64 P.pa) (.int .i64 P.pq) (.int .i64 P.pt) (.int .i64 P.pz) (.int .i64 P.pm) 25
      replace hB := hB.alloc hB.size (.cells #[.int .i64 P.pa, .int .i64 P.pq, .int .i64 P.pt, .int .i64 P.pz, .int .i64 P.pm] 25)
      go_wp2_with fail
      generalize w1.alloc (.cells #[.int .i64 P.pa, .int .i64 P.pq, .int .i64 P.pt, .int .i64 P.pz, .int .i64 P.pm] 25) = W1 at *
      generalize w1.heap.size = B1 at *
      refine (C3.out _).mono ?_; rintro e w2 ⟨rfl, hb⟩; replace hB := thenB hB hb; replace hX := box5B hX hb; clear hb
      go_wp2_with (first | (go_at_call 12; refine (numJ_any _ _).mono ?_; rintro e w' ⟨rfl, rfl⟩) | (go_at_call 19; refine (CB.out _).mono ?_; rintro e w' ⟨rfl, rfl⟩))
      refine (CT.out _).mono ?_; rintro e w3 ⟨rfl, hb⟩; replace hB := thenB hB hb; replace hX := box5B hX hb; clear hb
      go_wp2_with fail
      refine (CQ.out _).mono ?_; rintro e w4 ⟨rfl, hb⟩; replace hB := thenB hB hb; replace hX := box5B hX hb; clear hb
      have hal := (Below.refl w4.heap.size w4).alloc (Nat.le_refl _) (.cells #[.int .i64 V.pa, .int .i64 V.pq, .int .i64 V.pt, .int .i64 V.pz, .int .i64 V.pm] 25)
      have hY := box5M w4 (.int .i64 V.pa) (.int .i64 V.pq) (.int .i64 V.pt) (.int .i64 V.pz) (.int .i64 V.pm) 25
      replace hB := thenB hB hal
      replace hX := box5B hX hal
      clear hal
      go_wp2_with fail
      generalize w4.alloc (.cells #[.int .i64 V.pa, .int .i64 V.pq, .int .i64 V.pt, .int .i64 V.pz, .int .i64 V.pm] 25) = W4 at *
      generalize w4.heap.size = B4 at *
      refine (CS.out _).mono ?_
      rintro e w5 ⟨v, rfl, hown, hb⟩
      replace hB := thenB hB hb; replace hX := box5B hX hb; replace hY := box5B hY hb; clear hb
      obtain ⟨a, cap, rfl, hin⟩ := ownsP_is hown
      clear hown C1 C3 CB CT CQ CS
      go_wp2
      go_loopw [21] (fun y wr => ∃ n : Nat, n ≤ l.length ∧ y = .int .i64 n ∧ Hid (∀ i (hi : i < l.length), i < n → goodP X l[i] = true → ¬ l[i].pt = O) ∧ Below w5.heap.size w5 wr) (fun y _ => l.length - (intOf y).toNat)
      case atStart => exact ⟨0, Nat.zero_le _, rfl, fun i _ h => by omega, Below.refl _ _⟩
      case round =>
        obtain ⟨n, hn, rfl, HI, hbel⟩ := hrel
        by_cases hlt : n < l.length
        · rcases hin with hin | ⟨g, rfl, hg, hin⟩
          · rw [hin] at hlt; simp at hlt
          have hin1 := hin.below hbel hg
          have hg1 : g < wr.heap.size := Nat.lt_of_lt_of_le hg hbel.size
          have c1 := hin1.pq n hlt
          have c2 := hin1.pt n hlt
          have c3 := hin1.pz n hlt
          have c4 := hin1.pm n hlt
          have HIn := hide hin1
          have HG1 := hide (HG.out l[n])
          have HBe := hide hB
          clear hin hin1 hX hY
          have HI2 : Hid ((goodP X l[n] = true → ¬ l[n].pt = O) → (∀ i (hi : i < l.length), i < n + 1 → goodP X l[i] = true → ¬ l[i].pt = O)) := fun h i hi h1 => by
            by_cases e : i = n
            · subst e; exact h
            · exact HI.out i hi (by omega)
          cases hgd : goodP X l[n] with
          | false =>
            have HI3 := hide (HI2.out (fun h => by rw [hgd] at h; cases h))
            rw [show goodB X l[n].pq l[n].pt l[n].pz l[n].pm = false from hgd] at HG1
            clear hgd HI HI2
            go_wp2_with (go_at_call 15; refine (HG1.out _).mono ?_; rintro e w6 ⟨rfl, hb⟩)
            exact ⟨⟨n + 1, by omega, by go_num, HI3, thenB hbel hb⟩, by simp [intOf]; omega⟩
          | true =>
            rw [show goodB X l[n].pq l[n].pt l[n].pz l[n].pm = true from hgd] at HG1
            clear hgd
            by_cases hp : l[n].pt = O
            · have HP := hide hp
              clear HI HI2 hp
              go_upto_region 17 with (go_at_call 15; refine (HG1.out _).mono ?_; rintro e w6 ⟨rfl, hb⟩)
              have d2 := (HIn.out.below hb hg1).pt n hlt
              rw [HP.out] at d2
              clear c1 c2 c3 c4
              go_wp2_with (go_at_call 12; refine (numJ_any _ _).mono ?_; rintro e w' ⟨rfl, rfl⟩)
              go_ret
              exact ⟨rfl, thenB (thenB HBe.out hbel) hb⟩
            · have HI3 := hide (HI2.out (fun _ => hp))
              clear HI HI2
              go_upto_region 17 with (go_at_call 15; refine (HG1.out _).mono ?_; rintro e w6 ⟨rfl, hb⟩)
              have d2 := (HIn.out.below hb hg1).pt n hlt
              clear c1 c2 c3 c4
              go_wp2
              exact ⟨⟨n + 1, by omega, by go_num, HI3, thenB hbel hb⟩, by simp [intOf]; omega⟩
        · have hV : V = P := HS.out fun i hi => HI.out i hi (by omega)
          subst hV
          replace hB := thenB hB hbel
          replace hX := box5B hX hbel
          replace hY := box5B hY hbel
          unfold Box5 at hX hY
          clear hin hbel HI HS
          have hz := HH.out
          go_wp2_with (first | (go_at_call 12; refine (numJ_any _ _).mono ?_; rintro e w' ⟨rfl, rfl⟩) | (go_at_call 21; refine (C5.out _).mono ?_; rintro e w8 ⟨rfl, hb⟩; replace hB := thenB hB hb; clear hb))
          go_ret
          exact ⟨rfl, hB⟩

set_option maxRecDepth 100000 in
theorem lifted (os : Os) (started : os.Started) (H : Type) (enc : TypeId × Value → H) :
    ReturnsInHanded {} Try.checked os 7 .any (Rows.chooseStaysSpec.pre6 enc Try.prog Try.f7 Rows.chooseStaysRow.domain false) (Rows.chooseStaysSpec.post enc Try.prog Try.f7 false true false false) := by
  refine returnsInHanded_of_change (C := Try.checked) own started (by kernel_rfl) Try.func7
    (ChangeSpec.witness6 (enc := enc) (C := Try.checked) false ⟨#[], #[.string ByteArray.empty, .int .i64 0, .string ByteArray.empty, .int .i64 0], []⟩ 8 (by kernel_rfl) (by kernel_rfl) (by kernel_rfl) (by kernel_rfl)) ?_
  intro W base args ds gs before hval0 hW hcnd _
  have hval : ∀ (j : Nat) t v, Try.f7.params[j]? = some t → args[j]? = some v → Value.okWide Try.prog W .any base t v := hval0
  have hW' := hW
  obtain ⟨p, q, hA0, hV, rfl, hfz, hnd⟩ := hW
  have hA : DataW.TrodAll enc Try.prog W 0 (fun _ => true) true Try.f7.params.toList args.toList ds p := hA0
  rw [Try.params7] at hA hval
  obtain ⟨v0, vs0, d0, ds0, p0, q0, hargs, rfl, rfl, h0, r0⟩ := trodAll_cons hA
  obtain ⟨v1, vs1, d1, ds1, p1, q1, rfl, rfl, rfl, h1, r1⟩ := trodAll_cons r0
  obtain ⟨v2, vs2, d2, ds2, p2, q2, rfl, rfl, rfl, h2, r2⟩ := trodAll_cons r1
  obtain ⟨v3, vs3, d3, ds3, p3, q3, rfl, rfl, rfl, h3, r3⟩ := trodAll_cons r2
  obtain ⟨rfl, rfl, rfl⟩ := trodAll_nil r3
  obtain rfl : args = #[v0, v1, v2, v3] := by cases args; simp_all
  obtain ⟨rfl, rfl⟩ := trodVars_none hV
  obtain ⟨a0, rfl, rfl, rfl, w0⟩ := open_string Try.underlying9 (hval 0 9 v0 rfl rfl) h0
  obtain ⟨a1, rfl, rfl, rfl, w1⟩ := open_int Try.underlying3 (hval 1 3 v1 rfl rfl) h1
  obtain ⟨a2, rfl, rfl, rfl, w2⟩ := open_string Try.underlying9 (hval 2 9 v2 rfl rfl) h2
  obtain ⟨a3, rfl, rfl, rfl, w3⟩ := open_int Try.underlying3 (hval 3 3 v3 rfl rfl) h3
  clear hA0 hval0
  refine (walk a0 a1 a2 a3 w0 w1 w2 w3 W).mono fun e W' ⟨he, bel⟩ => ?_
  subst he
  exact ⟨_, rfl, _, _, _, [], _, [], hW', (trodAll_cons_mk (shut_bool Try.underlying4 _) trodAll_mk0), (trodAll_cons_mk (shut_string Try.underlying9 w0) (trodAll_cons_mk (shut_int Try.underlying3 w1) (trodAll_cons_mk (shut_string Try.underlying9 w2) (trodAll_cons_mk (shut_int Try.underlying3 w3) trodAll_mk0)))), rfl, bel.frame _, fun h => by cases h⟩

theorem over : Rows.chooseStaysRow.holds Try.pinned (OpenSpec.ofChange Rows.chooseStaysSpec) :=
  OpenClaim.holds_of_wide 7 Try.f7 rfl rfl rfl rfl rfl rfl rfl ⟨rfl, rfl, rfl, rfl, rfl⟩ rfl rfl rfl rfl rfl (by kernel_rfl) Try.func7 (by kernel_rfl)
    (of_decide_eq_true (by kernel_rfl)) (by unfold Func.isWrapper; first | (rw [if_pos (by decide +kernel)]; kernel_rfl) | (rw [if_neg (by decide +kernel)]; exact ⟨rfl, rfl⟩))
    (fun os started H enc _ => lifted os started H enc)

theorem proved : Rows.ChooseStaysSaid :=
  over
#print axioms proved
end Go.Proofs.Ytniehdbidfimaaa.chooseStays
