/- Whatever the text and the four numbers: the law PlaceCut returns true (of a tame flash with an active record: behind any of the steps that lay the next record down, the last one cut, the active one is what it was, or the new one; behind all it is the new one; the flash stays tame), and the arguments read as they did; no condition. -/
import Derived.Test.YtpekhgopaakabaaRows
import Derived.Test.YtpekhgopaakabaaPlaAwake
import Derived.Test.YtpekhgopaakabaaPlaTame
import Derived.Test.YtpekhgopaakabaaOpsRef
import Derived.Deep.Cut
import Derived.ChangeOld
import Derived.Below
import Derived.WalkKit
import Derived.ProofKit
import Derived.OpenShut
import Derived.ShutString
namespace Go.Proofs.Ytpekhgopaakabaa.placeCut
open Go.ChangeShapes Go.WideShapes Go.ChangeAt Go.RowKit
open Go.ChangeMaps (open_string shut_string)
set_option linter.unusedVariables false

open Go.Proofs.Ytpekhgopaakabaa.Bytes
open Go.Proofs.Ytpekhgopaakabaa.Ent
open Go.Proofs.Ytpekhgopaakabaa.Jou
open Go.Proofs.Ytpekhgopaakabaa.JouRow
open Go.Proofs.Ytpekhgopaakabaa.JouRef
open Go.Proofs.Ytpekhgopaakabaa.Ops
open Go.Proofs.Ytpekhgopaakabaa.Act
open Go.Proofs.Ytpekhgopaakabaa.ActNext
open Go.Proofs.Ytpekhgopaakabaa.ActApp
open Go.Proofs.Ytpekhgopaakabaa.Held
open Go.Proofs.Ytpekhgopaakabaa.Cho
open Go.Proofs.Ytpekhgopaakabaa.Pla
open Go.Proofs.Ytpekhgopaakabaa.PlaTame
open Go.Proofs.Ytpekhgopaakabaa.PlaWalk
open Go.Proofs.Ytpekhgopaakabaa.PlaAwake
theorem own : ownKnob Try.prog.godebug = none := by kernel_rfl

theorem err_way (f : ByteArray) : (errA f = 700 ∨ errA f = 701) ∨ (errA f = 0 ∧ actO f = some (actV f)) := by
  rcases three f with ⟨_, _, _, h, _⟩ | ⟨_, _, _, h, _⟩ | ⟨_, h, g, _⟩
  · exact .inl (.inl h)
  · exact .inl (.inr h)
  · exact .inr ⟨g, h⟩
theorem cut_all {f : ByteArray} {q t z m : Int} (ho : appOk f q t z m = true) (ht : tameB f = true) (hq : topI f < q) (hg : goodB f q t z m = true) {p : FPl} (ha : actO f = some p) :
    6 ≤ (appL f q t z m).length ∧ (appL f q t z m).length ≤ 7 ∧ ¬ q = p.pq ∧
    (∀ n (hn : n < (appL f q t z m).length), cutOk (doL f ((appL f q t z m).take n)) (appL f q t z m)[n].er (appL f q t z m)[n].pl (appL f q t z m)[n].tx 96 = true ∧ opMay (appL f q t z m)[n].er (appL f q t z m)[n].pl (appL f q t z m)[n].tx = true) ∧
    ∃ A : Int, (∀ k (hk : k < (appL f q t z m).length) (c : Int) (y : ByteArray), 0 ≤ c → c ≤ 96 → y = cutS (doL f ((appL f q t z m).take k)) (appL f q t z m)[k].er (appL f q t z m)[k].pl (appL f q t z m)[k].tx c → cutOk (doL f ((appL f q t z m).take k)) (appL f q t z m)[k].er (appL f q t z m)[k].pl (appL f q t z m)[k].tx c = true ∧ tameB y = true ∧ errA y = 0 ∧ (actV y = p ∨ actV y = ⟨A, q, t, z, m⟩)) ∧
      (∀ k (hk : k < (appL f q t z m).length) (y : ByteArray), k + 1 = (appL f q t z m).length → y = cutS (doL f ((appL f q t z m).take k)) (appL f q t z m)[k].er (appL f q t z m)[k].pl (appL f q t z m)[k].tx 96 → actV y = ⟨A, q, t, z, m⟩) := by
  obtain ⟨E, g, j, hw⟩ := way ho
  have hl := way_len hw
  have hE : E.length ≤ 1 := by
    rcases hw.er with ⟨e, _⟩ | ⟨H, _, e, _⟩
    · rw [e]; simp
    · rw [e]; simp
  refine ⟨by omega, by omega, ?_, fun n hn => ?_, ((24 * j : Nat) : Int), fun k hk c y h0 h1 hy => ?_, fun k hk y hk1 hy => ?_⟩
  · have := top_ge (act_mem ha)
    omega
  · have h := (way_step hw n hn 96 (by omega) (by omega)).1
    exact ⟨h, (cutOk_parts.1 h).2.1⟩
  · obtain ⟨h2, h3⟩ := way_cut hw ht hq hg ha k hk c h0 h1 y hy
    refine ⟨(way_step hw k hk c h0 h1).1, h2, ?_⟩
    rcases h3 with h3 | h3
    · exact ⟨(act_may h3).2.2, .inl (act_may h3).2.1⟩
    · exact ⟨(act_may h3).2.2, .inr (act_may h3).2.1⟩
  · have h := (way_done hw ht hq hg).2.1
    have e : doL f (appL f q t z m) = y := by
      have h2 := doL_take f (appL f q t z m) k hk
      rw [hk1, List.take_length] at h2
      rw [h2, hy]
    rw [e] at h
    exact (act_may h).2.1
set_option maxRecDepth 100000 in
set_option maxHeartbeats 8000000 in
theorem walk (a0 : ByteArray) (a1 : Int) (a2 : Int) (a3 : Int) (a4 : Int) (w0 : a0.size ≤ maxLen) (w1 : (Lit.int .i64 a1).wf = true) (w2 : (Lit.int .i64 a2).wf = true) (w3 : (Lit.int .i64 a3).wf = true) (w4 : (Lit.int .i64 a4).wf = true) (w : World) :
    Calls Try.prog 4 #[.string a0, .int .i64 a1, .int .i64 a2, .int .i64 a3, .int .i64 a4] w fun e w' => e = .returned (.bool true) ∧ Below w.heap.size w w' := by
  have hB : Below w.heap.size w w := Below.refl _ _
  have C1 := hide (fun w => refActive_any a0 w)
  have C2 := hide (fun w => refRof_any a0 a1 a2 w)
  have C3 := hide (fun w => tame_any a0 w)
  have HW := hide (err_way a0)
  by_cases hgo : errA a0 = 0 ∧ errS a0 a1 a2 = 0 ∧ tameB a0 = true
  · obtain ⟨h1, h2, h3⟩ := hgo
    have ha : actO a0 = some (actV a0) := by
      rcases HW.out with (h | h) | h
      · omega
      · omega
      · exact h.2
    obtain ⟨g1, g2, g3, g4, g5⟩ := rof_good h2
    obtain ⟨n6, n7, hne, hD, A, hC, hE⟩ := cut_all g2 h3 g3 g4 ha
    have HD := hide hD
    have HC := hide hC
    have HE := hide hE
    have C4 := hide (fun w => append_any a0 (rofQ a0 a1 a2) (rofT a0 a1 a2) (rofZ a0 a1 a2) (rofM a0 a1 a2) w)
    rw [g2] at C4
    rw [h1] at C1
    rw [h2] at C2
    rw [h3] at C3
    clear hD hC hE h1 h2 h3 HW ha g1 g2 g3 g4 g5
    have e0 : errP true = 0 := rfl
    have e1 : errO true = 0 := rfl
    obtain ⟨c, hc, mc⟩ : ∃ k : Nat, k < 97 ∧ wrap64 ((IntKind.u64.wrap a4).tmod 97) = (k : Int) := mod_u64 a4 97 (by omega) (by omega)
    generalize actV a0 = P at *
    generalize rofQ a0 a1 a2 = Q at *
    generalize rofT a0 a1 a2 = T at *
    generalize rofZ a0 a1 a2 = Z at *
    generalize rofM a0 a1 a2 = M at *
    generalize appL a0 Q T Z M = L at *
    obtain ⟨N, hN⟩ : ∃ N : Nat, N = L.length := ⟨_, rfl⟩
    rw [← hN] at n6 n7 C4
    obtain ⟨k, hk, mk⟩ : ∃ k : Nat, k < N ∧ wrap64 ((IntKind.u64.wrap a3).tmod (N : Int)) = (k : Int) := mod_u64 a3 N (by omega) (by omega)
    have hu : IntKind.u64.wrap (N : Int) = (N : Int) := by
      have e : IntKind.u64.wrap (N : Int) = (N : Int) % 18446744073709551616 := by simp [IntKind.wrap, IntKind.bits, IntKind.signed]
      omega
    have HN := hide hN
    have z1 : ¬ N = 0 := by omega
    have z2 : ((N : Int) == 0) = false := by rw [beq_eq_false_iff_ne]; omega
    have z3 : decide ((7 : Int) < (N : Int)) = false := decide_eq_false (by omega)
    clear hN
    go_enter Try.func4, Try.ntmps4
    go_wp2_with (go_at_call 15; refine (awake_any _).mono ?_; rintro e w' ⟨rfl, hb⟩; replace hB := hB.trans (hb.mono hB.size); clear hb)
    refine (C1.out _).mono ?_; rintro e w1 ⟨rfl, hb⟩; replace hB := thenB hB hb; clear hb
    have hX := box5M w1 (.int .i64 P.pa) (.int .i64 P.pq) (.int .i64 P.pt) (.int .i64 P.pz) (.int .i64 P.pm) 40
    replace hB := hB.alloc hB.size (.cells #[.int .i64 P.pa, .int .i64 P.pq, .int .i64 P.pt, .int .i64 P.pz, .int .i64 P.pm] 40)
    go_wp2_with fail
    generalize w1.alloc (.cells #[.int .i64 P.pa, .int .i64 P.pq, .int .i64 P.pt, .int .i64 P.pz, .int .i64 P.pm] 40) = W1 at *
    generalize w1.heap.size = B1 at *
    refine (C2.out _).mono ?_; rintro e w2 ⟨rfl, hb⟩; replace hB := thenB hB hb; replace hX := box5B hX hb; clear hb
    have hal := (Below.refl w2.heap.size w2).alloc (Nat.le_refl _) (.cells #[.int .i64 Q, .int .i64 T, .int .i64 Z, .int .i64 M] 23)
    have hR := EntRow.boxM w2 (.int .i64 Q) (.int .i64 T) (.int .i64 Z) (.int .i64 M) 23
    replace hB := thenB hB hal
    replace hX := box5B hX hal
    clear hal
    go_wp2_with (go_at_call 18; refine (C3.out _).mono ?_; rintro e w3 ⟨rfl, hb⟩; replace hB := thenB hB hb; replace hX := box5B hX hb; replace hR := EntRow.boxB hR hb; clear hb)
    generalize w2.heap.size = B2 at *
    refine (C4.out _).mono ?_; rintro e w5 ⟨v, rfl, hown, hb⟩; replace hB := thenB hB hb; replace hX := box5B hX hb; replace hR := EntRow.boxB hR hb; clear hb
    obtain ⟨g, cap, rfl, u1, u2⟩ := hown.form (by omega)
    obtain ⟨u3, hg, hin⟩ := OpsRow.owns_in hown
    clear hown u1 u2 u3 C1 C2 C3 C4
    go_wp2_with (go_at_call 12; refine (numJ_any _ _).mono ?_; rintro e w' ⟨rfl, rfl⟩)
    rw [mk]
    clear mk hu
    go_loopw [18, 19] (fun x y wr => ∃ (n : Nat) (F : ByteArray), n ≤ k ∧ x = .string F ∧ y = .int .i64 n ∧ Hid (F = doL a0 (L.take n)) ∧ Below w'.heap.size w' wr) (fun _ y _ => k - (intOf y).toNat)
    case atStart => exact ⟨0, _, Nat.zero_le _, rfl, rfl, rfl, Below.refl _ _⟩
    case round =>
      obtain ⟨n, F, hn, rfl, rfl, HX, hbel⟩ := hrel
      by_cases hlt : n < k
      · have hlt2 : n < L.length := by rw [← HN.out]; omega
        have hin1 := hin.below hbel hg
        have c0 := hin1.er n hlt2
        have c1 := hin1.pl n hlt2
        have c2 := hin1.tx n hlt2
        obtain ⟨k1, k2⟩ := HD.out n hlt2
        rw [← HX.out] at k1
        have HX2 : Hid (cutS F L[n].er L[n].pl L[n].tx 96 = doL a0 (L.take (n + 1))) := by show _ = _; rw [doL_take _ _ n hlt2, ← HX.out]
        have CD := hide (fun w => OpsRef.refDo_any F L[n].er L[n].pl L[n].tx w)
        have CM := hide (fun w => OpsRef.refMay_any L[n].er L[n].pl L[n].tx w)
        rw [k1] at CD
        rw [k2] at CM
        clear k1 k2 HX
        generalize cutS F L[n].er L[n].pl L[n].tx 96 = F2 at *
        have HI := hide hin1
        have hg1 : g < wr.heap.size := Nat.lt_of_lt_of_le hg hbel.size
        go_wp2_with (first | (go_at_call 19; refine (CD.out _).mono ?_; rintro e w6 ⟨rfl, hb⟩; have hin2 := HI.out.below hb hg1; have d0 := hin2.er n hlt2; have d1 := hin2.pl n hlt2; have d2 := hin2.tx n hlt2; clear hin2) | (go_at_call 20; refine (CM.out _).mono ?_; rintro e w7 ⟨rfl, hb2⟩))
        exact ⟨⟨n + 1, _, by omega, rfl, by go_num, HX2, thenB (thenB hbel hb) hb2⟩, by simp [intOf]; omega⟩
      · obtain rfl : n = k := by omega
        have hlt2 : n < L.length := by rw [← HN.out]; omega
        have hin1 := hin.below hbel hg
        have c0 := hin1.er n hlt2
        have c1 := hin1.pl n hlt2
        have c2 := hin1.tx n hlt2
        have HI := hide hin1
        have hg1 : g < wr.heap.size := Nat.lt_of_lt_of_le hg hbel.size
        replace hB := thenB hB hbel
        replace hX := box5B hX hbel
        replace hR := EntRow.boxB hR hbel
        have CC := hide (fun w => OpsRef.refCut_any F L[n].er L[n].pl L[n].tx (c : Int) w)
        have CD := hide (fun w => OpsRef.refDo_any F L[n].er L[n].pl L[n].tx w)
        obtain ⟨y1, y2, y3, y4⟩ := HC.out n hlt2 (c : Int) (cutS F L[n].er L[n].pl L[n].tx (c : Int)) (by omega) (by omega) (by rw [← HX.out])
        obtain ⟨x1, x2, x3, x4⟩ := HC.out n hlt2 96 (cutS F L[n].er L[n].pl L[n].tx 96) (by omega) (by omega) (by rw [← HX.out])
        have x5 : n + 1 = N → actV (cutS F L[n].er L[n].pl L[n].tx 96) = ⟨A, Q, T, Z, M⟩ := fun h => HE.out n hlt2 _ (by rw [← HN.out]; exact h) (by rw [← HX.out])
        rw [← HX.out] at y1 x1
        rw [y1] at CC
        rw [x1] at CD
        have CY := hide (fun w => refActive_any (cutS F L[n].er L[n].pl L[n].tx (c : Int)) w)
        have CU := hide (fun w => tame_any (cutS F L[n].er L[n].pl L[n].tx (c : Int)) w)
        have CZ := hide (fun w => refActive_any (cutS F L[n].er L[n].pl L[n].tx 96) w)
        have CV := hide (fun w => tame_any (cutS F L[n].er L[n].pl L[n].tx 96) w)
        rw [y3] at CY
        rw [y2] at CU
        rw [x3] at CZ
        rw [x2] at CV
        have hz : (n + 1 < N ∧ actV (cutS F L[n].er L[n].pl L[n].tx 96) = P) ∨ (n + 1 < N ∧ actV (cutS F L[n].er L[n].pl L[n].tx 96) = ⟨A, Q, T, Z, M⟩) ∨ (n + 1 = N ∧ actV (cutS F L[n].er L[n].pl L[n].tx 96) = ⟨A, Q, T, Z, M⟩) := by
          by_cases h : n + 1 = N
          · exact .inr (.inr ⟨h, x5 h⟩)
          · rcases x4 with x4 | x4
            · exact .inl ⟨by omega, x4⟩
            · exact .inr (.inl ⟨by omega, x4⟩)
        have HZ := hide hz
        have HY := hide y4
        clear y1 y2 y3 y4 x1 x2 x3 x4 x5 hz HX HC HD HE hin hin1 hlt hn hbel
        generalize cutS F L[n].er L[n].pl L[n].tx (c : Int) = Y at *
        generalize cutS F L[n].er L[n].pl L[n].tx 96 = Y2 at *
        generalize actV Y = V at *
        generalize actV Y2 = V2 at *
        go_wp2_with fail
        refine (CC.out _).mono ?_; rintro e w6 ⟨rfl, hb⟩; replace hB := thenB hB hb; replace hX := box5B hX hb; replace hR := EntRow.boxB hR hb
        replace HI := hide (HI.out.below hb hg1)
        replace hg1 := Nat.lt_of_lt_of_le hg1 hb.size
        clear hb c0 c1 c2
        go_wp2_with fail
        refine (CY.out _).mono ?_; rintro e w7 ⟨rfl, hb⟩; replace hB := thenB hB hb; replace hX := box5B hX hb; replace hR := EntRow.boxB hR hb
        replace HI := hide (HI.out.below hb hg1)
        replace hg1 := Nat.lt_of_lt_of_le hg1 hb.size
        clear hb
        have hal := (Below.refl w7.heap.size w7).alloc (Nat.le_refl _) (.cells #[.int .i64 V.pa, .int .i64 V.pq, .int .i64 V.pt, .int .i64 V.pz, .int .i64 V.pm] 40)
        have hV := box5M w7 (.int .i64 V.pa) (.int .i64 V.pq) (.int .i64 V.pt) (.int .i64 V.pz) (.int .i64 V.pm) 40
        replace hB := thenB hB hal; replace hX := box5B hX hal; replace hR := EntRow.boxB hR hal
        replace HI := hide (HI.out.below hal hg1)
        replace hg1 := Nat.lt_of_lt_of_le hg1 hal.size
        clear hal
        go_upto_region 21 with fail
        generalize w7.alloc (.cells #[.int .i64 V.pa, .int .i64 V.pq, .int .i64 V.pt, .int .i64 V.pz, .int .i64 V.pm] 40) = W7 at *
        generalize w7.heap.size = B7 at *
        have hX' := hX
        unfold Box5 at hX' hV
        have HX := hide hX
        have HR := hide hR
        have HB := hide hB
        clear hX hR hB
        have hR' := HR.out
        rcases HY.out with hVP | hVP
        · rw [hVP] at hV
          clear hVP
          go_wp2_with (go_at_call 18; refine (CU.out _).mono ?_; rintro e w8 ⟨rfl, hb⟩; have hin2 := HI.out.below hb hg1; have d0 := hin2.er n hlt2; have d1 := hin2.pl n hlt2; have d2 := hin2.tx n hlt2; clear hin2)
          clear d0 d1 d2 hV hX' hR'
          replace HB := hide (thenB HB.out hb); replace HX := hide (box5B HX.out hb); replace HR := hide (EntRow.boxB HR.out hb); clear hb CU CY CC HI hg1
          refine (CD.out _).mono ?_; rintro e w9 ⟨rfl, hb⟩
          replace HB := hide (thenB HB.out hb); replace HX := hide (box5B HX.out hb); replace HR := hide (EntRow.boxB HR.out hb); clear hb CD
          go_wp2_with fail
          refine (CZ.out _).mono ?_; rintro e w10 ⟨rfl, hb⟩
          have hal := (Below.refl w10.heap.size w10).alloc (Nat.le_refl _) (.cells #[.int .i64 V2.pa, .int .i64 V2.pq, .int .i64 V2.pt, .int .i64 V2.pz, .int .i64 V2.pm] 40)
          have hU := box5M w10 (.int .i64 V2.pa) (.int .i64 V2.pq) (.int .i64 V2.pt) (.int .i64 V2.pz) (.int .i64 V2.pm) 40
          replace HB := hide (thenB (thenB HB.out hb) hal); replace HX := hide (box5B (box5B HX.out hb) hal); replace HR := hide (EntRow.boxB (EntRow.boxB HR.out hb) hal); clear hb hal CZ
          go_upto_region 25 with fail
          generalize w10.alloc (.cells #[.int .i64 V2.pa, .int .i64 V2.pq, .int .i64 V2.pt, .int .i64 V2.pz, .int .i64 V2.pm] 40) = W10 at *
          generalize w10.heap.size = B10 at *
          have hX' := HX.out
          have hR' := HR.out
          unfold Box5 at hX' hU
          have hn0 : (n : Int) + 1 ≤ (N : Int) := by omega
          rcases HZ.out with ⟨hn1, hVP⟩ | ⟨hn1, hVP⟩ | ⟨hn1, hVP⟩
          · rw [hVP] at hU
            clear hVP
            have hgd : decide ((n : Int) < (N : Int) - 1) = true := decide_eq_true (by omega)
            go_wp2_with (go_at_call 18; refine (CV.out _).mono ?_; rintro e w12 ⟨rfl, hb⟩)
            go_ret
            exact ⟨rfl, thenB HB.out hb⟩
          · rw [hVP] at hU
            dsimp only at hU
            clear hVP
            have hgd : decide ((n : Int) < (N : Int) - 1) = true := decide_eq_true (by omega)
            by_cases hA2 : A = P.pa
            · go_wp2_with (go_at_call 18; refine (CV.out _).mono ?_; rintro e w12 ⟨rfl, hb⟩)
              go_ret
              exact ⟨rfl, thenB HB.out hb⟩
            · go_wp2_with (go_at_call 18; refine (CV.out _).mono ?_; rintro e w12 ⟨rfl, hb⟩)
              go_ret
              exact ⟨rfl, thenB HB.out hb⟩
          · rw [hVP] at hU
            dsimp only at hU
            clear hVP
            have hgd : decide ((n : Int) < (N : Int) - 1) = false := decide_eq_false (by omega)
            go_wp2_with (go_at_call 18; refine (CV.out _).mono ?_; rintro e w12 ⟨rfl, hb⟩)
            go_ret
            exact ⟨rfl, thenB HB.out hb⟩
        · rw [hVP] at hV
          dsimp only at hV
          clear hVP
          by_cases hA : A = P.pa
          · go_wp2_with (go_at_call 18; refine (CU.out _).mono ?_; rintro e w8 ⟨rfl, hb⟩; have hin2 := HI.out.below hb hg1; have d0 := hin2.er n hlt2; have d1 := hin2.pl n hlt2; have d2 := hin2.tx n hlt2; clear hin2)
            clear d0 d1 d2 hV hX' hR'
            replace HB := hide (thenB HB.out hb); replace HX := hide (box5B HX.out hb); replace HR := hide (EntRow.boxB HR.out hb); clear hb CU CY CC HI hg1
            refine (CD.out _).mono ?_; rintro e w9 ⟨rfl, hb⟩
            replace HB := hide (thenB HB.out hb); replace HX := hide (box5B HX.out hb); replace HR := hide (EntRow.boxB HR.out hb); clear hb CD
            go_wp2_with fail
            refine (CZ.out _).mono ?_; rintro e w10 ⟨rfl, hb⟩
            have hal := (Below.refl w10.heap.size w10).alloc (Nat.le_refl _) (.cells #[.int .i64 V2.pa, .int .i64 V2.pq, .int .i64 V2.pt, .int .i64 V2.pz, .int .i64 V2.pm] 40)
            have hU := box5M w10 (.int .i64 V2.pa) (.int .i64 V2.pq) (.int .i64 V2.pt) (.int .i64 V2.pz) (.int .i64 V2.pm) 40
            replace HB := hide (thenB (thenB HB.out hb) hal); replace HX := hide (box5B (box5B HX.out hb) hal); replace HR := hide (EntRow.boxB (EntRow.boxB HR.out hb) hal); clear hb hal CZ
            go_upto_region 25 with fail
            generalize w10.alloc (.cells #[.int .i64 V2.pa, .int .i64 V2.pq, .int .i64 V2.pt, .int .i64 V2.pz, .int .i64 V2.pm] 40) = W10 at *
            generalize w10.heap.size = B10 at *
            have hX' := HX.out
            have hR' := HR.out
            unfold Box5 at hX' hU
            have hn0 : (n : Int) + 1 ≤ (N : Int) := by omega
            rcases HZ.out with ⟨hn1, hVP⟩ | ⟨hn1, hVP⟩ | ⟨hn1, hVP⟩
            · rw [hVP] at hU
              clear hVP
              have hgd : decide ((n : Int) < (N : Int) - 1) = true := decide_eq_true (by omega)
              go_wp2_with (go_at_call 18; refine (CV.out _).mono ?_; rintro e w12 ⟨rfl, hb⟩)
              go_ret
              exact ⟨rfl, thenB HB.out hb⟩
            · rw [hVP] at hU
              dsimp only at hU
              clear hVP
              have hgd : decide ((n : Int) < (N : Int) - 1) = true := decide_eq_true (by omega)
              go_wp2_with (go_at_call 18; refine (CV.out _).mono ?_; rintro e w12 ⟨rfl, hb⟩)
              go_ret
              exact ⟨rfl, thenB HB.out hb⟩
            · rw [hVP] at hU
              dsimp only at hU
              clear hVP
              have hgd : decide ((n : Int) < (N : Int) - 1) = false := decide_eq_false (by omega)
              go_wp2_with (go_at_call 18; refine (CV.out _).mono ?_; rintro e w12 ⟨rfl, hb⟩)
              go_ret
              exact ⟨rfl, thenB HB.out hb⟩
          · go_wp2_with (go_at_call 18; refine (CU.out _).mono ?_; rintro e w8 ⟨rfl, hb⟩; have hin2 := HI.out.below hb hg1; have d0 := hin2.er n hlt2; have d1 := hin2.pl n hlt2; have d2 := hin2.tx n hlt2; clear hin2)
            clear d0 d1 d2 hV hX' hR'
            replace HB := hide (thenB HB.out hb); replace HX := hide (box5B HX.out hb); replace HR := hide (EntRow.boxB HR.out hb); clear hb CU CY CC HI hg1
            refine (CD.out _).mono ?_; rintro e w9 ⟨rfl, hb⟩
            replace HB := hide (thenB HB.out hb); replace HX := hide (box5B HX.out hb); replace HR := hide (EntRow.boxB HR.out hb); clear hb CD
            go_wp2_with fail
            refine (CZ.out _).mono ?_; rintro e w10 ⟨rfl, hb⟩
            have hal := (Below.refl w10.heap.size w10).alloc (Nat.le_refl _) (.cells #[.int .i64 V2.pa, .int .i64 V2.pq, .int .i64 V2.pt, .int .i64 V2.pz, .int .i64 V2.pm] 40)
            have hU := box5M w10 (.int .i64 V2.pa) (.int .i64 V2.pq) (.int .i64 V2.pt) (.int .i64 V2.pz) (.int .i64 V2.pm) 40
            replace HB := hide (thenB (thenB HB.out hb) hal); replace HX := hide (box5B (box5B HX.out hb) hal); replace HR := hide (EntRow.boxB (EntRow.boxB HR.out hb) hal); clear hb hal CZ
            go_upto_region 25 with fail
            generalize w10.alloc (.cells #[.int .i64 V2.pa, .int .i64 V2.pq, .int .i64 V2.pt, .int .i64 V2.pz, .int .i64 V2.pm] 40) = W10 at *
            generalize w10.heap.size = B10 at *
            have hX' := HX.out
            have hR' := HR.out
            unfold Box5 at hX' hU
            have hn0 : (n : Int) + 1 ≤ (N : Int) := by omega
            rcases HZ.out with ⟨hn1, hVP⟩ | ⟨hn1, hVP⟩ | ⟨hn1, hVP⟩
            · rw [hVP] at hU
              clear hVP
              have hgd : decide ((n : Int) < (N : Int) - 1) = true := decide_eq_true (by omega)
              go_wp2_with (go_at_call 18; refine (CV.out _).mono ?_; rintro e w12 ⟨rfl, hb⟩)
              go_ret
              exact ⟨rfl, thenB HB.out hb⟩
            · rw [hVP] at hU
              dsimp only at hU
              clear hVP
              have hgd : decide ((n : Int) < (N : Int) - 1) = true := decide_eq_true (by omega)
              go_wp2_with (go_at_call 18; refine (CV.out _).mono ?_; rintro e w12 ⟨rfl, hb⟩)
              go_ret
              exact ⟨rfl, thenB HB.out hb⟩
            · rw [hVP] at hU
              dsimp only at hU
              clear hVP
              have hgd : decide ((n : Int) < (N : Int) - 1) = false := decide_eq_false (by omega)
              go_wp2_with (go_at_call 18; refine (CV.out _).mono ?_; rintro e w12 ⟨rfl, hb⟩)
              go_ret
              exact ⟨rfl, thenB HB.out hb⟩
  · have hw : (¬ errA a0 = 0) ∨ (errA a0 = 0 ∧ ¬ errS a0 a1 a2 = 0) ∨ (errA a0 = 0 ∧ errS a0 a1 a2 = 0 ∧ tameB a0 = false) := by
      by_cases h1 : errA a0 = 0
      · by_cases h2 : errS a0 a1 a2 = 0
        · cases h3 : tameB a0 with
          | false => exact .inr (.inr ⟨h1, h2, rfl⟩)
          | true => exact absurd ⟨h1, h2, h3⟩ hgo
        · exact .inr (.inl ⟨h1, h2⟩)
      · exact .inl h1
    clear hgo HW
    rcases hw with h1 | ⟨h1, h2⟩ | ⟨h1, h2, h3⟩
    · generalize errA a0 = E1 at *
      generalize errS a0 a1 a2 = E2 at *
      generalize actV a0 = P at *
      generalize rofQ a0 a1 a2 = Q at *
      generalize rofT a0 a1 a2 = T at *
      generalize rofZ a0 a1 a2 = Z at *
      generalize rofM a0 a1 a2 = M at *
      go_enter Try.func4, Try.ntmps4
      go_wp2_with (go_at_call 15; refine (awake_any _).mono ?_; rintro e w' ⟨rfl, hb⟩; replace hB := hB.trans (hb.mono hB.size); clear hb)
      refine (C1.out _).mono ?_; rintro e w1 ⟨rfl, hb⟩; replace hB := thenB hB hb; clear hb
      replace hB := hB.alloc hB.size (.cells #[.int .i64 P.pa, .int .i64 P.pq, .int .i64 P.pt, .int .i64 P.pz, .int .i64 P.pm] 40)
      go_wp2_with fail
      refine (C2.out _).mono ?_; rintro e w2 ⟨rfl, hb⟩; replace hB := thenB hB hb; clear hb
      replace hB := hB.alloc hB.size (.cells #[.int .i64 Q, .int .i64 T, .int .i64 Z, .int .i64 M] 23)
      go_wp2_with fail
      go_ret
      exact ⟨rfl, hB⟩
    · rw [h1] at C1
      generalize errS a0 a1 a2 = E2 at *
      generalize actV a0 = P at *
      generalize rofQ a0 a1 a2 = Q at *
      generalize rofT a0 a1 a2 = T at *
      generalize rofZ a0 a1 a2 = Z at *
      generalize rofM a0 a1 a2 = M at *
      clear h1
      go_enter Try.func4, Try.ntmps4
      go_wp2_with (go_at_call 15; refine (awake_any _).mono ?_; rintro e w' ⟨rfl, hb⟩; replace hB := hB.trans (hb.mono hB.size); clear hb)
      refine (C1.out _).mono ?_; rintro e w1 ⟨rfl, hb⟩; replace hB := thenB hB hb; clear hb
      replace hB := hB.alloc hB.size (.cells #[.int .i64 P.pa, .int .i64 P.pq, .int .i64 P.pt, .int .i64 P.pz, .int .i64 P.pm] 40)
      go_wp2_with fail
      refine (C2.out _).mono ?_; rintro e w2 ⟨rfl, hb⟩; replace hB := thenB hB hb; clear hb
      replace hB := hB.alloc hB.size (.cells #[.int .i64 Q, .int .i64 T, .int .i64 Z, .int .i64 M] 23)
      go_wp2_with fail
      go_ret
      exact ⟨rfl, hB⟩
    · rw [h1] at C1
      rw [h2] at C2
      rw [h3] at C3
      generalize actV a0 = P at *
      generalize rofQ a0 a1 a2 = Q at *
      generalize rofT a0 a1 a2 = T at *
      generalize rofZ a0 a1 a2 = Z at *
      generalize rofM a0 a1 a2 = M at *
      clear h1 h2 h3
      go_enter Try.func4, Try.ntmps4
      go_wp2_with (go_at_call 15; refine (awake_any _).mono ?_; rintro e w' ⟨rfl, hb⟩; replace hB := hB.trans (hb.mono hB.size); clear hb)
      refine (C1.out _).mono ?_; rintro e w1 ⟨rfl, hb⟩; replace hB := thenB hB hb; clear hb
      replace hB := hB.alloc hB.size (.cells #[.int .i64 P.pa, .int .i64 P.pq, .int .i64 P.pt, .int .i64 P.pz, .int .i64 P.pm] 40)
      go_wp2_with fail
      refine (C2.out _).mono ?_; rintro e w2 ⟨rfl, hb⟩; replace hB := thenB hB hb; clear hb
      replace hB := hB.alloc hB.size (.cells #[.int .i64 Q, .int .i64 T, .int .i64 Z, .int .i64 M] 23)
      go_wp2_with (go_at_call 18; refine (C3.out _).mono ?_; rintro e w3 ⟨rfl, hb⟩; replace hB := thenB hB hb; clear hb)
      go_ret
      exact ⟨rfl, hB⟩

set_option maxRecDepth 100000 in
theorem lifted (os : Os) (started : os.Started) (H : Type) (enc : TypeId × Value → H) :
    ReturnsInHanded {} Try.checked os 4 .any (Rows.placeCutSpec.pre6 enc Try.prog Try.f4 Rows.placeCutRow.domain false) (Rows.placeCutSpec.post enc Try.prog Try.f4 false true false false) := by
  refine returnsInHanded_of_change (C := Try.checked) own started (by kernel_rfl) Try.func4
    (ChangeSpec.witness6 (enc := enc) (C := Try.checked) false ⟨#[], #[.string ByteArray.empty, .int .i64 0, .int .i64 0, .int .i64 0, .int .i64 0], []⟩ 8 (by kernel_rfl) (by kernel_rfl) (by kernel_rfl) (by kernel_rfl)) ?_
  intro W base args ds gs before hval0 hW hcnd _
  have hval : ∀ (j : Nat) t v, Try.f4.params[j]? = some t → args[j]? = some v → Value.okWide Try.prog W .any base t v := hval0
  have hW' := hW
  obtain ⟨p, q, hA0, hV, rfl, hfz, hnd⟩ := hW
  have hA : DataW.TrodAll enc Try.prog W 0 (fun _ => true) true Try.f4.params.toList args.toList ds p := hA0
  rw [Try.params4] at hA hval
  obtain ⟨v0, vs0, d0, ds0, p0, q0, hargs, rfl, rfl, h0, r0⟩ := trodAll_cons hA
  obtain ⟨v1, vs1, d1, ds1, p1, q1, rfl, rfl, rfl, h1, r1⟩ := trodAll_cons r0
  obtain ⟨v2, vs2, d2, ds2, p2, q2, rfl, rfl, rfl, h2, r2⟩ := trodAll_cons r1
  obtain ⟨v3, vs3, d3, ds3, p3, q3, rfl, rfl, rfl, h3, r3⟩ := trodAll_cons r2
  obtain ⟨v4, vs4, d4, ds4, p4, q4, rfl, rfl, rfl, h4, r4⟩ := trodAll_cons r3
  obtain ⟨rfl, rfl, rfl⟩ := trodAll_nil r4
  obtain rfl : args = #[v0, v1, v2, v3, v4] := by cases args; simp_all
  obtain ⟨rfl, rfl⟩ := trodVars_none hV
  obtain ⟨a0, rfl, rfl, rfl, w0⟩ := open_string Try.underlying9 (hval 0 9 v0 rfl rfl) h0
  obtain ⟨a1, rfl, rfl, rfl, w1⟩ := open_int Try.underlying3 (hval 1 3 v1 rfl rfl) h1
  obtain ⟨a2, rfl, rfl, rfl, w2⟩ := open_int Try.underlying3 (hval 2 3 v2 rfl rfl) h2
  obtain ⟨a3, rfl, rfl, rfl, w3⟩ := open_int Try.underlying3 (hval 3 3 v3 rfl rfl) h3
  obtain ⟨a4, rfl, rfl, rfl, w4⟩ := open_int Try.underlying3 (hval 4 3 v4 rfl rfl) h4
  clear hA0 hval0
  refine (walk a0 a1 a2 a3 a4 w0 w1 w2 w3 w4 W).mono fun e W' ⟨he, bel⟩ => ?_
  subst he
  exact ⟨_, rfl, _, _, _, [], _, [], hW', (trodAll_cons_mk (shut_bool Try.underlying4 _) trodAll_mk0), (trodAll_cons_mk (shut_string Try.underlying9 w0) (trodAll_cons_mk (shut_int Try.underlying3 w1) (trodAll_cons_mk (shut_int Try.underlying3 w2) (trodAll_cons_mk (shut_int Try.underlying3 w3) (trodAll_cons_mk (shut_int Try.underlying3 w4) trodAll_mk0))))), rfl, bel.frame _, fun h => by cases h⟩

theorem over : Rows.placeCutRow.holds Try.pinned (OpenSpec.ofChange Rows.placeCutSpec) :=
  OpenClaim.holds_of_wide 4 Try.f4 rfl rfl rfl rfl rfl rfl rfl ⟨rfl, rfl, rfl, rfl, rfl⟩ rfl rfl rfl rfl rfl (by kernel_rfl) Try.func4 (by kernel_rfl)
    (of_decide_eq_true (by kernel_rfl)) (by unfold Func.isWrapper; first | (rw [if_pos (by decide +kernel)]; kernel_rfl) | (rw [if_neg (by decide +kernel)]; exact ⟨rfl, rfl⟩))
    (fun os started H enc _ => lifted os started H enc)

theorem proved : Rows.PlaceCutSaid :=
  over
#print axioms proved
end Go.Proofs.Ytpekhgopaakabaa.placeCut
