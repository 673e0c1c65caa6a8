/- Whatever the two texts: the law UploadElder returns true (what stands in the other slot is not read: any text laid there leaves what is told, while the active record stays), and the arguments read as they did; no condition. -/
import Derived.Test.YthcknngmpcepfaaRows
import Derived.Test.YthcknngmpcepfaaBagNor
import Derived.Test.YthcknngmpcepfaaBagAct
import Derived.Test.YthcknngmpcepfaaBagCho
import Derived.Test.YthcknngmpcepfaaChoTurn
import Derived.Test.YthcknngmpcepfaaBagImg
import Derived.Test.YthcknngmpcepfaaBagDev
import Derived.Test.YthcknngmpcepfaaBagDnl
import Derived.Test.YthcknngmpcepfaaUplMath
import Derived.Test.YthcknngmpcepfaaUplGive
import Derived.Test.YthcknngmpcepfaaUplAwake
import Derived.Deep.Cut
import Derived.BigQuiet
import Derived.ChangeOld
import Derived.Below
import Derived.WalkKit
import Derived.ProofKit
import Derived.OpenShut
import Derived.ShutString
namespace Go.Proofs.Ythcknngmpcepfaa.uploadElder
open Go.ChangeShapes Go.WideShapes Go.ChangeAt Go.RowKit
open Go.ChangeMaps (open_string shut_string)
set_option linter.unusedVariables false

open Go.Proofs.Ythcknngmpcepfaa.Bytes
open Go.Proofs.Ythcknngmpcepfaa.Ent
open Go.Proofs.Ythcknngmpcepfaa.Act
open Go.Proofs.Ythcknngmpcepfaa.ActRef
open Go.Proofs.Ythcknngmpcepfaa.ActNext
open Go.Proofs.Ythcknngmpcepfaa.Cho
open Go.Proofs.Ythcknngmpcepfaa.Held
open Go.Proofs.Ythcknngmpcepfaa.JouRow
open Go.Proofs.Ythcknngmpcepfaa.Jou
open Go.Proofs.Ythcknngmpcepfaa.Dev
open Go.Proofs.Ythcknngmpcepfaa.DevRow
open Go.Proofs.Ythcknngmpcepfaa.DevSet
open Go.Proofs.Ythcknngmpcepfaa.DevHelp
open Go.Proofs.Ythcknngmpcepfaa.DevAwake
open Go.Proofs.Ythcknngmpcepfaa.Dnl
open Go.Proofs.Ythcknngmpcepfaa.Upl
open Go.Proofs.Ythcknngmpcepfaa.UplAwake
theorem own : ownKnob Try.prog.godebug = none := by kernel_rfl

theorem ways5 (p r : FPl) : (p.pa = r.pa ∧ p.pq = r.pq ∧ p.pt = r.pt ∧ p.pz = r.pz ∧ p.pm = r.pm) ∨ ¬ p.pa = r.pa ∨ (p.pa = r.pa ∧ ¬ p.pq = r.pq) ∨ (p.pa = r.pa ∧ p.pq = r.pq ∧ ¬ p.pt = r.pt) ∨ (p.pa = r.pa ∧ p.pq = r.pq ∧ p.pt = r.pt ∧ ¬ p.pz = r.pz) ∨ (p.pa = r.pa ∧ p.pq = r.pq ∧ p.pt = r.pt ∧ p.pz = r.pz ∧ ¬ p.pm = r.pm) := by omega
theorem same5 {p r : FPl} (h : p.pa = r.pa ∧ p.pq = r.pq ∧ p.pt = r.pt ∧ p.pz = r.pz ∧ p.pm = r.pm) : p = r := by
  cases p
  cases r
  obtain ⟨h1, h2, h3, h4, h5⟩ := h
  simp only at h1 h2 h3 h4 h5
  rw [h1, h2, h3, h4, h5]
/-- The active image stays, where the active record does: its slot is not the turned one. -/
theorem same_image {f x : ByteArray} {p : FPl} (ha : actO f = some p) (h : Turned f x p) (he : actV x = p) : actS x = actS f := by
  obtain ⟨hf, hr, _⟩ := act_rec ha
  obtain ⟨_, _, _, _, _, hz, _⟩ := recMay_parts.1 hr
  have hs := act_slot ha
  have hv := (act_may ha).2.1
  unfold actS
  rw [he, hv, imgS_ok (imgOk_parts.2 ⟨h.sx, hr⟩), imgS_ok (imgOk_parts.2 ⟨hf, hr⟩)]
  refine (cut_eq fun i h1 h2 => h.out i ?_).symm
  rcases hs with e | e <;> rw [e] at h1 h2 ⊢ <;> omega
/-- What an idle device is told first. -/
def firstN (f : ByteArray) : FDev := behindD newD (pieceN (actS f) 0 32).size
theorem first_told {f : ByteArray} (he : errA f = 0) (w : World) : Calls Try.prog 10 #[.string f, .agg #[.int .i64 0, .int .i64 0, .int .i64 0, .int .i64 0, .int .i64 0, .slice none 0 0], .int .i64 0, .int .i64 32] w fun r w' => ∃ a c, r = .returned (.tuple #[.agg #[.int .i64 (firstN f).sa, .int .i64 (firstN f).su, .int .i64 (firstN f).nx, .int .i64 (firstN f).gt, .int .i64 (firstN f).sl, .slice a 0 c], .string (pieceN (actS f) 0 32), .int .i64 0]) ∧ IsSt w' (.slice a 0 c) [] ∧ Below w.heap.size w w' := by
  obtain ⟨h1, h2⟩ := told_is (f := f) (d := newD) 32 he (show (0 : Int) = nextU newD from rfl)
  have hd : dataS f newD 32 = pieceN (actS f) 0 32 := rfl
  rw [hd] at h1 h2
  refine given (d := newD) (D := firstN f) (okU_parts.2 ⟨mayF_t (imgOk_parts.1 (act_img he)).1, rfl, .inl rfl, by decide, by decide⟩) h1 h2 ?_ _ w (isSt_nil w)
  unfold firstN behindD
  split <;> rfl
theorem first_size {f : ByteArray} {p : FPl} (ha : actO f = some p) : min (32 : Int) p.pz = ((pieceN (actS f) 0 32).size : Int) := by
  obtain ⟨hf, hr, _⟩ := act_rec ha
  obtain ⟨_, _, t0, t1, z0, z1, _⟩ := recMay_parts.1 hr
  have hv := (act_may ha).2.1
  rw [size_pieceN]
  unfold actS
  rw [hv, imgS_ok (imgOk_parts.2 ⟨hf, hr⟩), size_cutI hf t0 t1 (by omega) z1]
  omega
theorem three_ways (f : ByteArray) : (errA f != 0) = true ∨ (errA f = 0 ∧ ∃ p, actO f = some p ∧ actV f = p) := by
  by_cases h : errA f = 0
  · exact .inr ⟨h, act_yes h⟩
  · exact .inl (bne_iff_ne.2 h)
set_option maxRecDepth 100000 in
set_option maxHeartbeats 8000000 in
theorem walk (a0 : ByteArray) (a1 : ByteArray) (w0 : a0.size ≤ maxLen) (w1 : a1.size ≤ maxLen) (w : World) :
    Calls Try.prog 8 #[.string a0, .string a1] w fun e w' => e = .returned (.bool true) ∧ Below w.heap.size w w' := by
  have hB : Below w.heap.size w w := Below.refl _ _
  have C1 := hide (fun w => refActive_any a0 w)
  rcases three_ways a0 with he | ⟨he, P0, ha, hv⟩
  · generalize errA a0 = E at *
    generalize actV a0 = P at *
    go_enter Try.func8, Try.ntmps8
    go_wp2_with (go_at_call 15; refine (UplAwake.awake_any _).mono ?_; rintro e w' ⟨rfl, hb⟩; replace hB := hB.trans (hb.mono hB.size); clear hb)
    refine (C1.out _).mono ?_; rintro e w1 ⟨rfl, hb⟩; replace hB := thenB hB hb; clear hb
    replace hB := thenB hB (hal w1 (.cells #[.int .i64 P.pa, .int .i64 P.pq, .int .i64 P.pt, .int .i64 P.pz, .int .i64 P.pm] 43))
    go_wp2_with fail
    go_ret
    exact ⟨rfl, hB⟩
  · rw [he] at C1
    by_cases hz : 288 < a1.size
    · have hz2 : (288 : Int) < (a1.size : Int) := by omega
      clear hz ha hv he
      generalize actV a0 = P at *
      go_enter Try.func8, Try.ntmps8
      go_wp2_with (go_at_call 15; refine (UplAwake.awake_any _).mono ?_; rintro e w' ⟨rfl, hb⟩; replace hB := hB.trans (hb.mono hB.size); clear hb)
      refine (C1.out _).mono ?_; rintro e w1 ⟨rfl, hb⟩; replace hB := thenB hB hb; clear hb
      replace hB := thenB hB (hal w1 (.cells #[.int .i64 P.pa, .int .i64 P.pq, .int .i64 P.pt, .int .i64 P.pz, .int .i64 P.pm] 43))
      go_wp2_with fail
      go_ret
      exact ⟨rfl, hB⟩
    · have hs := act_slot ha
      have hf : a0.size = 768 := (act_rec ha).1
      obtain ⟨O, hO⟩ : ∃ O : Nat, O = (1 - P0.pt).toNat := ⟨_, rfl⟩
      have hO1 : 1 - P0.pt = (O : Int) := by omega
      have hO2 : O ≤ 1 := by omega
      obtain ⟨p, hp⟩ : ∃ p : Nat, p = 192 + 288 * O := ⟨_, rfl⟩
      have ht : Turned a0 (a0.extract 0 p ++ a1 ++ a0.extract (p + a1.size) a0.size) P0 := turned_put hf hs (by rw [hp, hO]) (by omega)
      have HS : Hid (actV (a0.extract 0 p ++ a1 ++ a0.extract (p + a1.size) a0.size) = P0 → actS (a0.extract 0 p ++ a1 ++ a0.extract (p + a1.size) a0.size) = actS a0) := same_image ha ht
      have hex := turned_some ha ht
      have CQ := hide (fun w => refActive_any (a0.extract 0 p ++ a1 ++ a0.extract (p + a1.size) a0.size) w)
      rw [hex] at CQ
      have HX := hide (fun w => first_told hex w)
      have HF := hide (fun w => first_told he w)
      have CB := hide (fun w => refBase_any (1 - P0.pt) w)
      have hbo : baseOk (1 - P0.pt) = true := baseOk_parts.2 ⟨by omega, by omega⟩
      have hbi : baseI (1 - P0.pt) = (p : Int) := by unfold baseI; rw [if_pos hbo]; omega
      have t0 : 0 ≤ P0.pt := by omega
      have t1 : P0.pt ≤ 1 := by omega
      rw [hbi] at CB
      have CH := hide (fun w => HeldCalls.held20_any w)
      have hh : Held.heldS.size = 768 := size_heldS
      have hsz := first_size ha
      rw [hv] at C1
      have z1 : a0.size ≤ 768 := by omega
      have z2 : 768 ≤ a0.size := by omega
      have z3 : a1.size ≤ 288 := by omega
      have z4 : p ≤ 480 := by omega
      have z7 : p ≤ a0.size := by omega
      have sx : (a0.extract 0 p).size = p := by rw [ByteArray.size_extract]; omega
      have q1 : ¬ 9223372036854775807 < (a0.extract 0 p).size + a1.size := by omega
      have q2 : ¬ 9223372036854775807 < (a0.extract 0 p ++ a1).size + (a0.extract (p + a1.size) a0.size).size := by rw [ByteArray.size_append, ByteArray.size_extract, ByteArray.size_extract]; omega
      have hz2 : decide ((288 : Int) < (a1.size : Int)) = false := decide_eq_false (by omega)
      have br := DevWalk.build_d0
      clear hz ha hv he hf hs hp hO hO1 hO2 hbo hbi ht hex
      generalize errI (baseOk (1 - P0.pt)) = EB at *
      unfold firstN at HX HF
      go_enter Try.func8, Try.ntmps8
      go_wp2_with (go_at_call 15; refine (UplAwake.awake_any _).mono ?_; rintro e w' ⟨rfl, hb⟩; replace hB := hB.trans (hb.mono hB.size); clear hb)
      refine (C1.out _).mono ?_; rintro e w1 ⟨rfl, hb⟩; replace hB := thenB hB hb; clear hb
      have hX := box5M w1 (.int .i64 P0.pa) (.int .i64 P0.pq) (.int .i64 P0.pt) (.int .i64 P0.pz) (.int .i64 P0.pm) 43
      replace hB := thenB hB (hal w1 (.cells #[.int .i64 P0.pa, .int .i64 P0.pq, .int .i64 P0.pt, .int .i64 P0.pz, .int .i64 P0.pm] 43))
      go_upto_region 4 with fail
      generalize w1.alloc _ = W1 at *
      generalize w1.heap.size = B1 at *
      have HXX := hide hX
      unfold Box5 at hX
      go_upto_region 7 with (go_at_call 20; refine (CB.out _).mono ?_; rintro e w' ⟨rfl, rfl⟩)
      clear hX C1 CB t0 t1
      go_quiet (fail)
      replace hB := bel_drewN hB nq
      have hX : Box5 (w'.drewN nq) B1 (.int .i64 P0.pa) (.int .i64 P0.pq) (.int .i64 P0.pt) (.int .i64 P0.pz) (.int .i64 P0.pm) := HXX.out
      clear HXX q1 q2 z1 z2 z3 z4 z7 sx hz2
      generalize w'.drewN nq = W3 at *
      generalize a0.extract 0 p ++ a1 ++ a0.extract (p + a1.size) a0.size = X at *
      generalize actV X = V at *
      go_wp2_with fail
      refine (CQ.out _).mono ?_; rintro e w2 ⟨rfl, hb⟩; replace hB := thenB hB hb; replace hX := box5B hX hb; clear hb CQ
      have hY := box5M w2 (.int .i64 V.pa) (.int .i64 V.pq) (.int .i64 V.pt) (.int .i64 V.pz) (.int .i64 V.pm) 43
      have hn := hal w2 (.cells #[.int .i64 V.pa, .int .i64 V.pq, .int .i64 V.pt, .int .i64 V.pz, .int .i64 V.pm] 43)
      replace hB := thenB hB hn
      replace hX := box5B hX hn
      clear hn
      go_upto_region 9 with fail
      generalize w2.alloc _ = W4 at *
      generalize w2.heap.size = B2 at *
      have HXX := hide hX
      unfold Box5 at hX hY
      rcases ways5 V P0 with g0 | g0 | ⟨g0, g1⟩ | ⟨g0, g1, g2⟩ | ⟨g0, g1, g2, g3⟩ | ⟨g0, g1, g2, g3, g4⟩
      · obtain rfl := same5 g0
        rw [HS.out rfl] at HX
        clear g0 HS
        have hd : (behindD newD (pieceN (actS a0) 0 32).size).ops = [] := by unfold behindD; split <;> rfl
        have C5 := hide (fun u v w h g => sameDev_yes (behindD newD (pieceN (actS a0) 0 32).size) u v w h g)
        rw [hd] at C5
        clear hd
        generalize behindD newD (pieceN (actS a0) 0 32).size = D at *
        generalize pieceN (actS a0) 0 32 = T at *
        have hmn := fun ts t w => UplWalk.run_min2 (P := Try.prog) 32 V.pz (T.size : Int) hsz.symm ts t w
        have f2 : (T.toList == T.toList) = true := beq_self_eq_true _
        generalize heldS = F at *
        obtain ⟨da, du, dn, dg, dl, dx⟩ := D
        dsimp only at HX HF C5
        clear hsz
        go_upto_region 11 with fail
        clear hX hY
        go_wp2_with fail
        refine (HF.out _).mono ?_; rintro e w3 ⟨sa, sc, rfl, hI, hb⟩; replace hB := thenB hB hb; have hX := box5B HXX.out hb; clear hb HXX
        have hQ := resM w3 (.int .i64 da) (.int .i64 du) (.int .i64 dn) (.int .i64 dg) (.int .i64 dl) (.slice sa 0 sc) 24
        have hn := hal w3 (.cells #[.int .i64 da, .int .i64 du, .int .i64 dn, .int .i64 dg, .int .i64 dl, .slice sa 0 sc] 24)
        replace hB := thenB hB hn
        replace hX := box5B hX hn
        replace hI := hI.below hn
        clear hn
        go_upto_region 12 with fail
        generalize w3.alloc _ = W5 at *
        generalize w3.heap.size = G5 at *
        go_wp2_with fail
        refine (HX.out _).mono ?_; rintro e w4 ⟨ta, tc, rfl, hJ, hb⟩; replace hB := thenB hB hb; replace hX := box5B hX hb; replace hQ := resB hQ hb; replace hI := hI.below hb; clear hb
        have hR := resM w4 (.int .i64 da) (.int .i64 du) (.int .i64 dn) (.int .i64 dg) (.int .i64 dl) (.slice ta 0 tc) 24
        have hn := hal w4 (.cells #[.int .i64 da, .int .i64 du, .int .i64 dn, .int .i64 dg, .int .i64 dl, .slice ta 0 tc] 24)
        replace hB := thenB hB hn
        replace hX := box5B hX hn
        replace hQ := resB hQ hn
        replace hI := hI.below hn
        replace hJ := hJ.below hn
        clear hn
        go_upto_region 13 with fail
        generalize w4.alloc _ = W6 at *
        generalize w4.heap.size = G6 at *
        go_wp2_with (go_at_call 13; refine (num_any _ _).mono ?_; rintro e w' ⟨rfl, rfl⟩)
        refine (C5.out _ _ _ hI hJ).mono ?_; rintro e w8 ⟨rfl, hb⟩; replace hB := thenB hB hb; replace hX := box5B hX hb; clear hb
        unfold Box5 at hX
        go_wp2_with (go_at_call 16; refine (CH.out _).mono ?_; rintro e w' ⟨rfl, hb⟩; replace hB := hB.trans (hb.mono hB.size); clear hb)
        go_ret
        exact ⟨rfl, hB⟩
      all_goals
        clear HS HX HF CH hh hsz HXX
        go_wp2_with fail
        go_ret
        exact ⟨rfl, hB⟩

set_option maxRecDepth 100000 in
theorem lifted (os : Os) (started : os.Started) (H : Type) (enc : TypeId × Value → H) :
    ReturnsInHanded {} Try.checked os 8 .any (Rows.uploadElderSpec.pre6 enc Try.prog Try.f8 Rows.uploadElderRow.domain false) (Rows.uploadElderSpec.post enc Try.prog Try.f8 false true false false) := by
  refine returnsInHanded_of_change (C := Try.checked) own started (by kernel_rfl) Try.func8
    (ChangeSpec.witness6 (enc := enc) (C := Try.checked) false ⟨#[], #[.string ByteArray.empty, .string ByteArray.empty], []⟩ 8 (by kernel_rfl) (by kernel_rfl) (by kernel_rfl) (by kernel_rfl)) ?_
  intro W base args ds gs before hval0 hW hcnd _
  have hval : ∀ (j : Nat) t v, Try.f8.params[j]? = some t → args[j]? = some v → Value.okWide Try.prog W .any base t v := hval0
  have hW' := hW
  obtain ⟨p, q, hA0, hV, rfl, hfz, hnd⟩ := hW
  have hA : DataW.TrodAll enc Try.prog W 0 (fun _ => true) true Try.f8.params.toList args.toList ds p := hA0
  rw [Try.params8] at hA hval
  obtain ⟨v0, vs0, d0, ds0, p0, q0, hargs, rfl, rfl, h0, r0⟩ := trodAll_cons hA
  obtain ⟨v1, vs1, d1, ds1, p1, q1, rfl, rfl, rfl, h1, r1⟩ := trodAll_cons r0
  obtain ⟨rfl, rfl, rfl⟩ := trodAll_nil r1
  obtain rfl : args = #[v0, v1] := by cases args; simp_all
  obtain ⟨rfl, rfl⟩ := trodVars_none hV
  obtain ⟨a0, rfl, rfl, rfl, w0⟩ := open_string Try.underlying9 (hval 0 9 v0 rfl rfl) h0
  obtain ⟨a1, rfl, rfl, rfl, w1⟩ := open_string Try.underlying9 (hval 1 9 v1 rfl rfl) h1
  clear hA0 hval0
  refine (walk a0 a1 w0 w1 W).mono fun e W' ⟨he, bel⟩ => ?_
  subst he
  exact ⟨_, rfl, _, _, _, [], _, [], hW', (trodAll_cons_mk (shut_bool Try.underlying4 _) trodAll_mk0), (trodAll_cons_mk (shut_string Try.underlying9 w0) (trodAll_cons_mk (shut_string Try.underlying9 w1) trodAll_mk0)), rfl, bel.frame _, fun h => by cases h⟩

theorem over : Rows.uploadElderRow.holds Try.pinned (OpenSpec.ofChange Rows.uploadElderSpec) :=
  OpenClaim.holds_of_wide 8 Try.f8 rfl rfl rfl rfl rfl rfl rfl ⟨rfl, rfl, rfl, rfl, rfl⟩ rfl rfl rfl rfl rfl (by kernel_rfl) Try.func8 (by kernel_rfl)
    (of_decide_eq_true (by kernel_rfl)) (by unfold Func.isWrapper; first | (rw [if_pos (by decide +kernel)]; kernel_rfl) | (rw [if_neg (by decide +kernel)]; exact ⟨rfl, rfl⟩))
    (fun os started H enc _ => lifted os started H enc)

theorem proved : Rows.UploadElderSaid :=
  over
#print axioms proved
end Go.Proofs.Ythcknngmpcepfaa.uploadElder
