/- Whatever the text and the two numbers: the law TickRow returns true (cut at any step, and its steps done anew from the first one, a slot is as never cut), and the arguments read as they did; no condition. -/
import Derived.Test.YtmbgdidelbkdgaaRows
import Derived.Test.YtmbgdidelbkdgaaBagNor
import Derived.Test.YtmbgdidelbkdgaaBagOps
import Derived.Test.YtmbgdidelbkdgaaBagPla
import Derived.Test.YtmbgdidelbkdgaaBagDev
import Derived.Test.YtmbgdidelbkdgaaBagDnl
import Derived.Test.YtmbgdidelbkdgaaTicMath
import Derived.Test.YtmbgdidelbkdgaaTicRow
import Derived.Test.YtmbgdidelbkdgaaTicStep
import Derived.Test.YtmbgdidelbkdgaaTicCut
import Derived.Test.YtmbgdidelbkdgaaTicDoes
import Derived.Test.YtmbgdidelbkdgaaTicAwake
import Derived.Deep.Cut
import Derived.Deep.CutRange
import Derived.Deep.RegionHeld3
import Derived.Laws.AppendOwnNone
import Derived.Laws.OwnMore
import Derived.ChangeOld
import Derived.Below
import Derived.WalkKit
import Derived.ProofKit
import Derived.OpenShut
import Derived.ShutString
namespace Go.Proofs.Ytmbgdidelbkdgaa.tickRow
open Go.ChangeShapes Go.WideShapes Go.ChangeAt Go.RowKit
open Go.ChangeMaps (open_string shut_string)
set_option linter.unusedVariables false

open Go.Proofs.Ytmbgdidelbkdgaa.Bytes
open Go.Proofs.Ytmbgdidelbkdgaa.Ops
open Go.Proofs.Ytmbgdidelbkdgaa.OpsRow
open Go.Proofs.Ytmbgdidelbkdgaa.Jou
open Go.Proofs.Ytmbgdidelbkdgaa.Act
open Go.Proofs.Ytmbgdidelbkdgaa.Held
open Go.Proofs.Ytmbgdidelbkdgaa.Sta
open Go.Proofs.Ytmbgdidelbkdgaa.Dev
open Go.Proofs.Ytmbgdidelbkdgaa.DevRow
open Go.Proofs.Ytmbgdidelbkdgaa.DevSet
open Go.Proofs.Ytmbgdidelbkdgaa.DevAwake
open Go.Proofs.Ytmbgdidelbkdgaa.Dnl
open Go.Proofs.Ytmbgdidelbkdgaa.DnlDoes
open Go.Proofs.Ytmbgdidelbkdgaa.Tic
open Go.Proofs.Ytmbgdidelbkdgaa.TicRow
open Go.Proofs.Ytmbgdidelbkdgaa.TicDoes
theorem own : ownKnob Try.prog.godebug = none := by kernel_rfl

open Go.Proofs.Ytmbgdidelbkdgaa.OpsWalk (info_op)
theorem tick_round {L : List FOp} (hm : mayAll L = true) (hl : L.length ≤ 768) {f : ByteArray} (hf : f.size = 768) {j : Nat} (hj : j < L.length) (v : Value) (w : World) (hv : IsSt w v (L.drop j)) : Calls Try.prog 10 #[.string (doL f (L.take j)), .agg #[.int .i64 2, .int .i64 0, .int .i64 0, .int .i64 0, .int .i64 0, v]] w fun r w' => ∃ D : FDev, (j + 1 < L.length → D = ⟨2, 0, 0, 0, 0, L.drop (j + 1)⟩) ∧ (¬ j + 1 < L.length → D = ⟨1, 0, 0, 0, 0, []⟩) ∧ ∃ u, r = .returned (.tuple #[.string (doL f (L.take (j + 1))), .agg #[.int .i64 D.sa, .int .i64 D.su, .int .i64 D.nx, .int .i64 D.gt, .int .i64 D.sl, u], .int .i64 0]) ∧ OwnSt w' w.heap.size u D.ops ∧ Below w.heap.size w w' := by
  have hsz := do_size (L.take j) f hf (may_take hm j)
  obtain ⟨t1, t2, t3, t4, _⟩ := at_step (s := 2) (f := doL f (L.take j)) (.inl rfl) (g := 0) (by omega) (by omega) hm hl hsz hj
  have g := TicCut.step_any (doL f (L.take j)) ⟨2, 0, 0, 0, 0, L.drop j⟩ v w hv
  rw [t1, t2, ← doL_take f L j hj] at g
  refine g.mono ?_
  rintro r w' ⟨u, rfl, ho, hb⟩
  exact ⟨_, t3, fun h => (t4 h).trans (set2 0), u, rfl, ho, hb⟩
theorem cut_round {L : List FOp} (hm : mayAll L = true) (hl : L.length ≤ 768) {f : ByteArray} (hf : f.size = 768) {j : Nat} (hj : j < L.length) {c : Int} (h0 : 0 ≤ c) (h1 : c ≤ 96) (v : Value) (w : World) (hv : IsSt w v (L.drop j)) : Calls Try.prog 12 #[.string (doL f (L.take j)), .agg #[.int .i64 2, .int .i64 0, .int .i64 0, .int .i64 0, .int .i64 0, v], .int .i64 c] w fun r w' => r = .returned (.tuple #[.string (cutS (doL f (L.take j)) L[j].er L[j].pl L[j].tx c), .agg #[.int .i64 0, .int .i64 0, .int .i64 0, .int .i64 0, .int .i64 0, .slice none 0 0], .int .i64 0]) ∧ Below w.heap.size w w' := by
  have hsz := do_size (L.take j) f hf (may_take hm j)
  obtain ⟨_, _, _, _, t5⟩ := at_step (s := 2) (f := doL f (L.take j)) (.inl rfl) (g := 0) (by omega) (by omega) hm hl hsz hj
  obtain ⟨e1, e2⟩ := t5 c h0 h1
  have g := TicCut.cut_any (doL f (L.take j)) ⟨2, 0, 0, 0, 0, L.drop j⟩ v c w hv
  rw [e1, e2] at g
  exact g
theorem er3 : (erL 0).length = 3 := by rw [erL_ok (base_of (t := 0) (by omega) (by omega)).1, length_erTo]
theorem cut_size {L : List FOp} (hm : mayAll L = true) {f : ByteArray} (hf : f.size = 768) {j : Nat} (hj : j < L.length) {c : Int} (h0 : 0 ≤ c) (h1 : c ≤ 96) : (cutS (doL f (L.take j)) L[j].er L[j].pl L[j].tx c).size = 768 :=
  size_cutS (cutOk_parts.2 ⟨do_size (L.take j) f hf (may_take hm j), mayAll_get hm hj, h0, h1⟩)
theorem text_is {a b : ByteArray} (h : a = b) : (a.toList == b.toList) = true := by rw [h]; exact beq_iff_eq.2 rfl
theorem ways (t : ByteArray) : wordsOk 192 t = false ∨ (wordsOk 192 t = true ∧ 288 < (t.size : Int)) ∨ (wordsOk 192 t = true ∧ ¬ 288 < (t.size : Int)) := by
  cases wordsOk 192 t with
  | false => exact .inl rfl
  | true =>
    by_cases h : 288 < (t.size : Int)
    · exact .inr (.inl ⟨rfl, h⟩)
    · exact .inr (.inr ⟨rfl, h⟩)
set_option maxRecDepth 100000 in
set_option maxHeartbeats 8000000 in
theorem walk (a0 : ByteArray) (a1 : Int) (a2 : Int) (w0 : a0.size ≤ maxLen) (w1 : (Lit.int .i64 a1).wf = true) (w2 : (Lit.int .i64 a2).wf = true) (w : World) :
    Calls Try.prog 8 #[.string a0, .int .i64 a1, .int .i64 a2] w fun e w' => e = .returned (.bool true) ∧ Below w.heap.size w w' := by
  have hB : Below w.heap.size w w := Below.refl _ _
  have C0 := hide (fun w => StaWalk.refErases_any 0 w)
  have C2 := hide (fun w => OpsHelp.refWords_any 192 a0 w)
  have e0 : errO true = 0 := rfl
  have e1 : errO false = 300 := rfl
  rw [er3] at C0
  generalize errG (baseOk 0) = E0 at *
  rcases ways a0 with hw | ⟨hw, hs⟩ | ⟨hw, hs⟩
  iterate 2
    · rw [hw] at C2
      clear hw
      generalize wordsL 192 a0 = L at *
      generalize erL 0 = M at *
      go_enter Try.func8, Try.ntmps8
      go_wp2_with (go_at_call 17; refine (TicAwake.awake_any _).mono ?_; rintro e w' ⟨rfl, hb⟩; replace hB := hB.trans (hb.mono hB.size); clear hb)
      refine (C0.out _).mono ?_; rintro e w1 ⟨v, rfl, hown, hb⟩; replace hB := thenB hB hb; clear hb
      obtain ⟨p1, q1, rfl⟩ := DnlCopy.owns_form hown
      go_wp2_with fail
      refine (C2.out _).mono ?_; rintro e w2 ⟨v, rfl, hown, hb⟩; replace hB := thenB hB hb; clear hb
      obtain ⟨p2, q2, rfl⟩ := DnlCopy.owns_form hown
      go_wp2_with fail
      go_ret
      exact ⟨rfl, hB⟩
  have ht : a0.size ≤ 288 := by omega
  obtain ⟨hlen, hl75⟩ := row_len ht
  obtain ⟨i, hi, hz0, hz1, hz2⟩ := info_parts info_op
  obtain ⟨c, hc, mc⟩ : ∃ k : Nat, k < 97 ∧ wrap64 ((IntKind.u64.wrap a2).tmod 97) = (k : Int) := mod_u64 a2 97 (by omega) (by omega)
  rw [hw] at C2
  have hm : mayAll (erL 0 ++ wordsL 192 a0) = true := may_append (may_erases 0) may_words
  have hfl : ∀ x y : List FOp, flat x ++ flat y = flat (x ++ y) := fun x y => (flat_append x y).symm
  have hWl : 3 + (wordsL 192 a0).length = (erL 0 ++ wordsL 192 a0).length := by rw [List.length_append, er3]
  obtain ⟨L, hL⟩ : ∃ L, L = erL 0 ++ wordsL 192 a0 := ⟨_, rfl⟩
  obtain ⟨n, hn⟩ : ∃ n : Nat, L.length = n := ⟨_, rfl⟩
  have hLn := hn
  rw [← hL] at hm hWl hlen
  rw [hn] at hWl hlen
  have hn3 : 3 ≤ n := by omega
  have hn75 : n ≤ 75 := by omega
  obtain ⟨k, hk, mk⟩ := mod_u64 a1 n (by omega) (by omega)
  have wn : IntKind.u64.wrap (n : Int) = (n : Int) := by
    have e : IntKind.u64.wrap (n : Int) = (n : Int) % 18446744073709551616 := by simp [IntKind.wrap, IntKind.bits, IntKind.signed]
    rw [e]; omega
  have HL := hide hn
  have hkL : k < L.length := by rw [hn]; exact hk
  have HR1 := hide fun (j : Nat) (hj : j < L.length) => tick_round hm (by omega) Nor.size_blankS hj
  have HC := hide (cut_round hm (by omega) Nor.size_blankS hkL (c := (c : Int)) (by omega) (by omega))
  have hX := cut_size hm Nor.size_blankS hkL (c := (c : Int)) (by omega) (by omega)
  have HF := hide (row_done ht hL hkL (c := (c : Int)) (by omega) (by omega) rfl)
  have HR2 := hide fun (j : Nat) (hj : j < L.length) => tick_round hm (by omega) hX hj
  generalize cutS (doL Nor.blankS (L.take k)) L[k].er L[k].pl L[k].tx (c : Int) = X at *
  have hGn : doL X (L.take n) = doL X L := by rw [← hn, List.take_length]
  have hG0 : doL Nor.blankS (L.take 0) = Nor.blankS := by rw [List.take_zero]; rfl
  have hH0 : doL X (L.take 0) = X := by rw [List.take_zero]; rfl
  obtain ⟨G, hG⟩ : ∃ G : Nat → ByteArray, ∀ j, doL Nor.blankS (L.take j) = G j := ⟨_, fun _ => rfl⟩
  obtain ⟨H, hH⟩ : ∃ H : Nat → ByteArray, ∀ j, doL X (L.take j) = H j := ⟨_, fun _ => rfl⟩
  simp only [hG] at HR1 HC hG0
  simp only [hH] at HR2 hGn hH0
  rw [← hGn] at HF
  clear hG hH hGn hX
  have HD : Hid (∀ j, (L.drop j).length = n - j) := fun j => by rw [List.length_drop, hn]
  have HN : Hid (L.drop 0 = L) := List.drop_zero
  have hbs : Nor.blankS.size ≤ 768 := by rw [Nor.size_blankS]; omega
  have hbs2 : 768 ≤ Nor.blankS.size := by rw [Nor.size_blankS]; omega
  have C1 := hide (fun w => NorRef.refBlank_any w)
  generalize Nor.blankS = BS at *
  have HFL : Hid (flat (erL 0) ++ flat (wordsL 192 a0) = flat L) := by rw [hL]; exact hfl _ _
  clear hfl hm hn hkL hLn hL hw hlen
  have HE3 : Hid ((flat (erL 0)).length = 3 * 3) := by show (flat (erL 0)).length = 3 * 3; rw [length_flat, er3]
  generalize hLW : wordsL 192 a0 = LW at *
  generalize hLE : erL 0 = LE at *
  clear hLW hLE
  have hWn : LW.length ≤ 72 := by omega
  go_enter Try.func8, Try.ntmps8
  go_wp2_with (go_at_call 17; refine (TicAwake.awake_any _).mono ?_; rintro e w' ⟨rfl, hb⟩; replace hB := hB.trans (hb.mono hB.size); clear hb)
  refine (C0.out _).mono ?_; rintro e w1 ⟨v, rfl, hes, hb⟩; replace hB := thenB hB hb; clear hb C0
  obtain ⟨b1, cap1, rfl, _, _⟩ := hes.form (by omega)
  go_wp2_with fail
  refine (C2.out _).mono ?_; rintro e w2 ⟨v, rfl, hws, hb⟩; replace hB := thenB hB hb; replace hes := owns_below hes hb; clear hb C2
  obtain ⟨p2, q2, rfl⟩ := DnlCopy.owns_form hws
  go_upto_region 7 with fail
  have hnew : (w2.alloc (.cells #[] 40)).ownsRow w2.heap.size 40 3 (.slice (some ⟨w2.heap.size, 0, none⟩) 0 0) 0 [] := ⟨rfl, .inr ⟨_, _, #[], rfl, Nat.le_refl _, heap_alloc_new w2 _, Nat.le_refl _, Nat.zero_le _, rfl, rfl⟩⟩
  have hn0 := hal w2 (.cells #[] 40)
  have hns := news_of (owns_below hes hn0)
  clear hes hn0
  go_upto_region 8 with (at_builtin; refine wpList_append_own_at _ rfl _ _ _ rfl w2.heap.size 40 i _ 3 32 Try.underlying22 hi hz0 hz1 hz2 rfl (by omega) _ 0 _ rfl hnew ⟨b1, 0, none⟩ 3 cap1 (flat LE) rfl (HE3.out) hns (flat_oneCell LE) (by unfold maxLen; omega) (by omega) (by simp) ?_; intro v' w3 hall hgrow _ _; rw [Nat.zero_add, List.nil_append] at hall; obtain ⟨b3, cap3, rfl, _, _⟩ := hall.form (by omega); have hb1 := ((Below.refl w2.heap.size w2).alloc (Nat.le_refl _) (.cells #[] 40)).grown hgrow (by simp) (fun k hk => by obtain rfl := Option.some.inj hk; exact Nat.le_refl _))
  have hB0 := hB.size
  replace hB := thenB hB hb1
  have hsw := hB0
  have hs3 := hb1.size
  replace hws := owns_below hws hb1
  clear hb1 hgrow hns hnew
  go_cut [11] from 46 to 48 (fun s11 wx => Below w.heap.size w wx ∧ ∃ g cap, s11 = .slice (some ⟨g, 0, none⟩) n cap ∧ wx.ownsRow w2.heap.size 40 3 (.slice (some ⟨g, 0, none⟩) n cap) n (flat L))
  case first =>
    rcases hws.2 with ⟨hnil, hzero⟩ | ⟨g, cap, cur, hsl, _⟩
    · have hlz : LW.length = 0 := by injection hnil
      have hn3' : n = 3 := by omega
      have hflat : flat LE = flat L := by have h := HFL.out; rw [List.eq_nil_of_length_eq_zero hlz, show flat ([] : List FOp) = [] from rfl, List.append_nil] at h; exact h
      have hall2 := hall
      rw [hflat, ← hn3'] at hall2
      have HS := hide hn3'
      have HZ := hide hnil
      clear hws hnil hzero hflat hlz hn3'
      go_wp2_with (at_builtin; refine wpList_append_own_none rfl _ _ _ rfl w2.heap.size 40 i 3 Try.underlying22 hi _ 3 _ rfl hall HZ.out ?_)
      go_meet
      exact ⟨hB, b3, cap3, (by rw [HS.out]), by have h := hall2; rwa [HS.out] at h ⊢⟩
    · injection hsl with h1 h2 h3
      subst h1 h3
      have hns2 := news_of hws
      clear h2 hws
      go_wp2_with (at_builtin; refine wpList_append_own_at _ rfl _ _ _ rfl w2.heap.size 40 i _ 3 32 Try.underlying22 hi hz0 hz1 hz2 rfl (by omega) _ 3 _ rfl hall ⟨g, 0, none⟩ LW.length q2 (flat LW) rfl (length_flat LW) hns2 (flat_oneCell LW) (by unfold maxLen; omega) (by omega) hs3 ?_; intro v' w4 hall2 hgrow _ _; obtain ⟨b4, cap4, rfl, _, _⟩ := hall2.form (by omega); have hb2 := (Below.refl w2.heap.size w3).grown hgrow hs3 (fun k hk => (hall.lt k hk).1))
      go_meet
      rw [hWl, HFL.out] at hall2
      exact ⟨hB.trans (hb2.mono hsw), b4, cap4, (by first | rfl | rw [hWl]), hall2⟩
  case rest =>
    clear hB hall hws
    obtain ⟨hB, b, cap, rfl, hall⟩ := hcut
    clear hWl HFL HE3 hWn hs3 hsw e0 e1 hs ht
    have bs := TicAwake.build_so
    go_upto_region 11 with (go_at_call 18; refine (C1.out _).mono ?_; rintro e w5 ⟨rfl, hb⟩; replace hB := thenB hB hb; replace hall := owns_below hall hb; clear hb)
    obtain ⟨hq, hlt0, hin⟩ := owns_in hall
    clear hq
    have hIs := ownsS_is hall
    clear hall
    have hRB := resM w5 (.int .i64 2) (.int .i64 0) (.int .i64 0) (.int .i64 0) (.int .i64 0) (.slice (some ⟨b, 0, none⟩) n cap) 24
    have hn0 := hal w5 (.cells #[.int .i64 2, .int .i64 0, .int .i64 0, .int .i64 0, .int .i64 0, .slice (some ⟨b, 0, none⟩) n cap] 24)
    have hI0 := hIs.below hn0
    go_upto_region 12 with fail
    have HB := hide hB
    have HIS := hide hIs
    clear hB hIs
    generalize w5.alloc _ = W1 at *
    obtain ⟨B, hBB⟩ : ∃ B : Nat, w5.heap.size = B := ⟨_, rfl⟩
    rw [hBB] at hRB hn0 hlt0 ⊢
    have HBB := hide hBB
    clear hBB
    go_wp2_with fail
    go_loopw [13, 15] (fun s13 x wr => ∃ j : Nat, j ≤ k ∧ x = .int .i64 j ∧ s13 = .string (G j) ∧ Below B w5 wr ∧ ∃ a c, Res wr B (.int .i64 2) (.int .i64 0) (.int .i64 0) (.int .i64 0) (.int .i64 0) (.slice a (n - j) c) ∧ IsSt wr (.slice a (n - j) c) (L.drop j)) (fun _ x _ => k - (intOf x).toNat)
    case atStart => exact ⟨0, Nat.zero_le _, rfl, by rw [hG0], hn0, _, _, hRB, by rw [HN.out]; exact hI0⟩
    case round =>
      obtain ⟨j, hj, rfl, rfl, hbel, a, ca, hX, hI⟩ := hrel
      clear hRB hI0 hn0 hG0
      by_cases hlt : j < k
      · have r2 := HR1.out j (by rw [HL.out]; omega)
        have R2 := hide r2
        clear r2 HR1 HR2 HC HF
        have hlt2 : B < wr.heap.size := hX.1
        go_wp2_with fail
        refine (R2.out _ _ hI).mono ?_; rintro e u3 ⟨D, hD1, hD2, u, rfl, ho, hb⟩; replace hbel := hbel.trans (hb.mono (Nat.le_of_lt hlt2)); replace hX := resB hX hb; clear hb hI R2
        obtain rfl := hD1 (by rw [HL.out]; omega)
        clear hD1 hD2
        dsimp only at ho ⊢
        obtain ⟨m, hmm⟩ : ∃ m : Nat, n - (j + 1) = m := ⟨_, rfl⟩
        obtain ⟨p2, q2, hv⟩ := ho.form
        rw [HD.out (j + 1), hmm] at hv
        subst hv
        have HM := hide hmm
        clear hmm
        have hA := resM u3 (.int .i64 2) (.int .i64 0) (.int .i64 0) (.int .i64 0) (.int .i64 0) (.slice p2 m q2) 24
        have hn0 := hal u3 (.cells #[.int .i64 2, .int .i64 0, .int .i64 0, .int .i64 0, .int .i64 0, .slice p2 m q2] 24)
        replace hbel := hbel.trans (hn0.mono (Nat.le_of_lt hX.1))
        replace hX := resB hX hn0
        replace ho := ho.below hn0
        clear hn0
        go_upto_region 16 with fail
        generalize u3.alloc _ = W3 at *
        generalize u3.heap.size = G3 at *
        have HO := hide ho
        have HE := hide hbel
        clear ho hbel
        go_wp2_with (go_at_call 15; refine (DevHelp.num_any _ _).mono ?_; rintro e w' ⟨rfl, rfl⟩)
        exact ⟨⟨j + 1, by omega, by go_num, rfl, set6 HE.out (Nat.le_refl B), p2, q2, by rw [HM.out]; exact res6 hX (.int .i64 2) (.int .i64 0) (.int .i64 0) (.int .i64 0) (.int .i64 0) (.slice p2 m q2), by rw [HM.out]; exact (HO.out.set6 hlt2 (.int .i64 2) (.int .i64 0) (.int .i64 0) (.int .i64 0) (.int .i64 0) (.slice p2 m q2)).is⟩, by simp [intOf]; omega⟩
      · obtain rfl : j = k := by omega
        clear hlt hj
        have hlt2 : B < wr.heap.size := hX.1
        go_upto_region 20 with fail
        go_wp2_with fail
        refine (HC.out _ _ hI).mono ?_; rintro e u2 ⟨rfl, hb⟩; replace hbel := hbel.trans (hb.mono (Nat.le_of_lt hlt2)); replace hX := resB hX hb; clear hb hI HC HR1
        have hn0 := hal u2 (.cells #[.int .i64 0, .int .i64 0, .int .i64 0, .int .i64 0, .int .i64 0, .slice none 0 0] 24)
        replace hbel := hbel.trans (hn0.mono (Nat.le_of_lt hX.1))
        replace hX := resB hX hn0
        clear hn0
        go_upto_region 21 with fail
        generalize u2.alloc _ = W3 at *
        generalize u2.heap.size = G3 at *
        have HE := hide hbel
        clear hbel
        go_upto_region 22 with fail
        replace hX := res6 hX (.int .i64 2) (.int .i64 0) (.int .i64 0) (.int .i64 0) (.int .i64 0) (.slice (some ⟨b, 0, none⟩) n cap)
        have hbel := set6 (x0 := .int .i64 2) (x1 := .int .i64 0) (x2 := .int .i64 0) (x3 := .int .i64 0) (x4 := .int .i64 0) (x5 := .slice (some ⟨b, 0, none⟩) n cap) HE.out (Nat.le_refl B)
        clear HE
        generalize (((((W3.setCell _ _).setCell _ _).setCell _ _).setCell _ _).setCell _ _).setCell _ _ = W4 at *
        have hbw : Below w5.heap.size w5 W4 := by rw [HBB.out]; exact hbel
        have hI2 := HIS.out.below hbw
        clear hbw hin
        go_wp2_with fail
        go_loopw [13, 21] (fun s13 x wr => ∃ j : Nat, j ≤ n ∧ x = .int .i64 j ∧ s13 = .string (H j) ∧ Below B w5 wr ∧ ((j < n ∧ ∃ a c, Res wr B (.int .i64 2) (.int .i64 0) (.int .i64 0) (.int .i64 0) (.int .i64 0) (.slice a (n - j) c) ∧ IsSt wr (.slice a (n - j) c) (L.drop j)) ∨ (j = n ∧ ∃ a c, Res wr B (.int .i64 1) (.int .i64 0) (.int .i64 0) (.int .i64 0) (.int .i64 0) (.slice a 0 c)))) (fun _ x _ => n - (intOf x).toNat)
        case atStart => exact ⟨0, Nat.zero_le _, rfl, by rw [hH0], hbel, .inl ⟨by omega, _, _, hX, by rw [HN.out]; exact hI2⟩⟩
        case round =>
          clear hX hbel hI2 hH0
          obtain ⟨q, hq, rfl, rfl, hbel, hcase⟩ := hrel
          by_cases hlt : q < n
          · rcases hcase with ⟨_, a, ca, hX, hI⟩ | ⟨h, _⟩
            · have r2 := HR2.out q (by rw [HL.out]; exact hlt)
              have R2 := hide r2
              clear r2 HR2 HF
              have hlt3 : B < wr.heap.size := hX.1
              go_wp2_with fail
              refine (R2.out _ _ hI).mono ?_; rintro e u3 ⟨D, hD1, hD2, u, rfl, ho, hb⟩; replace hbel := hbel.trans (hb.mono (Nat.le_of_lt hlt3)); replace hX := resB hX hb; clear hb hI R2
              by_cases h1 : q + 1 < n
              · obtain rfl := hD1 (by rw [HL.out]; exact h1)
                clear hD1 hD2
                dsimp only at ho ⊢
                obtain ⟨m, hmm⟩ : ∃ m : Nat, n - (q + 1) = m := ⟨_, rfl⟩
                obtain ⟨p2, q2, hv⟩ := ho.form
                rw [HD.out (q + 1), hmm] at hv
                subst hv
                have HM := hide hmm
                clear hmm
                have hA := resM u3 (.int .i64 2) (.int .i64 0) (.int .i64 0) (.int .i64 0) (.int .i64 0) (.slice p2 m q2) 24
                have hn0 := hal u3 (.cells #[.int .i64 2, .int .i64 0, .int .i64 0, .int .i64 0, .int .i64 0, .slice p2 m q2] 24)
                replace hbel := hbel.trans (hn0.mono (Nat.le_of_lt hX.1))
                replace hX := resB hX hn0
                replace ho := ho.below hn0
                clear hn0
                go_upto_region 26 with fail
                generalize u3.alloc _ = W5 at *
                generalize u3.heap.size = G5 at *
                have HO := hide ho
                have HE := hide hbel
                clear ho hbel
                go_wp2_with (go_at_call 15; refine (DevHelp.num_any _ _).mono ?_; rintro e w' ⟨rfl, rfl⟩)
                exact ⟨⟨q + 1, by omega, by go_num, rfl, set6 HE.out (Nat.le_refl B), .inl ⟨h1, p2, q2, by rw [HM.out]; exact res6 hX (.int .i64 2) (.int .i64 0) (.int .i64 0) (.int .i64 0) (.int .i64 0) (.slice p2 m q2), by rw [HM.out]; exact (HO.out.set6 hlt3 (.int .i64 2) (.int .i64 0) (.int .i64 0) (.int .i64 0) (.int .i64 0) (.slice p2 m q2)).is⟩⟩, by simp [intOf]; omega⟩
              · obtain rfl := hD2 (by rw [HL.out]; exact h1)
                clear hD1 hD2
                dsimp only at ho ⊢
                obtain ⟨p2, q2, hv⟩ := ho.form
                rw [show ([] : List FOp).length = 0 from rfl] at hv
                subst hv
                have hA := resM u3 (.int .i64 1) (.int .i64 0) (.int .i64 0) (.int .i64 0) (.int .i64 0) (.slice p2 0 q2) 24
                have hn0 := hal u3 (.cells #[.int .i64 1, .int .i64 0, .int .i64 0, .int .i64 0, .int .i64 0, .slice p2 0 q2] 24)
                replace hbel := hbel.trans (hn0.mono (Nat.le_of_lt hX.1))
                replace hX := resB hX hn0
                clear hn0 ho
                go_upto_region 26 with fail
                generalize u3.alloc _ = W5 at *
                generalize u3.heap.size = G5 at *
                have HE := hide hbel
                clear hbel
                go_wp2_with (go_at_call 15; refine (DevHelp.num_any _ _).mono ?_; rintro e w' ⟨rfl, rfl⟩)
                exact ⟨⟨q + 1, by omega, by go_num, rfl, set6 HE.out (Nat.le_refl B), .inr ⟨by omega, p2, q2, res6 hX (.int .i64 1) (.int .i64 0) (.int .i64 0) (.int .i64 0) (.int .i64 0) (.slice p2 0 q2)⟩⟩, by simp [intOf]; omega⟩
            · omega
          · rcases hcase with ⟨h, _⟩ | ⟨rfl, a, ca, hX⟩
            · omega
            · clear HR2
              go_wp2_with fail
              obtain ⟨f0, f1, f2, f3⟩ := HF.out
              generalize H q = F at *
              obtain ⟨p, hp⟩ : ∃ p : Nat, 192 + a0.size = p := ⟨_, rfl⟩
              rw [hp] at f1 f3
              have p1 : (192 : Int) + (a0.size : Int) = (p : Int) := by omega
              have p2 : IntKind.i64.wrap (p : Int) = (p : Int) := by rw [IntKind.wrap_i64]; omega
              have p3 : (192 : Int) ≤ (p : Int) := by omega
              have p4 : (p : Int) ≤ (F.size : Int) := by omega
              have p5 : (192 : Int) ≤ (F.size : Int) := by omega
              have p6 : (192 : Int) ≤ (BS.size : Int) := by omega
              have p7 : (p : Int) ≤ (BS.size : Int) := by omega
              have y0 : ((F.size : Int) == 768) = true := by rw [f0]; rfl
              have y1 := text_is f1
              have y2 := text_is f2
              have hbs3 : BS.size = 768 := by omega
              have y3 : ((F.extract p F.size).toList == (BS.extract p BS.size).toList) = true := by rw [f0, hbs3]; exact text_is f3
              have hBw : Below w5.heap.size w5 wr := by rw [HBB.out]; exact hbel
              have hB := thenB HB.out hBw
              clear f0 f1 f2 f3 HF hBw hbel hp hbs hbs2 hbs3 HB HBB HIS
              go_region_held3 (fun W => W.cell? ⟨B, 0, none⟩ = some (.int .i64 1)) (go_keep) (first | (go_at_call 15; refine (DevHelp.num_any _ _).mono ?_; rintro e w' ⟨rfl, rfl⟩) | (go_at_call 18; refine (C1.out _).mono ?_; rintro e w7 ⟨rfl, hb⟩; replace hB := thenD hb hB rfl rfl rfl rfl; replace hX := resD hb hX; clear hb) | (go_at_call 21; refine (TicSent.sent18_any _).mono ?_; rintro e w8 ⟨sk, ck, rfl, _, hb⟩; have br2 := DnlHelp.field_sent sk ck; replace hB := thenD hb hB rfl rfl rfl rfl; replace hX := resD hb hX; clear hb))
              go_wp2_with fail
              go_ret
              exact ⟨rfl, hB⟩

set_option maxRecDepth 100000 in
theorem lifted (os : Os) (started : os.Started) (H : Type) (enc : TypeId × Value → H) :
    ReturnsInHanded {} Try.checked os 8 .any (Rows.tickRowSpec.pre6 enc Try.prog Try.f8 Rows.tickRowRow.domain false) (Rows.tickRowSpec.post enc Try.prog Try.f8 false true false false) := by
  refine returnsInHanded_of_change (C := Try.checked) own started (by kernel_rfl) Try.func8
    (ChangeSpec.witness6 (enc := enc) (C := Try.checked) false ⟨#[], #[.string ByteArray.empty, .int .i64 0, .int .i64 0], []⟩ 8 (by kernel_rfl) (by kernel_rfl) (by kernel_rfl) (by kernel_rfl)) ?_
  intro W base args ds gs before hval0 hW hcnd _
  have hval : ∀ (j : Nat) t v, Try.f8.params[j]? = some t → args[j]? = some v → Value.okWide Try.prog W .any base t v := hval0
  have hW' := hW
  obtain ⟨p, q, hA0, hV, rfl, hfz, hnd⟩ := hW
  have hA : DataW.TrodAll enc Try.prog W 0 (fun _ => true) true Try.f8.params.toList args.toList ds p := hA0
  rw [Try.params8] at hA hval
  obtain ⟨v0, vs0, d0, ds0, p0, q0, hargs, rfl, rfl, h0, r0⟩ := trodAll_cons hA
  obtain ⟨v1, vs1, d1, ds1, p1, q1, rfl, rfl, rfl, h1, r1⟩ := trodAll_cons r0
  obtain ⟨v2, vs2, d2, ds2, p2, q2, rfl, rfl, rfl, h2, r2⟩ := trodAll_cons r1
  obtain ⟨rfl, rfl, rfl⟩ := trodAll_nil r2
  obtain rfl : args = #[v0, v1, v2] := by cases args; simp_all
  obtain ⟨rfl, rfl⟩ := trodVars_none hV
  obtain ⟨a0, rfl, rfl, rfl, w0⟩ := open_string Try.underlying9 (hval 0 9 v0 rfl rfl) h0
  obtain ⟨a1, rfl, rfl, rfl, w1⟩ := open_int Try.underlying3 (hval 1 3 v1 rfl rfl) h1
  obtain ⟨a2, rfl, rfl, rfl, w2⟩ := open_int Try.underlying3 (hval 2 3 v2 rfl rfl) h2
  clear hA0 hval0
  refine (walk a0 a1 a2 w0 w1 w2 W).mono fun e W' ⟨he, bel⟩ => ?_
  subst he
  exact ⟨_, rfl, _, _, _, [], _, [], hW', (trodAll_cons_mk (shut_bool Try.underlying4 _) trodAll_mk0), (trodAll_cons_mk (shut_string Try.underlying9 w0) (trodAll_cons_mk (shut_int Try.underlying3 w1) (trodAll_cons_mk (shut_int Try.underlying3 w2) trodAll_mk0))), rfl, bel.frame _, fun h => by cases h⟩

theorem over : Rows.tickRowRow.holds Try.pinned (OpenSpec.ofChange Rows.tickRowSpec) :=
  OpenClaim.holds_of_wide 8 Try.f8 rfl rfl rfl rfl rfl rfl rfl ⟨rfl, rfl, rfl, rfl, rfl⟩ rfl rfl rfl rfl rfl (by kernel_rfl) Try.func8 (by kernel_rfl)
    (of_decide_eq_true (by kernel_rfl)) (by unfold Func.isWrapper; first | (rw [if_pos (by decide +kernel)]; kernel_rfl) | (rw [if_neg (by decide +kernel)]; exact ⟨rfl, rfl⟩))
    (fun os started H enc _ => lifted os started H enc)

theorem proved : Rows.TickRowSaid :=
  over
#print axioms proved
end Go.Proofs.Ytmbgdidelbkdgaa.tickRow
