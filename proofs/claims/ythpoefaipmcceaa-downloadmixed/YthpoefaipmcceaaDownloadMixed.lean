/- Whatever the two texts and the number: the law DownloadMixed returns true (behind an abort a new carrying keeps nothing of the elder one), and the arguments read as they did; no condition. -/
import Derived.Test.YthpoefaipmcceaaRows
import Derived.Test.YthpoefaipmcceaaBagNor
import Derived.Test.YthpoefaipmcceaaBagOps
import Derived.Test.YthpoefaipmcceaaBagDev
import Derived.Test.YthpoefaipmcceaaBagDnl
import Derived.Test.YthpoefaipmcceaaBagRow
import Derived.Test.YthpoefaipmcceaaDnlAwake
import Derived.Deep.RegionHeld3
import Derived.Deep.RegionWith
import Derived.Deep.Cut
import Derived.Deep.CutRange
import Derived.ChangeOld
import Derived.Below
import Derived.WalkKit
import Derived.ProofKit
import Derived.OpenShut
import Derived.ShutString
namespace Go.Proofs.Ythpoefaipmcceaa.downloadMixed
open Go.ChangeShapes Go.WideShapes Go.ChangeAt Go.RowKit
open Go.ChangeMaps (open_string shut_string)
set_option linter.unusedVariables false

open Go.Proofs.Ythpoefaipmcceaa.Bytes
open Go.Proofs.Ythpoefaipmcceaa.Ops
open Go.Proofs.Ythpoefaipmcceaa.Jou
open Go.Proofs.Ythpoefaipmcceaa.Act
open Go.Proofs.Ythpoefaipmcceaa.Held
open Go.Proofs.Ythpoefaipmcceaa.Cho
open Go.Proofs.Ythpoefaipmcceaa.Sta
open Go.Proofs.Ythpoefaipmcceaa.Dev
open Go.Proofs.Ythpoefaipmcceaa.DevRow
open Go.Proofs.Ythpoefaipmcceaa.DevSet
open Go.Proofs.Ythpoefaipmcceaa.DevHelp
open Go.Proofs.Ythpoefaipmcceaa.DevAwake
open Go.Proofs.Ythpoefaipmcceaa.Dnl
open Go.Proofs.Ythpoefaipmcceaa.DnlMore
open Go.Proofs.Ythpoefaipmcceaa.DnlDoes
theorem own : ownKnob Try.prog.godebug = none := by kernel_rfl

open Go.Proofs.Ythpoefaipmcceaa.OpsRow (thenD)
open Go.Proofs.Ythpoefaipmcceaa.NorRef (refBlank_any)
theorem text_is {a b : ByteArray} (h : a = b) : (a.toList == b.toList) = true := by rw [h]; exact beq_iff_eq.2 rfl
theorem ways (n m : Nat) : (n : Int) < 32 ∨ (¬ (n : Int) < 32 ∧ 288 < (n : Int)) ∨ (¬ (n : Int) < 32 ∧ ¬ 288 < (n : Int) ∧ (m : Int) < 1) ∨ (¬ (n : Int) < 32 ∧ ¬ 288 < (n : Int) ∧ ¬ (m : Int) < 1 ∧ 32 < (m : Int)) ∨ (¬ (n : Int) < 32 ∧ ¬ 288 < (n : Int) ∧ ¬ (m : Int) < 1 ∧ ¬ 32 < (m : Int)) := by omega
/-- Behind the call, where the result's box was made ahead of it. -/
theorem pre1 {w wr u2 : World} {B n : Nat} {x0 x1 x2 x3 x4 x5 v : Value} {xs : List Value} (hb : Below ((wr.alloc (.cells #[.int .i64 0, .int .i64 0, .int .i64 0, .int .i64 0, .int .i64 0, .slice none 0 0] 24)).drew).heap.size ((wr.alloc (.cells #[.int .i64 0, .int .i64 0, .int .i64 0, .int .i64 0, .int .i64 0, .slice none 0 0] 24)).drew) u2) (hX : Res wr B x0 x1 x2 x3 x4 x5) (hB : Below w.heap.size w wr) (hO : u2.ownsRow ((wr.alloc (.cells #[.int .i64 0, .int .i64 0, .int .i64 0, .int .i64 0, .int .i64 0, .slice none 0 0] 24)).drew).heap.size 44 3 v n xs) : Res u2 wr.heap.size (.int .i64 0) (.int .i64 0) (.int .i64 0) (.int .i64 0) (.int .i64 0) (.slice none 0 0) ∧ Res u2 B x0 x1 x2 x3 x4 x5 ∧ Below w.heap.size w u2 ∧ u2.ownsRow (wr.heap.size + 1) 44 3 v n xs := by
  have hb' : Below (wr.alloc (.cells #[.int .i64 0, .int .i64 0, .int .i64 0, .int .i64 0, .int .i64 0, .slice none 0 0] 24)).heap.size (wr.alloc (.cells #[.int .i64 0, .int .i64 0, .int .i64 0, .int .i64 0, .int .i64 0, .slice none 0 0] 24)) u2 := ⟨hb.os, hb.tape, hb.output, hb.size, hb.block⟩
  refine ⟨resB (resM wr (.int .i64 0) (.int .i64 0) (.int .i64 0) (.int .i64 0) (.int .i64 0) (.slice none 0 0) 24) hb', resB (resB hX (hal wr (.cells #[.int .i64 0, .int .i64 0, .int .i64 0, .int .i64 0, .int .i64 0, .slice none 0 0] 24))) hb', thenB (thenB hB (hal wr (.cells #[.int .i64 0, .int .i64 0, .int .i64 0, .int .i64 0, .int .i64 0, .slice none 0 0] 24))) hb', ?_⟩
  have e : ((wr.alloc (.cells #[.int .i64 0, .int .i64 0, .int .i64 0, .int .i64 0, .int .i64 0, .slice none 0 0] 24)).drew).heap.size = wr.heap.size + 1 := by show (wr.alloc (.cells #[.int .i64 0, .int .i64 0, .int .i64 0, .int .i64 0, .int .i64 0, .slice none 0 0] 24)).heap.size = _; simp
  rw [e] at hO
  exact hO
theorem pre2 {w wr u2 : World} {B n : Nat} {x0 x1 x2 x3 x4 x5 v : Value} {xs : List Value} (hb : Below wr.drew.heap.size wr.drew u2) (hX : Res wr B x0 x1 x2 x3 x4 x5) (hB : Below w.heap.size w wr) (hO : u2.ownsRow wr.drew.heap.size 44 3 v n xs) : Res u2 B x0 x1 x2 x3 x4 x5 ∧ Below w.heap.size w u2 ∧ u2.ownsRow wr.heap.size 44 3 v n xs ∧ wr.heap.size ≤ u2.heap.size := by
  have hb' : Below wr.heap.size wr u2 := ⟨hb.os, hb.tape, hb.output, hb.size, hb.block⟩
  exact ⟨resB hX hb', thenB hB hb', hO, hb'.size⟩
set_option maxRecDepth 100000 in
set_option maxHeartbeats 8000000 in
theorem walk (a0 : ByteArray) (a1 : ByteArray) (a2 : Int) (w0 : a0.size ≤ maxLen) (w1 : a1.size ≤ maxLen) (w2 : (Lit.int .i64 a2).wf = true) (w : World) :
    Calls Try.prog 7 #[.string a0, .string a1, .int .i64 a2] w fun e w' => e = .returned (.bool true) ∧ Below w.heap.size w w' := by
  have hB : Below w.heap.size w w := Below.refl _ _
  have br := DevWalk.build_d0
  rcases ways a0.size a1.size with h1 | ⟨h1, h2⟩ | ⟨h1, h2, h3⟩ | ⟨h1, h2, h3, h4⟩ | ⟨h1, h2, h3, h4⟩
  iterate 4
    · go_enter Try.func7, Try.ntmps7
      go_wp2_with (go_at_call 14; refine (DnlAwake.awake_any _).mono ?_; rintro e w' ⟨rfl, hb⟩; replace hB := hB.trans (hb.mono hB.size); clear hb)
      go_ret
      exact ⟨rfl, hB⟩
  have C1 := hide (fun w => refBlank_any w)
  obtain ⟨q, hq⟩ : ∃ q : Nat, a0.size / 32 = q := ⟨_, rfl⟩
  have q1 : 1 ≤ q := by omega
  have q2 : q ≤ 9 := by omega
  have q3 : 32 * q ≤ a0.size := by omega
  have e1 : (a0.size : Int).tdiv 32 = (q : Int) := by rw [Int.tdiv_eq_ediv_of_nonneg (by omega)]; omega
  have e2 : (a0.size : Int) / 32 = (q : Int) := by omega
  obtain ⟨k, hk, mk⟩ : ∃ k : Nat, k < q ∧ (IntKind.u64.wrap a2).tmod (q : Int) = (k : Int) := by
    have e : IntKind.u64.wrap a2 = a2 % 18446744073709551616 := by simp [IntKind.wrap, IntKind.bits, IntKind.signed]
    rw [e, Int.tmod_eq_emod_of_nonneg (by omega)]
    have z := Int.emod_nonneg (a2 % 18446744073709551616) (show (q : Int) ≠ 0 by omega)
    have z2 := Int.emod_lt_of_pos (a2 % 18446744073709551616) (show (0 : Int) < (q : Int) by omega)
    exact ⟨(a2 % 18446744073709551616 % (q : Int)).toNat, by omega, by omega⟩
  go_enter Try.func7, Try.ntmps7
  go_wp2_with (first | (go_at_call 14; refine (DnlAwake.awake_any _).mono ?_; rintro e w' ⟨rfl, hb⟩; replace hB := hB.trans (hb.mono hB.size); clear hb) | (go_at_call 15; refine (C1.out _).mono ?_; rintro e w' ⟨rfl, hb⟩; replace hB := hB.trans (hb.mono hB.size); clear hb))
  have hX := resM w' (.int .i64 0) (.int .i64 0) (.int .i64 0) (.int .i64 0) (.int .i64 0) (.slice none 0 0) 24
  have hBB := hB.size
  replace hB := thenB hB (hal w' (.cells #[.int .i64 0, .int .i64 0, .int .i64 0, .int .i64 0, .int .i64 0, .slice none 0 0] 24))
  generalize w'.alloc _ = W at *
  generalize w'.heap.size = B at *
  obtain ⟨K, hK⟩ : ∃ K : Nat, K = 1 + k := ⟨_, rfl⟩
  rw [show (1 : Int) + (k : Int) = (K : Int) by omega]
  have k1 : K ≤ 9 := by omega
  have k2 : 32 * K ≤ a0.size := by omega
  have HB0 := hide bare_blank
  have HBl := hide (⟨Nor.size_blankS, fun i hi => blank_get i hi⟩ : Nor.blankS.size = 768 ∧ ∀ i, i < 768 → Nor.blankS.data.toList[i]? = some 255)
  clear hK hk mk e1 e2 hq q1 q2 q3
  generalize Nor.blankS = F0 at *
  go_loopw [7, 10] (fun x y wr => ∃ (i : Nat) (F : ByteArray) (c : Int), i ≤ K ∧ x = .string F ∧ y = .int .i64 i ∧ ((i = 0 ∧ c = 0) ∨ (1 ≤ i ∧ c = 3)) ∧ Hid (Bare F) ∧ Res wr B (.int .i64 c) (.int .i64 0) (.int .i64 (i : Int)) (.int .i64 (32 * (i : Int))) (.int .i64 0) (.slice none 0 0) ∧ Below w.heap.size w wr) (fun _ y _ => K - (intOf y).toNat)
  case atStart => exact ⟨0, _, 0, Nat.zero_le _, rfl, rfl, .inl ⟨rfl, rfl⟩, HB0, hX, hB⟩
  case round =>
    clear hX hB HB0
    obtain ⟨i, F, c, hi, rfl, rfl, hc, HF, hX, hB⟩ := hrel
    by_cases hlt : i < K
    · obtain ⟨x, hx⟩ : ∃ x : Nat, x = 32 * i := ⟨_, rfl⟩
      obtain ⟨y, hy⟩ : ∃ y : Nat, y = x + 32 := ⟨_, rfl⟩
      have y1 : IntKind.i64.wrap (32 * (i : Int)) = (x : Int) := by rw [IntKind.wrap_i64]; omega
      have y2 : IntKind.i64.wrap ((x : Int) + 32) = (y : Int) := by rw [IntKind.wrap_i64]; omega
      have y3 : (x : Int) ≤ (y : Int) := by omega
      have y4 : (y : Int) ≤ (a0.size : Int) := by omega
      have hps : (a0.extract x y).size = 32 := by rw [ByteArray.size_extract]; omega
      obtain ⟨L, n, hn, n1, n11, HL, hok, htk⟩ := mix_take HF.out hps (show i < 9 by omega) hc
      have C2 := hide (fun w => DnlHelp.tookO hok htk hn (.slice none 0 0) w (isSt_nil w))
      have HN := hide hn
      replace HL := hide HL
      dsimp only at C2
      rw [show (32 : Int) * (i : Int) = (x : Int) by omega] at C2 hX
      clear hok htk hn hps
      have Hx := hide hx
      clear hx hy
      go_upto_region 11 with fail
      go_cut [11, 12] from 57 to 70 (fun s11 s12 wx => s12 = .int .i64 0 ∧ ∃ G sa sc, s11 = .pointer (some ⟨G, 0, none⟩) ∧ B < G ∧ Res wx G (.int .i64 1) (.int .i64 0) (.int .i64 ((i : Int) + 1)) (.int .i64 ((x : Int) + 32)) (.int .i64 0) (.slice sa n sc) ∧ IsSt wx (.slice sa n sc) L ∧ Res wx B (.int .i64 c) (.int .i64 0) (.int .i64 (i : Int)) (.int .i64 (x : Int)) (.int .i64 0) (.slice none 0 0) ∧ Below w.heap.size w wx)
      case first =>
        have hsz := hX.1
        have hwz := hB.size
        go_region_with (go_at_call 9; refine (C2.out _).mono ?_; rintro e u2 ⟨sa, sc, rfl, hO, hb⟩; first | (obtain ⟨hR, hX', hB', hO'⟩ := pre1 hb hX hB hO) | (obtain ⟨hX', hB', hO', hZ⟩ := pre2 hb hX hB hO))
        all_goals
          go_wp2_with fail
          go_meet
          first
            | (have hZ' := hZ; exact ⟨rfl, u2.heap.size, sa, sc, rfl, hX'.1, resM u2 (.int .i64 1) (.int .i64 0) (.int .i64 ((i : Int) + 1)) (.int .i64 ((x : Int) + 32)) (.int .i64 0) (.slice sa n sc) 24, ownsS_is (OpsRow.owns_below hO' (hal u2 (.cells #[.int .i64 1, .int .i64 0, .int .i64 ((i : Int) + 1), .int .i64 ((x : Int) + 32), .int .i64 0, .slice sa n sc] 24))), resB hX' (hal u2 (.cells #[.int .i64 1, .int .i64 0, .int .i64 ((i : Int) + 1), .int .i64 ((x : Int) + 32), .int .i64 0, .slice sa n sc] 24)), thenB hB' (hal u2 (.cells #[.int .i64 1, .int .i64 0, .int .i64 ((i : Int) + 1), .int .i64 ((x : Int) + 32), .int .i64 0, .slice sa n sc] 24))⟩)
            | exact ⟨rfl, wr.heap.size, sa, sc, rfl, hsz, res6 hR (.int .i64 1) (.int .i64 0) (.int .i64 ((i : Int) + 1)) (.int .i64 ((x : Int) + 32)) (.int .i64 0) (.slice sa n sc), ownsS_is (own6 hO' (Nat.lt_succ_self _) (.int .i64 1) (.int .i64 0) (.int .i64 ((i : Int) + 1)) (.int .i64 ((x : Int) + 32)) (.int .i64 0) (.slice sa n sc)), resO6 hX' (Nat.ne_of_gt hsz) (.int .i64 1) (.int .i64 0) (.int .i64 ((i : Int) + 1)) (.int .i64 ((x : Int) + 32)) (.int .i64 0) (.slice sa n sc), set6 hB' hwz⟩
      case rest =>
        clear hX hB
        obtain ⟨rfl, G, sa, sc, rfl, hBG, hR, hI, hX, hB⟩ := hcut
        obtain ⟨_, gb, go, rfl, s1, s2, hg, hin⟩ := DnlHelp.st_open hI (by omega)
        have hwB := hB.size
        clear hI C2
        go_wp2_with (go_at_call 12; refine (num_any _ _).mono ?_; rintro e w' ⟨rfl, rfl⟩)
        have hN9 : n ≤ 9223372036854775807 := by omega
        go_loopw [7, 13] (fun x y wr' => ∃ (m : Nat) (F' : ByteArray), m ≤ n ∧ x = .string F' ∧ y = .int .i64 m ∧ Hid (Bare F') ∧ Below w'.heap.size w' wr') (fun _ y _ => n - (intOf y).toNat)
        case atStart => exact ⟨0, _, Nat.zero_le _, rfl, rfl, HF, Below.refl _ _⟩
        case round =>
          clear HF
          obtain ⟨m, F', hm, rfl, rfl, HF, hbel⟩ := hrel
          replace hR := resB hR hbel
          by_cases hlt2 : m < n
          · have hlt3 : m < L.length := by rw [HN.out]; exact hlt2
            have hin1 := hin.below hbel hg
            have c0 := hin1.er m hlt3
            have c1 := hin1.pl m hlt3
            have c2 := hin1.tx m hlt3
            obtain ⟨l1, l2⟩ := HL.out m hlt3
            obtain ⟨g1, g2⟩ := bare_step HF.out l1 l2
            have HD := hide (fun w => OpsRef.refDo_any F' L[m].er L[m].pl L[m].tx w)
            rw [g1, show errO true = 0 from rfl] at HD
            have HF2 := hide g2
            clear g1 g2 l1 l2 HF
            generalize cutS F' L[m].er L[m].pl L[m].tx 96 = F2 at *
            generalize L[m].er = E at *
            generalize L[m].pl = A at *
            generalize L[m].tx = T at *
            clear hin1 hin HN HL hX
            go_wp2_with (go_at_call 16; refine (HD.out _).mono ?_; rintro e w3 ⟨rfl, hb⟩)
            exact ⟨⟨m + 1, _, by omega, rfl, by go_num, HF2, hbel.trans (hb.mono hbel.size)⟩, by simp [intOf]; omega⟩
          · obtain rfl : m = n := by omega
            replace hX := resB hX hbel
            replace hB := thenB hB hbel
            clear hin hbel hg HN HL hm hlt2
            have HB := hide hB
            clear hB
            have hXB := hX.1
            go_upto_region 23 with fail
            have hne : G ≠ B := Nat.ne_of_gt hBG
            have hwG : w.heap.size ≤ G := by omega
            replace hR := res5 (res0 hR (.int .i64 3)) (.slice none 0 0)
            replace hX := resO (resO hX hne 0 (.int .i64 3)) hne 5 (.slice none 0 0)
            have hB := (HB.out.setCell (p := ⟨G, 0, none⟩) hwG (.int .i64 3)).setCell (p := ⟨G, 5, none⟩) hwG (.slice none 0 0)
            clear HB
            generalize (wr.setCell _ _).setCell _ _ = W5 at *
            have HX := hide hX
            have hfz := hX.2.2.2.2.2.2.2
            go_wp2_with fail
            refine ⟨⟨i + 1, F', 3, by omega, rfl, by go_num, .inr ⟨by omega, rfl⟩, HF, ?_, set6 hB hBB⟩, by simp [intOf]; omega⟩
            have e1 : ((i + 1 : Nat) : Int) = (i : Int) + 1 := by omega
            have e2 : 32 * ((i + 1 : Nat) : Int) = (x : Int) + 32 := by have := Hx.out; omega
            rw [e2, e1]
            exact res6 HX.out _ _ _ _ _ _
    · obtain rfl : i = K := by omega
      clear hX hc hi hlt
      obtain ⟨L, hN, HM, hok, hst, x0, x1, x3⟩ := mix_start HF.out (show ¬ a1.size = 0 by omega) (show a1.size ≤ 32 by omega)
      have HO := hide (fun n h => do_ok HF.out.1 HM (n := n) h)
      have HT := hide (fun n h => doL_take F L n h)
      have C3 := hide (fun w => DnlAwake.took (d := newD) (n := 3 + (a1.size + 3) / 4) hok hst hN (.slice none 0 0) w (isSt_nil w))
      unfold newD at C3
      dsimp only at C3
      obtain ⟨N, hNN⟩ : ∃ N : Nat, 3 + (a1.size + 3) / 4 = N := ⟨_, rfl⟩
      rw [hNN] at C3 hN
      have hN9 : N ≤ 9223372036854775807 := by omega
      have hN4 : 4 ≤ N := by omega
      have HN := hide hN
      obtain ⟨r, hr⟩ : ∃ r : Nat, r = 192 + a1.size := ⟨_, rfl⟩
      obtain ⟨z, hz⟩ : ∃ z : Nat, z = 288 - a1.size := ⟨_, rfl⟩
      rw [← hr] at x1 x3
      have X2 := text_is (blank_ext (show r + z = 480 by omega) (by omega) x3 HBl.out.2)
      have HX := hide (⟨x0, text_is x1, X2⟩ : _ ∧ _ ∧ _)
      have r1 : (192 : Int) ≤ (r : Int) := by omega
      have r2 : (r : Int) ≤ 480 := by omega
      have r3 : IntKind.i64.wrap ((192 : Int) + (a1.size : Int)) = (r : Int) := by rw [IntKind.wrap_i64]; omega
      have r4 : IntKind.i64.wrap ((288 : Int) - (a1.size : Int)) = (z : Int) := by rw [IntKind.wrap_i64]; omega
      have r5 : F0.size ≤ 768 := by rw [HBl.out.1]; omega
      have r6 : 768 ≤ F0.size := by rw [HBl.out.1]; omega
      have r7 : (z : Int) ≤ (F0.size : Int) := by omega
      have f2 : ((a1.size : Int) == (a1.size : Int)) = true := beq_self_eq_true _
      clear hok hst hN hNN hr hz x0 x1 x3 X2 HM HBl HF
      go_wp2_with fail
      refine (C3.out _).mono ?_; rintro e u2 ⟨sa, sc, rfl, hI, hb⟩; replace hB := thenB hB hb; clear hb C3
      have hQ := resM u2 (.int .i64 1) (.int .i64 0) (.int .i64 1) (.int .i64 (a1.size : Int)) (.int .i64 0) (.slice sa N sc) 24
      have hn := hal u2 (.cells #[.int .i64 1, .int .i64 0, .int .i64 1, .int .i64 (a1.size : Int), .int .i64 0, .slice sa N sc] 24)
      replace hB := thenB hB hn
      replace hI := hI.below hn
      clear hn
      go_upto_region 25 with fail
      generalize u2.alloc _ = W2 at *
      generalize u2.heap.size = G2 at *
      obtain ⟨_, gb, go, rfl, s1, s2, hg, hin⟩ := DnlHelp.st_open hI (by omega)
      clear hI
      go_wp2_with fail
      go_loopw [7, 18] (fun x y wr' => ∃ (m : Nat) (F' : ByteArray), m ≤ N ∧ x = .string F' ∧ y = .int .i64 m ∧ Hid (F' = doL F (L.take m)) ∧ Below W2.heap.size W2 wr') (fun _ y _ => N - (intOf y).toNat)
      case atStart => exact ⟨0, _, Nat.zero_le _, rfl, rfl, rfl, Below.refl _ _⟩
      case round =>
        obtain ⟨m, F', hm, rfl, rfl, HF, hbel⟩ := hrel
        replace hQ := resB hQ hbel
        by_cases hlt : m < N
        · have hlt2 : m < L.length := by rw [HN.out]; exact hlt
          have hin1 := hin.below hbel hg
          have c0 := hin1.er m hlt2
          have c1 := hin1.pl m hlt2
          have c2 := hin1.tx m hlt2
          have HD := hide (fun w => OpsRef.refDo_any F' L[m].er L[m].pl L[m].tx w)
          have hok := HO.out m hlt2
          rw [← HF.out] at hok
          rw [hok, show errO true = 0 from rfl] at HD
          have HF2 : Hid (cutS F' L[m].er L[m].pl L[m].tx 96 = doL F (L.take (m + 1))) := by show _ = _; rw [HF.out]; exact (HT.out m hlt2).symm
          clear hok HF
          generalize cutS F' L[m].er L[m].pl L[m].tx 96 = F2 at *
          generalize L[m].er = E at *
          generalize L[m].pl = A at *
          generalize L[m].tx = T at *
          clear hin1 hin HO HT HX HN
          go_wp2_with (go_at_call 16; refine (HD.out _).mono ?_; rintro e w3 ⟨rfl, hb⟩)
          exact ⟨⟨m + 1, _, by omega, rfl, by go_num, HF2, hbel.trans (hb.mono hbel.size)⟩, by simp [intOf]; omega⟩
        · obtain rfl : m = N := by omega
          have hF := HF.out
          rw [show L.take m = L by rw [← HN.out, List.take_length]] at hF
          obtain ⟨zF, X1, X2⟩ := HX.out
          rw [← hF] at zF X1 X2
          have t1 : F'.size ≤ 768 := by omega
          have t2 : 768 ≤ F'.size := by omega
          have i1 : (r : Int) ≤ (F'.size : Int) := by omega
          have i2 : (480 : Int) ≤ (F'.size : Int) := by omega
          have i3 : (192 : Int) ≤ (F'.size : Int) := by omega
          replace hB := thenB hB hbel
          clear hin hbel hg HX zF hF HF HO HT HN hm hlt
          have fs := DnlHelp.field_sent
          go_wp2_with fail
          go_region_held3 (fun W => W.cell? ⟨G2, 2, none⟩ = some (.int .i64 1) ∧ W.cell? ⟨G2, 3, none⟩ = some (.int .i64 (a1.size : Int))) (go_keep) (first | (go_at_call 12; refine (num_any _ _).mono ?_; rintro e w' ⟨rfl, rfl⟩) | (go_at_call 17; refine (DnlAwake.sent_any _).mono ?_; rintro e w5 ⟨ka, kc, rfl, _, hb⟩; replace hB := thenD hb hB rfl rfl rfl rfl; replace hQ := resD hb hQ; clear hb) | (go_at_call 15; refine (C1.out _).mono ?_; rintro e w5 ⟨rfl, hb⟩; replace hB := thenD hb hB rfl rfl rfl rfl; replace hQ := resD hb hQ; clear hb))
          go_wp2_with fail
          go_ret
          exact ⟨rfl, hB⟩

set_option maxRecDepth 100000 in
theorem lifted (os : Os) (started : os.Started) (H : Type) (enc : TypeId × Value → H) :
    ReturnsInHanded {} Try.checked os 7 .any (Rows.downloadMixedSpec.pre6 enc Try.prog Try.f7 Rows.downloadMixedRow.domain false) (Rows.downloadMixedSpec.post enc Try.prog Try.f7 false true false false) := by
  refine returnsInHanded_of_change (C := Try.checked) own started (by kernel_rfl) Try.func7
    (ChangeSpec.witness6 (enc := enc) (C := Try.checked) false ⟨#[], #[.string ByteArray.empty, .string ByteArray.empty, .int .i64 0], []⟩ 8 (by kernel_rfl) (by kernel_rfl) (by kernel_rfl) (by kernel_rfl)) ?_
  intro W base args ds gs before hval0 hW hcnd _
  have hval : ∀ (j : Nat) t v, Try.f7.params[j]? = some t → args[j]? = some v → Value.okWide Try.prog W .any base t v := hval0
  have hW' := hW
  obtain ⟨p, q, hA0, hV, rfl, hfz, hnd⟩ := hW
  have hA : DataW.TrodAll enc Try.prog W 0 (fun _ => true) true Try.f7.params.toList args.toList ds p := hA0
  rw [Try.params7] at hA hval
  obtain ⟨v0, vs0, d0, ds0, p0, q0, hargs, rfl, rfl, h0, r0⟩ := trodAll_cons hA
  obtain ⟨v1, vs1, d1, ds1, p1, q1, rfl, rfl, rfl, h1, r1⟩ := trodAll_cons r0
  obtain ⟨v2, vs2, d2, ds2, p2, q2, rfl, rfl, rfl, h2, r2⟩ := trodAll_cons r1
  obtain ⟨rfl, rfl, rfl⟩ := trodAll_nil r2
  obtain rfl : args = #[v0, v1, v2] := by cases args; simp_all
  obtain ⟨rfl, rfl⟩ := trodVars_none hV
  obtain ⟨a0, rfl, rfl, rfl, w0⟩ := open_string Try.underlying9 (hval 0 9 v0 rfl rfl) h0
  obtain ⟨a1, rfl, rfl, rfl, w1⟩ := open_string Try.underlying9 (hval 1 9 v1 rfl rfl) h1
  obtain ⟨a2, rfl, rfl, rfl, w2⟩ := open_int Try.underlying3 (hval 2 3 v2 rfl rfl) h2
  clear hA0 hval0
  refine (walk a0 a1 a2 w0 w1 w2 W).mono fun e W' ⟨he, bel⟩ => ?_
  subst he
  exact ⟨_, rfl, _, _, _, [], _, [], hW', (trodAll_cons_mk (shut_bool Try.underlying4 _) trodAll_mk0), (trodAll_cons_mk (shut_string Try.underlying9 w0) (trodAll_cons_mk (shut_string Try.underlying9 w1) (trodAll_cons_mk (shut_int Try.underlying3 w2) trodAll_mk0))), rfl, bel.frame _, fun h => by cases h⟩

theorem over : Rows.downloadMixedRow.holds Try.pinned (OpenSpec.ofChange Rows.downloadMixedSpec) :=
  OpenClaim.holds_of_wide 7 Try.f7 rfl rfl rfl rfl rfl rfl rfl ⟨rfl, rfl, rfl, rfl, rfl⟩ rfl rfl rfl rfl rfl (by kernel_rfl) Try.func7 (by kernel_rfl)
    (of_decide_eq_true (by kernel_rfl)) (by unfold Func.isWrapper; first | (rw [if_pos (by decide +kernel)]; kernel_rfl) | (rw [if_neg (by decide +kernel)]; exact ⟨rfl, rfl⟩))
    (fun os started H enc _ => lifted os started H enc)

theorem proved : Rows.DownloadMixedSaid :=
  over
#print axioms proved
end Go.Proofs.Ythpoefaipmcceaa.downloadMixed
