/- Whatever the numbers, however many: the law PlaceRow returns true (records appended one behind the other: each is active when it stands, the numbers go on by one, and the flash is tame), and the argument reads as it did; no condition. -/
import Derived.Test.YtpekhgopaakabaaRows
import Derived.Test.YtpekhgopaakabaaPlaAwake
import Derived.Test.YtpekhgopaakabaaPlaTame
import Derived.Test.YtpekhgopaakabaaOpsRef
import Derived.Deep.Cut
import Derived.Deep.RegionHeld3
import Derived.WalkKit
import Derived.ProofKit
import Derived.OpenShut
import Derived.ShutString
import Derived.ChangeOld
import Derived.Below
namespace Go.Proofs.Ytpekhgopaakabaa.placeRow
open Go.ChangeShapes Go.WideShapes Go.ChangeAt Go.RowKit
open Go.ChangeMaps (open_string shut_string)
set_option linter.unusedVariables false

open Go.Proofs.Ytpekhgopaakabaa.Bytes
open Go.Proofs.Ytpekhgopaakabaa.NorRef
open Go.Proofs.Ytpekhgopaakabaa.Ent
open Go.Proofs.Ytpekhgopaakabaa.EntRow
open Go.Proofs.Ytpekhgopaakabaa.EntWalk
open Go.Proofs.Ytpekhgopaakabaa.Jou
open Go.Proofs.Ytpekhgopaakabaa.JouRow
open Go.Proofs.Ytpekhgopaakabaa.JouRef
open Go.Proofs.Ytpekhgopaakabaa.Ops
open Go.Proofs.Ytpekhgopaakabaa.Act
open Go.Proofs.Ytpekhgopaakabaa.ActNext
open Go.Proofs.Ytpekhgopaakabaa.ActApp
open Go.Proofs.Ytpekhgopaakabaa.Held
open Go.Proofs.Ytpekhgopaakabaa.HeldCalls
open Go.Proofs.Ytpekhgopaakabaa.Cho
open Go.Proofs.Ytpekhgopaakabaa.Pla
open Go.Proofs.Ytpekhgopaakabaa.PlaTame
open Go.Proofs.Ytpekhgopaakabaa.PlaWalk
open Go.Proofs.Ytpekhgopaakabaa.PlaAwake
theorem own : ownKnob Try.prog.godebug = none := by kernel_rfl
theorem laidOut : laidOutB Try.prog = true := by kernel_rfl

/-- WHAT THE WALK IS TOLD OF A SLICE OF INTEGERS THAT CAME IN: it is nil; or it leads to a row of 'cap' cells, the numbers 'zs' (the first 'len' are its elements, the rest its spare room), each fitting its kind. -/
def IsRow (k : IntKind) (w : World) (a : Option Addr) (len cap : Nat) (zs : List Int) : Prop :=
  (a = none ∧ len = 0 ∧ cap = 0 ∧ zs = []) ∨
  ∃ x, a = some x ∧ len ≤ cap ∧ cap ≤ maxLen ∧ zs.length = cap ∧ (∀ i, i < zs.length → w.cell? (x.add i) = some (.int k (zs.getD i 0))) ∧ ∀ n ∈ zs, (Lit.int k n).wf = true

theorem cells_in {w W : World} {x : Addr} {z : List Int} (h : ∀ i, i < z.length → w.cell? (x.add i) = some (.int .i64 (z.getD i 0))) (hb : Below w.heap.size w W) (n : Nat) (hn : n < z.length) : W.cell? (x.add n) = some (.int .i64 (z.getD n 0)) := by
  have h1 := h n hn
  rw [hb.cell (World.block_lt_of_cell? w _ h1)]
  exact h1
theorem cellD {W w2 : World} {p : Addr} {v : Value} (hb : Below W.heap.size W w2) (h : W.cell? p = some v) : w2.cell? p = some v := by
  rw [hb.cell (World.block_lt_of_cell? W _ h)]
  exact h
theorem box4_set {W : World} {B : Nat} {a b c d a' b' c' d' : Value} (h : B < W.heap.size ∧ W.cell? ⟨B, 0, none⟩ = some a ∧ W.cell? ⟨B, 1, none⟩ = some b ∧ W.cell? ⟨B, 2, none⟩ = some c ∧ W.cell? ⟨B, 3, none⟩ = some d ∧ ∀ i, W.frozen? ⟨B, i, none⟩ = false) :
    B < ((((W.setCell ⟨B, 0, none⟩ a').setCell ⟨B, 1, none⟩ b').setCell ⟨B, 2, none⟩ c').setCell ⟨B, 3, none⟩ d').heap.size ∧ ((((W.setCell ⟨B, 0, none⟩ a').setCell ⟨B, 1, none⟩ b').setCell ⟨B, 2, none⟩ c').setCell ⟨B, 3, none⟩ d').cell? ⟨B, 0, none⟩ = some a' ∧ ((((W.setCell ⟨B, 0, none⟩ a').setCell ⟨B, 1, none⟩ b').setCell ⟨B, 2, none⟩ c').setCell ⟨B, 3, none⟩ d').cell? ⟨B, 1, none⟩ = some b' ∧ ((((W.setCell ⟨B, 0, none⟩ a').setCell ⟨B, 1, none⟩ b').setCell ⟨B, 2, none⟩ c').setCell ⟨B, 3, none⟩ d').cell? ⟨B, 2, none⟩ = some c' ∧ ((((W.setCell ⟨B, 0, none⟩ a').setCell ⟨B, 1, none⟩ b').setCell ⟨B, 2, none⟩ c').setCell ⟨B, 3, none⟩ d').cell? ⟨B, 3, none⟩ = some d' := by
  obtain ⟨h0, h1, h2, h3, h4, _⟩ := h
  have hs : ∀ (V : World) (p : Addr) (v : Value), (V.setCell p v).heap.size = V.heap.size := fun V p v => by simp [World.setCell]
  have n01 := ChoWalk.ne_off (B := B) (i := 0) (j := 1) (by decide)
  have n02 := ChoWalk.ne_off (B := B) (i := 0) (j := 2) (by decide)
  have n03 := ChoWalk.ne_off (B := B) (i := 0) (j := 3) (by decide)
  have n12 := ChoWalk.ne_off (B := B) (i := 1) (j := 2) (by decide)
  have n13 := ChoWalk.ne_off (B := B) (i := 1) (j := 3) (by decide)
  have n23 := ChoWalk.ne_off (B := B) (i := 2) (j := 3) (by decide)
  refine ⟨by rw [hs, hs, hs, hs]; exact h0, ?_, ?_, ?_, ?_⟩
  · rw [World.cell?_setCell_other _ _ _ _ n03.symm, World.cell?_setCell_other _ _ _ _ n02.symm, World.cell?_setCell_other _ _ _ _ n01.symm, World.cell?_setCell_same _ _ _ h1]
  · rw [World.cell?_setCell_other _ _ _ _ n13.symm, World.cell?_setCell_other _ _ _ _ n12.symm, World.cell?_setCell_same _ _ _ (by rw [World.cell?_setCell_other _ _ _ _ n01]; exact h2)]
  · rw [World.cell?_setCell_other _ _ _ _ n23.symm, World.cell?_setCell_same _ _ _ (by rw [World.cell?_setCell_other _ _ _ _ n12, World.cell?_setCell_other _ _ _ _ n02]; exact h3)]
  · rw [World.cell?_setCell_same _ _ _ (by rw [World.cell?_setCell_other _ _ _ _ n23, World.cell?_setCell_other _ _ _ _ n13, World.cell?_setCell_other _ _ _ _ n03]; exact h4)]
theorem set4s {w W : World} {B : Nat} (hb : w.heap.size ≤ B) (h : Below w.heap.size w W) (a b c d : Value) : Below w.heap.size w ((((W.setCell ⟨B, 0, none⟩ a).setCell ⟨B, 1, none⟩ b).setCell ⟨B, 2, none⟩ c).setCell ⟨B, 3, none⟩ d) :=
  (((h.setCell (p := ⟨B, 0, none⟩) hb _).setCell (p := ⟨B, 1, none⟩) hb _).setCell (p := ⟨B, 2, none⟩) hb _).setCell (p := ⟨B, 3, none⟩) hb _
/-- A tame flash whose greatest number is n. -/
def Inv (F : ByteArray) (n : Nat) : Prop := tameB F = true ∧ topI F = (n : Int)
theorem inv_0 : Inv Nor.blankS 0 := ⟨blank_tame, blank_top⟩
theorem inv_rof {F : ByteArray} {n : Nat} (h : Inv F n) (hn : n < 30) (t z : Int) (h1 : 0 ≤ t) (h2 : t ≤ 1) (h3 : 1 ≤ z) (h4 : z ≤ 288) : errS F t z = 0 ∧ rofQ F t z = (n : Int) + 1 := by
  have hz := (tame_parts.1 h.1).1
  have hk : rofOk F t z = true := rofOk_parts.2 ⟨hz, h1, h2, h3, h4⟩
  have ht : topI F < 1048576 := by rw [h.2]; omega
  obtain ⟨v1, _, _, _, v5⟩ := rof_yes hk ht
  rw [h.2] at v1
  exact ⟨v5, v1⟩
theorem inv_next {F : ByteArray} {n : Nat} (h : Inv F n) (hn : n < 30) : nextI F = (n : Int) + 1 ∧ errX F = 0 := by
  have hz := (tame_parts.1 h.1).1
  have e := next_yes (mayF_t hz) (by rw [h.2]; omega)
  rw [h.2] at e
  exact e
/-- The record of a staged image, appended. -/
theorem inv_app {F : ByteArray} {n : Nat} (h : Inv F n) {t z : Int} (he : errS F t z = 0) (hq : rofQ F t z = (n : Int) + 1) :
    appOk F (rofQ F t z) (rofT F t z) (rofZ F t z) (rofM F t z) = true ∧ 6 ≤ (appL F (rofQ F t z) (rofT F t z) (rofZ F t z) (rofM F t z)).length ∧ (appL F (rofQ F t z) (rofT F t z) (rofZ F t z) (rofM F t z)).length ≤ 7 ∧
    (∀ m (hm : m < (appL F (rofQ F t z) (rofT F t z) (rofZ F t z) (rofM F t z)).length), cutOk (doL F ((appL F (rofQ F t z) (rofT F t z) (rofZ F t z) (rofM F t z)).take m)) (appL F (rofQ F t z) (rofT F t z) (rofZ F t z) (rofM F t z))[m].er (appL F (rofQ F t z) (rofT F t z) (rofZ F t z) (rofM F t z))[m].pl (appL F (rofQ F t z) (rofT F t z) (rofZ F t z) (rofM F t z))[m].tx 96 = true) ∧
    (∀ G : ByteArray, G = doL F (appL F (rofQ F t z) (rofT F t z) (rofZ F t z) (rofM F t z)) → Inv G (n + 1) ∧ errA G = 0 ∧ (actV G).pq = rofQ F t z ∧ (actV G).pt = rofT F t z ∧ (actV G).pz = rofZ F t z ∧ (actV G).pm = rofM F t z) := by
  obtain ⟨_, ho, hq1, hg, _⟩ := rof_good he
  obtain ⟨E, g, j, hw⟩ := way ho
  have hl := way_len hw
  have hE : E.length ≤ 1 := by
    rcases hw.er with ⟨e, _⟩ | ⟨H, _, e, _⟩
    · rw [e]; simp
    · rw [e]; simp
  refine ⟨ho, by omega, by omega, fun m hm => (way_step hw m hm 96 (by omega) (by omega)).1, fun G hG => ?_⟩
  obtain ⟨d1, d2, d3⟩ := way_done hw h.1 hq1 hg
  rw [← hG] at d1 d2 d3
  obtain ⟨_, m2, m3⟩ := act_may d2
  rw [m2]
  exact ⟨⟨d1, by rw [d3, hq]; omega⟩, m3, rfl, rfl, rfl, rfl⟩
set_option maxRecDepth 100000 in
set_option maxHeartbeats 8000000 in
theorem walk (a0 : Option Addr) (len0 cap0 : Nat) (z0 : List Int) (w : World) (w0 : IsRow .i64 w a0 len0 cap0 z0) :
    Calls Try.prog 7 #[.slice a0 len0 cap0] w fun e w' => e = .returned (.bool true) ∧ Below w.heap.size w w' := by
  have hB : Below w.heap.size w w := Below.refl _ _
  have C1 := hide (fun w => refBlank_any w)
  have C2 := hide (fun w => held8_any w)
  have HH := hide size_heldS
  have H0 := hide inv_0
  have HT : Hid (∀ (F : ByteArray) (n : Nat), Inv F n → tameB F = true) := fun F n h => h.1
  generalize heldS = FH at *
  generalize Nor.blankS = F0 at *
  have hlen : len0 ≤ 9223372036854775807 := by
    rcases w0 with ⟨_, h, _⟩ | ⟨x, _, h1, h2, _⟩
    · omega
    · unfold maxLen at h2; omega
  go_enter Try.func7, Try.ntmps7
  go_wp2_with (first | (go_at_call 15; refine (awake_any _).mono ?_; rintro e w' ⟨rfl, hb⟩; replace hB := hB.trans (hb.mono hB.size); clear hb) | (go_at_call 22; refine (C1.out _).mono ?_; rintro e w' ⟨rfl, hb⟩; replace hB := hB.trans (hb.mono hB.size); clear hb))
  go_loopw [3, 4] (fun x y wr => ∃ (n : Nat) (F : ByteArray), n ≤ 30 ∧ x = .string F ∧ y = .int .i64 n ∧ Hid (Inv F n) ∧ Below w.heap.size w wr) (fun _ y _ => 30 - (intOf y).toNat)
  case atStart => exact ⟨0, _, Nat.zero_le _, rfl, rfl, H0.out, hB⟩
  case round =>
    obtain ⟨n, F, hn, rfl, rfl, HI, hbel⟩ := hrel
    clear hB
    by_cases hgo : n < len0 ∧ n < 30
    · obtain ⟨hl, h30⟩ := hgo
      rcases w0 with ⟨_, h, _⟩ | ⟨x, rfl, h1, h2, hzl, hcell, _⟩
      · omega
      have cz := cells_in hcell hbel n (by omega)
      obtain ⟨t, ht, mt⟩ : ∃ k : Nat, k ≤ 1 ∧ bits .and .i64 (z0.getD n 0) 1 = (k : Int) := mask_i64 (z0.getD n 0) 1 (by omega)
      obtain ⟨c, hc, mc⟩ : ∃ k : Nat, k < 288 ∧ wrap64 ((IntKind.u64.wrap (z0.getD n 0)).tmod 288) = (k : Int) := mod_u64 (z0.getD n 0) 288 (by omega) (by omega)
      obtain ⟨r1, r2⟩ := inv_rof HI.out h30 (t : Int) (1 + (c : Int)) (by omega) (by omega) (by omega) (by omega)
      have C3 := hide (fun w => refRof_any F (t : Int) (1 + (c : Int)) w)
      have C4 := hide (fun w => next_any F w)
      have C5 := hide (fun w => append_any F (rofQ F (t : Int) (1 + (c : Int))) (rofT F (t : Int) (1 + (c : Int))) (rofZ F (t : Int) (1 + (c : Int))) (rofM F (t : Int) (1 + (c : Int))) w)
      obtain ⟨p1, p2, p3, p4, p5⟩ := inv_app HI.out r1 r2
      rw [r1] at C3
      rw [(inv_next HI.out h30).1, (inv_next HI.out h30).2] at C4
      rw [p1] at C5
      rw [r2] at C3 C5 p2 p3 p4 p5
      have HD := hide p4
      have HE := hide p5
      clear r1 r2 p1 p4 p5 hcell hzl h1 h2
      generalize rofT F (t : Int) (1 + (c : Int)) = T at *
      generalize rofZ F (t : Int) (1 + (c : Int)) = Z at *
      generalize rofM F (t : Int) (1 + (c : Int)) = M at *
      generalize appL F ((n : Int) + 1) T Z M = L at *
      obtain ⟨N, hN⟩ : ∃ N : Nat, N = L.length := ⟨_, rfl⟩
      rw [← hN] at p2 p3 C5
      have HN := hide hN
      clear hN
      have e0 : errP true = 0 := rfl
      have e1 : errO true = 0 := rfl
      generalize z0.getD n 0 = zn at *
      have hg1 : decide ((n : Int) < (len0 : Int)) = true := decide_eq_true (by omega)
      have hg2 : decide ((n : Int) < 30) = true := decide_eq_true (by omega)
      have mc2 : IntKind.i64.wrap ((IntKind.u64.wrap zn).tmod 288) = (c : Int) := by have h := mc; unfold wrap64 at h; rw [IntKind.wrap_i64]; exact h
      have mc3 : IntKind.i64.wrap (1 + (c : Int)) = 1 + (c : Int) := by rw [IntKind.wrap_i64]; omega
      have hnew := World.new_ne wr (x.add n) cz
      go_upto_region 7 with fail
      go_region_held3 (fun W => W.cell? (x.add n) = some (.int .i64 zn)) (go_keep) ((go_at_call 17; refine (C3.out _).mono ?_; rintro e w2 ⟨rfl, hb⟩; have cz2 : w2.cell? (x.add n) = some (.int .i64 zn) := cellD hb (by first | exact cz | go_keep); (try have hz := resD hb (resM wr (.int .i64 0) (.int .i64 0) (.int .i64 0) (.int .i64 0) 23))))
      · have hB0 : Below w.heap.size w w2 := thenD hb hbel rfl rfl rfl rfl
        have hR := boxM w2 (.int .i64 ((n : Int) + 1)) (.int .i64 T) (.int .i64 Z) (.int .i64 M) 23
        have hB := hB0.alloc hB0.size (.cells #[.int .i64 ((n : Int) + 1), .int .i64 T, .int .i64 Z, .int .i64 M] 23)
        clear hb hB0 cz2
        generalize w2.alloc (.cells #[.int .i64 ((n : Int) + 1), .int .i64 T, .int .i64 Z, .int .i64 M] 23) = W at *
        generalize w2.heap.size = B at *
        go_wp2_with fail
        refine (C4.out _).mono ?_; rintro e w3 ⟨rfl, hb⟩; replace hB := thenB hB hb; replace hR := boxB hR hb; clear hb
        go_wp2_with fail
        refine (C5.out _).mono ?_; rintro e w4 ⟨v, rfl, hown, hb⟩; replace hB := thenB hB hb; replace hR := boxB hR hb; clear hb
        obtain ⟨g, cap, rfl, q1, q2⟩ := hown.form (by omega)
        obtain ⟨q3, hg, hin⟩ := OpsRow.owns_in hown
        clear hown q1 q2 q3 C3 C4 C5 cz mt mc mc2 mc3 ht hc
        go_wp2_with (go_at_call 12; refine (numJ_any _ _).mono ?_; rintro e w5 ⟨rfl, rfl⟩)
        go_loopw [3, 11] (fun x y wr2 => ∃ (m : Nat) (G : ByteArray), m ≤ N ∧ x = .string G ∧ y = .int .i64 m ∧ Hid (G = doL F (L.take m)) ∧ Below w5.heap.size w5 wr2) (fun _ y _ => N - (intOf y).toNat)
        case atStart => exact ⟨0, _, Nat.zero_le _, rfl, rfl, rfl, Below.refl _ _⟩
        case round =>
          rename World => wq
          obtain ⟨m, G, hm, rfl, rfl, HG, hbel2⟩ := hrel
          by_cases hlt : m < N
          · have hlt2 : m < L.length := by rw [← HN.out]; omega
            have hin1 := hin.below hbel2 hg
            have c0 := hin1.er m hlt2
            have c1 := hin1.pl m hlt2
            have c2 := hin1.tx m hlt2
            have k1 := HD.out m hlt2
            rw [← HG.out] at k1
            have HG2 : Hid (cutS G L[m].er L[m].pl L[m].tx 96 = doL F (L.take (m + 1))) := by show _ = _; rw [doL_take _ _ m hlt2, ← HG.out]
            have CD := hide (fun w => OpsRef.refDo_any G L[m].er L[m].pl L[m].tx w)
            rw [k1] at CD
            clear k1 HG hin1
            generalize cutS G L[m].er L[m].pl L[m].tx 96 = G2 at *
            go_wp2_with (go_at_call 19; refine (CD.out _).mono ?_; rintro e w6 ⟨rfl, hb⟩)
            exact ⟨⟨m + 1, G2, by omega, rfl, by go_num, HG2, thenB hbel2 hb⟩, by simp [intOf]; omega⟩
          · obtain rfl : m = N := by omega
            have hG : G = doL F L := by rw [HG.out, List.take_of_length_le (by rw [← HN.out]; omega)]
            obtain ⟨v1, v2, v3, v4, v5, v6⟩ := HE.out G hG
            have CA := hide (fun w => refActive_any G w)
            rw [v2, v3, v4, v5, v6] at CA
            have HV := hide v1
            replace hB := thenB hB hbel2
            replace hR := boxB hR hbel2
            clear v1 v2 v3 v4 v5 v6 hG HG HD HE hin hg hbel2 hlt
            generalize (actV G).pa = A at *
            go_wp2_with fail
            refine (CA.out _).mono ?_; rintro e w7 ⟨rfl, hb⟩; replace hB := thenB hB hb; replace hR := boxB hR hb; clear hb
            have hal := (Below.refl w7.heap.size w7).alloc (Nat.le_refl _) (.cells #[.int .i64 A, .int .i64 ((n : Int) + 1), .int .i64 T, .int .i64 Z, .int .i64 M] 40)
            have hX := box5M w7 (.int .i64 A) (.int .i64 ((n : Int) + 1)) (.int .i64 T) (.int .i64 Z) (.int .i64 M) 40
            replace hB := thenB hB hal; replace hR := boxB hR hal; clear hal
            go_upto_region 20 with fail
            generalize w7.alloc (.cells #[.int .i64 A, .int .i64 ((n : Int) + 1), .int .i64 T, .int .i64 Z, .int .i64 M] 40) = W7 at *
            generalize w7.heap.size = B7 at *
            unfold Box5 at hX
            go_wp2
            exact ⟨⟨n + 1, G, by omega, rfl, by go_num, HV, hB⟩, by simp [intOf]; omega⟩
      · have hB0 : Below w.heap.size w w2 := thenD hb (hbel.alloc hbel.size _) rfl rfl rfl rfl
        have hR := box4_set (a' := .int .i64 ((n : Int) + 1)) (b' := .int .i64 T) (c' := .int .i64 Z) (d' := .int .i64 M) hz
        have hB := set4s hbel.size hB0 (.int .i64 ((n : Int) + 1)) (.int .i64 T) (.int .i64 Z) (.int .i64 M)
        clear hb hB0 cz2 hz
        generalize (((w2.setCell ⟨wr.heap.size, 0, none⟩ (.int .i64 ((n : Int) + 1))).setCell ⟨wr.heap.size, 1, none⟩ (.int .i64 T)).setCell ⟨wr.heap.size, 2, none⟩ (.int .i64 Z)).setCell ⟨wr.heap.size, 3, none⟩ (.int .i64 M) = W at *
        generalize wr.heap.size = B at *
        go_wp2_with fail
        refine (C4.out _).mono ?_; rintro e w3 ⟨rfl, hb⟩; replace hB := thenB hB hb; replace hR := boxB hR hb; clear hb
        go_wp2_with fail
        refine (C5.out _).mono ?_; rintro e w4 ⟨v, rfl, hown, hb⟩; replace hB := thenB hB hb; replace hR := boxB hR hb; clear hb
        obtain ⟨g, cap, rfl, q1, q2⟩ := hown.form (by omega)
        obtain ⟨q3, hg, hin⟩ := OpsRow.owns_in hown
        clear hown q1 q2 q3 C3 C4 C5 cz mt mc mc2 mc3 ht hc
        go_wp2_with (go_at_call 12; refine (numJ_any _ _).mono ?_; rintro e w5 ⟨rfl, rfl⟩)
        go_loopw [3, 11] (fun x y wr2 => ∃ (m : Nat) (G : ByteArray), m ≤ N ∧ x = .string G ∧ y = .int .i64 m ∧ Hid (G = doL F (L.take m)) ∧ Below w5.heap.size w5 wr2) (fun _ y _ => N - (intOf y).toNat)
        case atStart => exact ⟨0, _, Nat.zero_le _, rfl, rfl, rfl, Below.refl _ _⟩
        case round =>
          rename World => wq
          obtain ⟨m, G, hm, rfl, rfl, HG, hbel2⟩ := hrel
          by_cases hlt : m < N
          · have hlt2 : m < L.length := by rw [← HN.out]; omega
            have hin1 := hin.below hbel2 hg
            have c0 := hin1.er m hlt2
            have c1 := hin1.pl m hlt2
            have c2 := hin1.tx m hlt2
            have k1 := HD.out m hlt2
            rw [← HG.out] at k1
            have HG2 : Hid (cutS G L[m].er L[m].pl L[m].tx 96 = doL F (L.take (m + 1))) := by show _ = _; rw [doL_take _ _ m hlt2, ← HG.out]
            have CD := hide (fun w => OpsRef.refDo_any G L[m].er L[m].pl L[m].tx w)
            rw [k1] at CD
            clear k1 HG hin1
            generalize cutS G L[m].er L[m].pl L[m].tx 96 = G2 at *
            go_wp2_with (go_at_call 19; refine (CD.out _).mono ?_; rintro e w6 ⟨rfl, hb⟩)
            exact ⟨⟨m + 1, G2, by omega, rfl, by go_num, HG2, thenB hbel2 hb⟩, by simp [intOf]; omega⟩
          · obtain rfl : m = N := by omega
            have hG : G = doL F L := by rw [HG.out, List.take_of_length_le (by rw [← HN.out]; omega)]
            obtain ⟨v1, v2, v3, v4, v5, v6⟩ := HE.out G hG
            have CA := hide (fun w => refActive_any G w)
            rw [v2, v3, v4, v5, v6] at CA
            have HV := hide v1
            replace hB := thenB hB hbel2
            replace hR := boxB hR hbel2
            clear v1 v2 v3 v4 v5 v6 hG HG HD HE hin hg hbel2 hlt
            generalize (actV G).pa = A at *
            go_wp2_with fail
            refine (CA.out _).mono ?_; rintro e w7 ⟨rfl, hb⟩; replace hB := thenB hB hb; replace hR := boxB hR hb; clear hb
            have hal := (Below.refl w7.heap.size w7).alloc (Nat.le_refl _) (.cells #[.int .i64 A, .int .i64 ((n : Int) + 1), .int .i64 T, .int .i64 Z, .int .i64 M] 40)
            have hX := box5M w7 (.int .i64 A) (.int .i64 ((n : Int) + 1)) (.int .i64 T) (.int .i64 Z) (.int .i64 M) 40
            replace hB := thenB hB hal; replace hR := boxB hR hal; clear hal
            go_upto_region 20 with fail
            generalize w7.alloc (.cells #[.int .i64 A, .int .i64 ((n : Int) + 1), .int .i64 T, .int .i64 Z, .int .i64 M] 40) = W7 at *
            generalize w7.heap.size = B7 at *
            unfold Box5 at hX
            go_wp2
            exact ⟨⟨n + 1, G, by omega, rfl, by go_num, HV, hB⟩, by simp [intOf]; omega⟩
    · have CT := hide (fun w => tame_any F w)
      rw [HT.out F n HI.out] at CT
      have hz := HH.out
      clear HI HT H0 w0
      by_cases hl : n < len0
      · have hg1 : decide ((n : Int) < (len0 : Int)) = true := decide_eq_true (by omega)
        have hg2 : decide ((n : Int) < 30) = false := decide_eq_false (by omega)
        go_wp2_with (first | (go_at_call 24; refine (C2.out _).mono ?_; rintro e w2 ⟨rfl, hb⟩; replace hbel := thenB hbel hb; clear hb) | (go_at_call 18; refine (CT.out _).mono ?_; rintro e w3 ⟨rfl, hb⟩; replace hbel := thenB hbel hb; clear hb))
        go_ret
        exact ⟨rfl, hbel⟩
      · have hg1 : decide ((n : Int) < (len0 : Int)) = false := decide_eq_false (by omega)
        go_wp2_with (first | (go_at_call 24; refine (C2.out _).mono ?_; rintro e w2 ⟨rfl, hb⟩; replace hbel := thenB hbel hb; clear hb) | (go_at_call 18; refine (CT.out _).mono ?_; rintro e w3 ⟨rfl, hb⟩; replace hbel := thenB hbel hb; clear hb))
        go_ret
        exact ⟨rfl, hbel⟩

set_option maxRecDepth 100000 in
theorem lifted (os : Os) (started : os.Started) (H : Type) (enc : TypeId × Value → H) :
    ReturnsInHanded {} Try.checked os 7 .any (Rows.placeRowSpec.pre6 enc Try.prog Try.f7 Rows.placeRowRow.domain false) (Rows.placeRowSpec.post enc Try.prog Try.f7 false true false false) := by
  refine returnsInHanded_of_change (C := Try.checked) own started (by kernel_rfl) Try.func7
    (ChangeSpec.witness6 (enc := enc) (C := Try.checked) false ⟨#[], #[.slice none 0 0], []⟩ 8 (by kernel_rfl) (by kernel_rfl) (by kernel_rfl) (by kernel_rfl)) ?_
  intro W base args ds gs before hval0 hW hcnd _
  have hval : ∀ (j : Nat) t v, Try.f7.params[j]? = some t → args[j]? = some v → Value.okWide Try.prog W .any base t v := hval0
  have hW' := hW
  obtain ⟨p, q, hA0, hV, rfl, hfz, hnd⟩ := hW
  have hA : DataW.TrodAll enc Try.prog W 0 (fun _ => true) true Try.f7.params.toList args.toList ds p := hA0
  rw [Try.params7] at hA hval
  obtain ⟨v0, vs0, d0, ds0, p0, q0, hargs, rfl, rfl, h0, r0⟩ := trodAll_cons hA
  obtain ⟨rfl, rfl, rfl⟩ := trodAll_nil r0
  obtain rfl : args = #[v0] := by cases args; simp_all
  obtain ⟨rfl, rfl⟩ := trodVars_none hV
  obtain ⟨a0, len0, cap0, rfl⟩ := okWide_slice Try.underlying58 (hval 0 58 v0 rfl rfl)
  have k0 := h0
  have lt0 : ∀ x ∈ p0, x.block < W.heap.size := by obtain ⟨m, hm⟩ := k0; exact DataW.trod_lt m _ _ _ hm
  obtain ⟨z0, w0⟩ : ∃ zs, IsRow .i64 W a0 len0 cap0 zs := by
    obtain ⟨fuel, hf⟩ := h0
    rcases open_ints Try.underlying58 Try.underlying3 (by kernel_rfl) hf with ⟨hcs, _⟩ | ⟨x, l, c, zs, hcs, _, hl, hm, hz, _, hcell, hwz⟩
    · simp [Value.cells] at hcs
      obtain ⟨rfl, rfl, rfl⟩ := hcs
      exact ⟨[], .inl ⟨rfl, rfl, rfl, rfl⟩⟩
    · simp [Value.cells] at hcs
      obtain ⟨rfl, rfl, rfl⟩ := hcs
      exact ⟨zs, .inr ⟨_, rfl, hl, hm, by simpa using hz, hcell, hwz⟩⟩
  clear hA0 hval0
  refine (walk a0 len0 cap0 z0 W w0).mono fun e W' ⟨he, bel⟩ => ?_
  subst he
  exact ⟨_, rfl, _, _, _, [], _, [], hW', trodAll_mk1 (shut_bool Try.underlying4 _), (trodAll_cons_mk (Below.trod laidOut (by kernel_rfl) (of_decide_eq_true (by kernel_rfl)) k0 bel lt0) trodAll_mk0), rfl, bel.frame _, fun h => by cases h⟩

theorem over : Rows.placeRowRow.holds Try.pinned (OpenSpec.ofChange Rows.placeRowSpec) :=
  OpenClaim.holds_of_wide 7 Try.f7 rfl rfl rfl rfl rfl rfl rfl ⟨rfl, rfl, rfl, rfl, rfl⟩ rfl rfl rfl rfl rfl (by kernel_rfl) Try.func7 (by kernel_rfl)
    (of_decide_eq_true (by kernel_rfl)) (by unfold Func.isWrapper; first | (rw [if_pos (by decide +kernel)]; kernel_rfl) | (rw [if_neg (by decide +kernel)]; exact ⟨rfl, rfl⟩))
    (fun os started H enc _ => lifted os started H enc)

theorem proved : Rows.PlaceRowSaid := over
#print axioms proved
end Go.Proofs.Ytpekhgopaakabaa.placeRow
