/- Whatever the text, the numbers and the number: the law DownloadBlocks returns true (blocks that come in their row, each as often as it likes, are all of it, once; any other one fails), and the arguments read as they did; no condition. -/
import Derived.Test.YthpoefaipmcceaaRows
import Derived.Test.YthpoefaipmcceaaBagNor
import Derived.Test.YthpoefaipmcceaaBagOps
import Derived.Test.YthpoefaipmcceaaBagDev
import Derived.Test.YthpoefaipmcceaaBagDnl
import Derived.Test.YthpoefaipmcceaaBagRow
import Derived.Test.YthpoefaipmcceaaDnlAwake
import Derived.Deep.RegionHeld3
import Derived.Deep.RegionWith
import Derived.Deep.Cut
import Derived.WalkKit
import Derived.ProofKit
import Derived.OpenShut
import Derived.ShutString
import Derived.ChangeOld
import Derived.Below
namespace Go.Proofs.Ythpoefaipmcceaa.downloadBlocks
open Go.ChangeShapes Go.WideShapes Go.ChangeAt Go.RowKit
open Go.ChangeMaps (open_string shut_string)
set_option linter.unusedVariables false

open Go.Proofs.Ythpoefaipmcceaa.Bytes
open Go.Proofs.Ythpoefaipmcceaa.Ops
open Go.Proofs.Ythpoefaipmcceaa.OpsRow
open Go.Proofs.Ythpoefaipmcceaa.Jou
open Go.Proofs.Ythpoefaipmcceaa.Act
open Go.Proofs.Ythpoefaipmcceaa.Held
open Go.Proofs.Ythpoefaipmcceaa.Cho
open Go.Proofs.Ythpoefaipmcceaa.Sta
open Go.Proofs.Ythpoefaipmcceaa.Dev
open Go.Proofs.Ythpoefaipmcceaa.DevRow
open Go.Proofs.Ythpoefaipmcceaa.DevSet
open Go.Proofs.Ythpoefaipmcceaa.DevAwake
open Go.Proofs.Ythpoefaipmcceaa.Dnl
open Go.Proofs.Ythpoefaipmcceaa.DnlMore
open Go.Proofs.Ythpoefaipmcceaa.DnlDoes
open Go.Proofs.Ythpoefaipmcceaa.DnlAll
theorem own : ownKnob Try.prog.godebug = none := by kernel_rfl
theorem laidOut : laidOutB Try.prog = true := by kernel_rfl

/-- WHAT THE WALK IS TOLD OF A SLICE OF INTEGERS THAT CAME IN: it is nil; or it leads to a row of 'cap' cells, the numbers 'zs' (the first 'len' are its elements, the rest its spare room), each fitting its kind. -/
def IsRow (k : IntKind) (w : World) (a : Option Addr) (len cap : Nat) (zs : List Int) : Prop :=
  (a = none ∧ len = 0 ∧ cap = 0 ∧ zs = []) ∨
  ∃ x, a = some x ∧ len ≤ cap ∧ cap ≤ maxLen ∧ zs.length = cap ∧ (∀ i, i < zs.length → w.cell? (x.add i) = some (.int k (zs.getD i 0))) ∧ ∀ n ∈ zs, (Lit.int k n).wf = true

open Go.Proofs.Ythpoefaipmcceaa.NorRef (refBlank_any)
open Go.Proofs.Ythpoefaipmcceaa.DevHelp (num_any)
theorem text_is {a b : ByteArray} (h : a = b) : (a.toList == b.toList) = true := by rw [h]; exact beq_iff_eq.2 rfl
theorem run_min2 {P : Program} (a b k : Int) (h : k = min a b) (ts : Array TypeId) (t : TypeId) (w : World) : (Builtin.min_ ts t #[.int .i64 a, .int .i64 b]).run P w = .ok (.int .i64 k) w := by
  simp [Builtin.min_, Builtin.min2]
  subst h
  repeat split
  all_goals omega
theorem ways (n : Nat) : (n : Int) < 1 ∨ (¬ (n : Int) < 1 ∧ 288 < (n : Int)) ∨ (¬ (n : Int) < 1 ∧ ¬ 288 < (n : Int)) := by omega
theorem row_read {w wr : World} {a : Option Addr} {len cap : Nat} {zs : List Int} (h : IsRow .i64 w a len cap zs) (hb : Below w.heap.size w wr) {k : Nat} (hk : k < len) : ∃ x v, a = some x ∧ wr.cell? (x.add k) = some (.int .i64 v) := by
  rcases h with ⟨_, rfl, _⟩ | ⟨x, rfl, h1, h2, h3, h4, _⟩
  · omega
  have hc := h4 k (by omega)
  refine ⟨x, zs.getD k 0, rfl, ?_⟩
  have hlt : (x.add k).block < w.heap.size := by
    rcases Nat.lt_or_ge (x.add k).block w.heap.size with hl | hl
    · exact hl
    · have : w.heap[(x.add k).block]? = none := Array.getElem?_eq_none hl
      rw [World.cell?, this] at hc
      cases hc
  rw [hb.cell hlt]
  exact hc
theorem last {F : ByteArray} (hF : F.size = 768) {M e z : Nat} (hM : 1 ≤ M) (hM9 : M ≤ 9) (hz : z ≤ 288) (he : e ≤ 31) : ∃ (D : FDev) (n : Nat), D.ops.length = n ∧ okB F (downD (M : Int) (z : Int)) (e : Int) ⟨#[120]⟩ = true ∧ takeD F (downD (M : Int) (z : Int)) (e : Int) ⟨#[120]⟩ = D ∧ ((e = M ∧ ¬ z % 32 = 0 ∧ D.sa = 7) ∨ (e = M ∧ z % 32 = 0 ∧ z = 288 ∧ D.sa = 7) ∨ (e = M ∧ z % 32 = 0 ∧ ¬ z = 288 ∧ D.sa = 1) ∨ (¬ e = M ∧ e + 1 = M ∧ D.sa = 1) ∨ (¬ e = M ∧ ¬ e + 1 = M ∧ D.sa = 7)) := by
  have hs : (⟨#[120]⟩ : ByteArray).size = 1 := rfl
  have hok : okB F (downD (M : Int) (z : Int)) (e : Int) ⟨#[120]⟩ = true := ok_down (mayF_t hF) (by omega) (by omega) (by omega) (by omega) (by omega) (by omega) (by omega)
  refine ⟨_, _, rfl, hok, rfl, ?_⟩
  by_cases h1 : e = M
  · subst h1
    by_cases h2 : z % 32 = 0
    · by_cases h3 : z = 288
      · refine .inr (.inl ⟨rfl, h2, h3, ?_⟩)
        rw [full_is hok (by decide) (by rw [hs]; omega)]
        rfl
      · refine .inr (.inr (.inl ⟨rfl, h2, h3, ?_⟩))
        rw [more_is hok (by decide) (by omega) (by rw [hs]; omega) (by omega)]
    · refine .inl ⟨rfl, h2, ?_⟩
      rw [full_is hok (by decide) (by omega)]
      rfl
  · by_cases h2 : e + 1 = M
    · refine .inr (.inr (.inr (.inl ⟨h1, h2, ?_⟩)))
      rw [again_is hok (by omega)]
    · refine .inr (.inr (.inr (.inr ⟨h1, h2, ?_⟩)))
      rw [other_is hok (by omega) (by omega)]
      rfl
theorem beq_t {a b : Int} (h : a = b) : (a == b) = true := by rw [h]; exact beq_self_eq_true _
theorem beq_f {a b : Int} (h : ¬ a = b) : (a == b) = false := beq_eq_false_iff_ne.2 h
theorem bne_t {a b : Int} (h : ¬ a = b) : (a != b) = true := bne_iff_ne.2 h
theorem bne_f {a b : Int} (h : a = b) : (a != b) = false := by rw [h]; exact bne_self_eq_false _
set_option maxRecDepth 100000 in
set_option maxHeartbeats 16000000 in
theorem walk (a0 : ByteArray) (a1 : Option Addr) (len1 cap1 : Nat) (z1 : List Int) (a2 : Int) (w : World) (w0 : a0.size ≤ maxLen) (w1 : IsRow .i64 w a1 len1 cap1 z1) (w2 : (Lit.int .i64 a2).wf = true) :
    Calls Try.prog 5 #[.string a0, .slice a1 len1 cap1, .int .i64 a2] w fun e w' => e = .returned (.bool true) ∧ Below w.heap.size w w' := by
  have hB : Below w.heap.size w w := Below.refl _ _
  have br := DevWalk.build_d0
  rcases ways a0.size with h1 | ⟨h1, h2⟩ | ⟨h1, h2⟩
  iterate 2
    · go_enter Try.func5, Try.ntmps5
      go_wp2_with (go_at_call 14; refine (DnlAwake.awake_any _).mono ?_; rintro e w' ⟨rfl, hb⟩; replace hB := hB.trans (hb.mono hB.size); clear hb)
      go_ret
      exact ⟨rfl, hB⟩
  have C1 := hide (fun w => refBlank_any w)
  have HW1 := hide w1
  have g0 : 1 ≤ a0.size := by omega
  have g1 : a0.size ≤ 288 := by omega
  have HT := hide (fun (c : Int) (j x y : Nat) (hx : x = 32 * j) (hxs : x < a0.size) (hy : y = min a0.size (x + 32)) (hc : (j = 0 ∧ c = 0) ∨ (1 ≤ j ∧ c = 3)) => row_take (s := a0) g1 hx hxs hy hc)
  have HG := hide (fun (t : ByteArray) (j y : Nat) (hj : j ≤ 9) (hy : y ≤ 288) (ht : t.size ≤ 32) => row_again (t := t) hj hy ht)
  have HE := hide (fun (M : Nat) (hM : a0.size ≤ 32 * M) (hM1 : 1 ≤ M) => all_end g0 g1 hM hM1)
  have HF0 := hide Nor.size_blankS
  generalize Nor.blankS = F0 at *
  clear w1
  go_enter Try.func5, Try.ntmps5
  go_wp2_with (first | (go_at_call 14; refine (DnlAwake.awake_any _).mono ?_; rintro e w' ⟨rfl, hb⟩; replace hB := hB.trans (hb.mono hB.size); clear hb) | (go_at_call 15; refine (C1.out _).mono ?_; rintro e w' ⟨rfl, hb⟩; replace hB := hB.trans (hb.mono hB.size); clear hb))
  have hX := resM w' (.int .i64 0) (.int .i64 0) (.int .i64 0) (.int .i64 0) (.int .i64 0) (.slice none 0 0) 24
  have hBB := hB.size
  replace hB := thenB hB (hal w' (.cells #[.int .i64 0, .int .i64 0, .int .i64 0, .int .i64 0, .int .i64 0, .slice none 0 0] 24))
  generalize w'.alloc _ = W at *
  generalize w'.heap.size = B at *
  clear C1
  go_loopw [9, 10, 11] (fun kv v at' wr => ∃ (j x g : Nat) (c : Int), kv = .int .i64 (j : Int) ∧ at' = .int .i64 (x : Int) ∧ x = 32 * j ∧ x < a0.size + 32 ∧ g = min x a0.size ∧ ((j = 0 ∧ c = 0) ∨ (1 ≤ j ∧ c = 3)) ∧ Res wr B (.int .i64 c) (.int .i64 0) (.int .i64 (j : Int)) (.int .i64 (g : Int)) (.int .i64 0) (.slice none 0 0) ∧ wr.ownsRow (B + 1) 44 3 v (allL a0 j).length (flat (allL a0 j)) ∧ Below w.heap.size w wr) (fun _ _ x _ => a0.size - (intOf x).toNat)
  case atStart => exact ⟨0, 0, 0, 0, rfl, rfl, rfl, by omega, by omega, .inl ⟨rfl, rfl⟩, hX, owns_nil _ _ _, hB⟩
  case round =>
    clear hX hB
    obtain ⟨j, x, g, c, rfl, rfl, hx, hxs, hg, hc, hX, hA, hB⟩ := hrel
    by_cases hlt : x < a0.size
    · obtain rfl : g = x := by omega
      obtain ⟨y, hy⟩ : ∃ y : Nat, y = min a0.size (g + 32) := ⟨_, rfl⟩
      obtain ⟨q, hq⟩ : ∃ q : Nat, q = g + 32 := ⟨_, rfl⟩
      obtain ⟨L, n, hn, n1, n11, hok, htk, hall⟩ := HT.out c j g y hx hlt hy hc
      obtain ⟨z1, z2, z3⟩ := size_piece hy hlt
      have C2 := hide (fun w => DnlHelp.tookO hok htk hn (.slice none 0 0) w (isSt_nil w))
      dsimp only at C2
      have C4 := hide (fun w => DnlAwake.took (n := 0) (HG.out (a0.extract g y) j y (by omega) (by omega) (by omega)).1 (HG.out (a0.extract g y) j y (by omega) (by omega) (by omega)).2 rfl (.slice none 0 0) w (isSt_nil w))
      dsimp only at C4
      have y2 : IntKind.i64.wrap ((g : Int) + 32) = (q : Int) := by rw [IntKind.wrap_i64]; omega
      have y3 : (g : Int) ≤ (y : Int) := by omega
      have y4 : (y : Int) ≤ (a0.size : Int) := by omega
      have hmn := fun ts t w => run_min2 (P := Try.prog) (a0.size : Int) (q : Int) (y : Int) (by omega) ts t w
      have HY5 : Hid (IntKind.i64.wrap ((g : Int) + ((a0.extract g y).size : Int)) = (y : Int)) := by show _ = _; rw [IntKind.wrap_i64]; omega
      have y6 : ((y : Int) != (y : Int)) = false := bne_self_eq_false _
      have y7 : (((j : Int) + 1) != ((j : Int) + 1)) = false := bne_self_eq_false _
      have j9 : j ≤ 9 := by omega
      have HL := hide hall
      have HN := hide hn
      have HZ := hide (⟨hx, hy, hq, hlt, hxs⟩ : g = 32 * j ∧ y = min a0.size (g + 32) ∧ q = g + 32 ∧ g < a0.size ∧ g < a0.size + 32)
      have hlt' : (g : Int) < (a0.size : Int) := by omega
      have hlen := length_all a0 j g1
      clear hok htk hall hx hy hq hlt hxs z1 z2 z3 hn hc hg
      go_upto_region 13 with fail
      generalize a0.extract g y = P at *
      have y5 := HY5.out
      clear HY5
      go_wp2_with fail
      have hsz := hX.1
      refine (C2.out _).mono ?_
      rintro e u2 ⟨sa, sc, rfl, hO, hb⟩
      replace hA := owns_below hA hb
      replace hX := resB hX hb
      replace hB := thenB hB hb
      clear hb
      have hAG : ∀ k, Value.ownBlock u10 = some k → k < u2.heap.size := fun k hk => (hA.lt k hk).2
      have hR := resM u2 (.int .i64 1) (.int .i64 0) (.int .i64 ((j : Int) + 1)) (.int .i64 (y : Int)) (.int .i64 0) (.slice sa n sc) 24
      have hn := hal u2 (.cells #[.int .i64 1, .int .i64 0, .int .i64 ((j : Int) + 1), .int .i64 (y : Int), .int .i64 0, .slice sa n sc] 24)
      have hBG := hX.1
      have hwG := hB.size
      replace hA := owns_below hA hn
      replace hO := owns_below hO hn
      replace hX := resB hX hn
      replace hB := thenB hB hn
      have hWG : u2.heap.size < (u2.alloc (.cells #[.int .i64 1, .int .i64 0, .int .i64 ((j : Int) + 1), .int .i64 (y : Int), .int .i64 0, .slice sa n sc] 24)).heap.size := by simp
      clear hn
      go_upto_region 14 with fail
      generalize u2.alloc _ = W2 at *
      generalize u2.heap.size = G at *
      go_upto_region 16 with (go_at_call 12; refine (num_any _ _).mono ?_; rintro e w' ⟨rfl, rfl⟩)
      obtain ⟨i, hi, hz0, hz1, hz2⟩ := info_parts OpsWalk.info_op
      obtain ⟨g2', cap2, he2, _, _⟩ := hO.form (by omega)
      cases he2
      have hs2 : B + 1 ≤ w'.heap.size := by have := hX.1; omega
      have hww : w.heap.size ≤ w'.heap.size := by omega
      have hb1 : (allL a0 j).length + n ≤ maxLen := by unfold maxLen; omega
      have hb2 : ((allL a0 j).length + n) * 32 ≤ 140737488355328 := by omega
      have hfl : (flat L).length = n * 3 := by rw [length_flat, HN.out]
      have HB := hide hB
      have HX := hide hX
      clear hB hX
      go_upto_region 17 with (at_builtin; refine wpList_append_lies _ rfl _ _ _ rfl (B + 1) 44 i _ 3 32 Try.underlying22 hi hz0 hz1 hz2 rfl (by omega) _ (allL a0 j).length _ rfl hA ⟨g2', 0, none⟩ n _ (flat L) rfl hfl (news_of hO) (flat_oneCell _) (by omega) hb1 hb2 hs2 _ rfl ?_; intro g4 cap4 w4 hown2 hgrow2 hat2 hlt2)
      have hne1 : ¬ some G = Value.ownBlock u10 := fun e => Nat.lt_irrefl _ (hAG G e.symm)
      have hne2 : ¬ some B = Value.ownBlock u10 := fun e => by have := (hA.lt B e.symm).1; omega
      have hR := resG hR hgrow2 hne1
      have hX := resG HX.out hgrow2 hne2
      have hB := HB.out.grown hgrow2 hww (fun k hk => by have := (hA.lt k hk).1; omega)
      have hg4 : g4 ≠ G := by
        rcases hat2 with e | e
        · exact Nat.ne_of_lt (hAG g4 e)
        · rw [e]; exact Nat.ne_of_gt hWG
      have hlen2 : (allL a0 j).length + n = (allL a0 (j + 1)).length := by rw [← HL.out, List.length_append, HN.out]
      have hA2 : w4.ownsRow (B + 1) 44 3 (.slice (some ⟨g4, 0, none⟩) ((allL a0 j).length + n) cap4) (allL a0 (j + 1)).length (flat (allL a0 (j + 1))) := by rw [← hlen2, ← HL.out, flat_append]; exact hown2
      clear hgrow2 hat2 hA hO HB HX hown2 hne1 hne2 hlen2
      have HA2 := hide hA2
      have HX := hide hX
      have HB := hide hB
      clear hA2 hX hB
      go_upto_region 19 with fail
      replace hR := res5 (res0 hR (.int .i64 3)) (.slice none 0 0)
      have hGB : G ≠ B := Nat.ne_of_gt hBG
      have hX := resO (resO HX.out hGB 0 (.int .i64 3)) hGB 5 (.slice none 0 0)
      have hB := (HB.out.setCell (p := ⟨G, 0, none⟩) hwG (.int .i64 3)).setCell (p := ⟨G, 5, none⟩) hwG (.slice none 0 0)
      have hA := ownsRow_setCell_other (ownsRow_setCell_other HA2.out (a := ⟨G, 0, none⟩) (fun h => hg4 (Option.some.inj h)) (.int .i64 3)) (a := ⟨G, 5, none⟩) (fun h => hg4 (Option.some.inj h)) (.slice none 0 0)
      clear HA2 HX HB hg4 C2
      generalize (w4.setCell _ _).setCell _ _ = W5 at *
      generalize (allL a0 j).length + n = NN at *
      go_wp2_with fail
      go_loopw [15] (fun yv wr' => ∃ m : Nat, m ≤ 3 ∧ yv = .int .i64 (m : Int) ∧ Below W5.heap.size W5 wr') (fun yv _ => 3 - (intOf yv).toNat)
      case atStart => exact ⟨0, by omega, rfl, Below.refl _ _⟩
      case round =>
        obtain ⟨m, hm, rfl, hbel⟩ := hrel
        by_cases hk : j < len1
        · obtain ⟨xa, xv, rfl, hcell⟩ := row_read HW1.out (thenB hB hbel) hk
          obtain ⟨e, he, me⟩ : ∃ k : Nat, k ≤ 3 ∧ bits .and .i64 xv 3 = (k : Int) := mask_i64 xv 3 (by omega)
          have hk' : (j : Int) < (len1 : Int) := by omega
          by_cases hme : m < e
          · have hme' : (m : Int) < (e : Int) := by omega
            replace hR := resB hR hbel
            clear hX hA hB
            go_wp2_with fail
            refine (C4.out _).mono ?_
            rintro e2 u5 ⟨ta, tc, rfl, _, hb⟩
            have hT := resM u5 (.int .i64 1) (.int .i64 0) (.int .i64 ((j : Int) + 1)) (.int .i64 (y : Int)) (.int .i64 0) (.slice ta 0 tc) 24
            have hn := hal u5 (.cells #[.int .i64 1, .int .i64 0, .int .i64 ((j : Int) + 1), .int .i64 (y : Int), .int .i64 0, .slice ta 0 tc] 24)
            replace hbel := thenB (thenB hbel hb) hn
            replace hR := resB (resB hR hb) hn
            clear hb hn
            go_upto_region 23 with fail
            generalize u5.alloc _ = W6 at *
            generalize u5.heap.size = G6 at *
            go_wp2_with (go_at_call 12; refine (num_any _ _).mono ?_; rintro e w' ⟨rfl, rfl⟩)
            exact ⟨⟨m + 1, by omega, by go_num, hbel⟩, by simp [intOf]; omega⟩
          · have hme' : ¬ (m : Int) < (e : Int) := by omega
            replace hX := resB hX hbel
            replace hR := resB hR hbel
            replace hA := owns_below hA hbel
            replace hB := thenB hB hbel
            have HX := hide hX
            have HA := hide hA
            have HB := hide hB
            have hfz := hX.2.2.2.2.2.2.2
            clear hA hB hbel
            go_wp2_with fail
            obtain ⟨p1, p2, p3, p4, p5⟩ := HZ.out
            refine ⟨⟨j + 1, q, y, 3, by go_num, rfl, by omega, by omega, by omega, .inr ⟨by omega, rfl⟩, ?_, own6 HA.out (Nat.lt_succ_self _) _ _ _ _ _ _, set6 HB.out hBB⟩, by simp [intOf]; omega⟩
            rw [show ((j + 1 : Nat) : Int) = (j : Int) + 1 by omega]
            exact res6 HX.out _ _ _ _ _ _
        · have hk' : ¬ (j : Int) < (len1 : Int) := by omega
          replace hX := resB hX hbel
          replace hR := resB hR hbel
          replace hA := owns_below hA hbel
          replace hB := thenB hB hbel
          have HX := hide hX
          have HA := hide hA
          have HB := hide hB
          have hfz := hX.2.2.2.2.2.2.2
          clear hA hB hbel
          go_wp2_with fail
          obtain ⟨p1, p2, p3, p4, p5⟩ := HZ.out
          refine ⟨⟨j + 1, q, y, 3, by go_num, rfl, by omega, by omega, by omega, .inr ⟨by omega, rfl⟩, ?_, own6 HA.out (Nat.lt_succ_self _) _ _ _ _ _ _, set6 HB.out hBB⟩, by simp [intOf]; omega⟩
          rw [show ((j + 1 : Nat) : Int) = (j : Int) + 1 by omega]
          exact res6 HX.out _ _ _ _ _ _
    · have hj1 : 1 ≤ j := by omega
      have hc3 : c = 3 := by omega
      subst hc3
      have hgs : g = a0.size := by omega
      subst hgs
      obtain ⟨hm, x0, x1⟩ := HE.out j (by omega) hj1
      have HO := hide (fun n h => do_ok HF0.out hm (n := n) h)
      have HT2 := hide (fun n h => doL_take F0 (allL a0 j) n h)
      have hl75 := length_all a0 j g1
      have hl3 : 3 ≤ (allL a0 j).length := by
        obtain ⟨j', rfl⟩ : ∃ j', j = j' + 1 := ⟨j - 1, by omega⟩
        show 3 ≤ (erTo ((192 : Nat) : Int) 3 ++ _).length
        rw [List.length_append, length_erTo]
        omega
      obtain ⟨r, hr⟩ : ∃ r : Nat, r = 192 + a0.size := ⟨_, rfl⟩
      rw [← hr] at x1
      have HXX := hide (⟨x0, text_is x1⟩ : _ ∧ _)
      have r1 : (192 : Int) ≤ (r : Int) := by omega
      have r2 : (r : Int) ≤ 480 := by omega
      have r3 : IntKind.i64.wrap ((192 : Int) + (a0.size : Int)) = (r : Int) := by rw [IntKind.wrap_i64]; omega
      have f2 : ((a0.size : Int) == (a0.size : Int)) = true := beq_self_eq_true _
      have hlt' : ¬ (x : Int) < (a0.size : Int) := by omega
      have j9 : j ≤ 9 := by omega
      obtain ⟨N, hN⟩ : ∃ N : Nat, (allL a0 j).length = N := ⟨_, rfl⟩
      rw [hN] at hA hl3 hl75
      have HN := hide hN
      clear hm x0 x1 hr hN hg hx hxs hlt HT HG HE hc
      generalize allL a0 j = L at *
      obtain ⟨ga, cap, rfl, _, _⟩ := hA.form (by omega)
      have hI := ownsS_is hA
      obtain ⟨_, gb, go, hge, s1, s2, hgl, hin⟩ := DnlHelp.st_open hI (by omega)
      clear hI hA
      go_wp2_with fail
      go_loopw [7, 18] (fun xv yv wr' => ∃ (m : Nat) (F' : ByteArray), m ≤ N ∧ xv = .string F' ∧ yv = .int .i64 (m : Int) ∧ Hid (F' = doL F0 (L.take m)) ∧ Below wr.heap.size wr wr') (fun _ yv _ => N - (intOf yv).toNat)
      case atStart => exact ⟨0, _, Nat.zero_le _, rfl, rfl, rfl, Below.refl _ _⟩
      case round =>
        obtain ⟨m, F', hm, rfl, rfl, HF, hbel⟩ := hrel
        by_cases hlt : m < N
        · have hlt2 : m < L.length := by rw [HN.out]; exact hlt
          cases hge
          have hin1 := hin.below hbel hgl
          have c0 := hin1.er m hlt2
          have c1 := hin1.pl m hlt2
          have c2 := hin1.tx m hlt2
          rw [Nat.zero_add] at c0 c1 c2
          have HD := hide (fun w => OpsRef.refDo_any F' L[m].er L[m].pl L[m].tx w)
          have hok := HO.out m hlt2
          rw [← HF.out] at hok
          rw [hok, show errO true = 0 from rfl] at HD
          have HF2 : Hid (cutS F' L[m].er L[m].pl L[m].tx 96 = doL F0 (L.take (m + 1))) := by show _ = _; rw [HF.out]; exact (HT2.out m hlt2).symm
          clear hok HF
          generalize cutS F' L[m].er L[m].pl L[m].tx 96 = F2 at *
          generalize L[m].er = E at *
          generalize L[m].pl = A at *
          generalize L[m].tx = T at *
          clear hin1 hin HO HT2 HXX HN hX
          go_wp2_with (go_at_call 16; refine (HD.out _).mono ?_; rintro e w3 ⟨rfl, hb⟩)
          exact ⟨⟨m + 1, _, by omega, rfl, by go_num, HF2, hbel.trans (hb.mono hbel.size)⟩, by simp [intOf]; omega⟩
        · obtain rfl : m = N := by omega
          have hF := HF.out
          rw [show L.take m = L by rw [← HN.out, List.take_length]] at hF
          obtain ⟨zF, X1⟩ := HXX.out
          rw [← hF] at zF X1
          have t1 : F'.size ≤ 768 := by omega
          have t2 : 768 ≤ F'.size := by omega
          have i1 : (r : Int) ≤ (F'.size : Int) := by omega
          have i3 : (192 : Int) ≤ (F'.size : Int) := by omega
          obtain ⟨e, he, me⟩ : ∃ k : Nat, k ≤ 31 ∧ bits .and .i64 a2 31 = (k : Int) := mask_i64 a2 31 (by omega)
          obtain ⟨D, n, hn, hok, htk, hway⟩ := last zF hj1 j9 g1 he
          have C5 := hide (fun w => DnlAwake.took hok htk hn (.slice none 0 0) w (isSt_nil w))
          have hok2 : okB F' (downD (j : Int) (a0.size : Int)) (j : Int) ⟨#[]⟩ = true := ok_down (mayF_t zF) (by omega) (by omega) (by omega) (by omega) (by omega) (by omega) (by decide)
          have C6 := hide (fun w => DnlAwake.took (n := 0) hok2 (none_is hok2 rfl) rfl (.slice none 0 0) w (isSt_nil w))
          obtain ⟨da, du, dn, dg, dl, dops⟩ := D
          dsimp only at C5 C6 hway
          replace hB := thenB hB hbel
          replace hX := resB hX hbel
          have fs := DnlHelp.field_sent
          clear hin hbel hgl HXX zF hF HF HO HT2 HN hm hlt hok htk hn hok2 hge
          rcases hway with ⟨p1, p2, rfl⟩ | ⟨p1, p2, p3, rfl⟩ | ⟨p1, p2, p3, rfl⟩ | ⟨p1, p2, rfl⟩ | ⟨p1, p2, rfl⟩
          · have n1 : ((e : Int) != (j : Int)) = false := bne_f (by omega)
            have n3 : ((e : Int) == (j : Int)) = true := beq_t (by omega)
            have n4 : ((a0.size : Int) % 32 != 0) = true := bne_t (by omega)
            clear p1 p2
            go_upto_region 35 with fail
            go_wp2_with fail
            refine (C5.out _).mono ?_; rintro e2 u2 ⟨sa, sc, rfl, _, hb⟩; replace hB := thenB hB hb; replace hX := resB hX hb; clear hb
            have hQ := resM u2 (.int .i64 7) (.int .i64 du) (.int .i64 dn) (.int .i64 dg) (.int .i64 dl) (.slice sa n sc) 24
            have hn := hal u2 (.cells #[.int .i64 7, .int .i64 du, .int .i64 dn, .int .i64 dg, .int .i64 dl, .slice sa n sc] 24)
            replace hB := thenB hB hn; replace hX := resB hX hn; clear hn
            go_upto_region 36 with fail
            generalize u2.alloc _ = W7 at *
            generalize u2.heap.size = G7 at *
            go_wp2_with fail
            refine (C6.out _).mono ?_; rintro e2 u3 ⟨sb, sd, rfl, _, hb⟩; replace hB := thenB hB hb; replace hQ := resB hQ hb; clear hb hX
            have hY := resM u3 (.int .i64 4) (.int .i64 0) (.int .i64 (j : Int)) (.int .i64 (a0.size : Int)) (.int .i64 0) (.slice sb 0 sd) 24
            have hn := hal u3 (.cells #[.int .i64 4, .int .i64 0, .int .i64 (j : Int), .int .i64 (a0.size : Int), .int .i64 0, .slice sb 0 sd] 24)
            replace hB := thenB hB hn; replace hQ := resB hQ hn; clear hn
            go_upto_region 37 with fail
            generalize u3.alloc _ = W8 at *
            generalize u3.heap.size = G8 at *
            go_wp2_with (first | (go_at_call 12; refine (num_any _ _).mono ?_; rintro e w' ⟨rfl, rfl⟩) | (go_at_call 17; refine (DnlAwake.sent_any _).mono ?_; rintro e w5 ⟨ka, kc, rfl, _, hb⟩; replace hB := thenB hB hb; clear hb))
            go_ret
            exact ⟨rfl, hB⟩
          · have n1 : ((e : Int) != (j : Int)) = false := bne_f (by omega)
            have n3 : ((e : Int) == (j : Int)) = true := beq_t (by omega)
            have n4 : ((a0.size : Int) % 32 != 0) = false := bne_f (by omega)
            have n5 : ((a0.size : Int) == 288) = true := beq_t (by omega)
            clear p1 p2 p3
            go_upto_region 35 with fail
            go_wp2_with fail
            refine (C5.out _).mono ?_; rintro e2 u2 ⟨sa, sc, rfl, _, hb⟩; replace hB := thenB hB hb; replace hX := resB hX hb; clear hb
            have hQ := resM u2 (.int .i64 7) (.int .i64 du) (.int .i64 dn) (.int .i64 dg) (.int .i64 dl) (.slice sa n sc) 24
            have hn := hal u2 (.cells #[.int .i64 7, .int .i64 du, .int .i64 dn, .int .i64 dg, .int .i64 dl, .slice sa n sc] 24)
            replace hB := thenB hB hn; replace hX := resB hX hn; clear hn
            go_upto_region 36 with fail
            generalize u2.alloc _ = W7 at *
            generalize u2.heap.size = G7 at *
            go_wp2_with fail
            refine (C6.out _).mono ?_; rintro e2 u3 ⟨sb, sd, rfl, _, hb⟩; replace hB := thenB hB hb; replace hQ := resB hQ hb; clear hb hX
            have hY := resM u3 (.int .i64 4) (.int .i64 0) (.int .i64 (j : Int)) (.int .i64 (a0.size : Int)) (.int .i64 0) (.slice sb 0 sd) 24
            have hn := hal u3 (.cells #[.int .i64 4, .int .i64 0, .int .i64 (j : Int), .int .i64 (a0.size : Int), .int .i64 0, .slice sb 0 sd] 24)
            replace hB := thenB hB hn; replace hQ := resB hQ hn; clear hn
            go_upto_region 37 with fail
            generalize u3.alloc _ = W8 at *
            generalize u3.heap.size = G8 at *
            go_wp2_with (first | (go_at_call 12; refine (num_any _ _).mono ?_; rintro e w' ⟨rfl, rfl⟩) | (go_at_call 17; refine (DnlAwake.sent_any _).mono ?_; rintro e w5 ⟨ka, kc, rfl, _, hb⟩; replace hB := thenB hB hb; clear hb))
            go_ret
            exact ⟨rfl, hB⟩
          · have n1 : ((e : Int) != (j : Int)) = false := bne_f (by omega)
            have n3 : ((e : Int) == (j : Int)) = true := beq_t (by omega)
            have n4 : ((a0.size : Int) % 32 != 0) = false := bne_f (by omega)
            have n5 : ((a0.size : Int) == 288) = false := beq_f (by omega)
            clear p1 p2 p3
            go_upto_region 35 with fail
            go_wp2_with fail
            refine (C5.out _).mono ?_; rintro e2 u2 ⟨sa, sc, rfl, _, hb⟩; replace hB := thenB hB hb; replace hX := resB hX hb; clear hb
            have hQ := resM u2 (.int .i64 1) (.int .i64 du) (.int .i64 dn) (.int .i64 dg) (.int .i64 dl) (.slice sa n sc) 24
            have hn := hal u2 (.cells #[.int .i64 1, .int .i64 du, .int .i64 dn, .int .i64 dg, .int .i64 dl, .slice sa n sc] 24)
            replace hB := thenB hB hn; replace hX := resB hX hn; clear hn
            go_upto_region 36 with fail
            generalize u2.alloc _ = W7 at *
            generalize u2.heap.size = G7 at *
            go_wp2_with fail
            refine (C6.out _).mono ?_; rintro e2 u3 ⟨sb, sd, rfl, _, hb⟩; replace hB := thenB hB hb; replace hQ := resB hQ hb; clear hb hX
            have hY := resM u3 (.int .i64 4) (.int .i64 0) (.int .i64 (j : Int)) (.int .i64 (a0.size : Int)) (.int .i64 0) (.slice sb 0 sd) 24
            have hn := hal u3 (.cells #[.int .i64 4, .int .i64 0, .int .i64 (j : Int), .int .i64 (a0.size : Int), .int .i64 0, .slice sb 0 sd] 24)
            replace hB := thenB hB hn; replace hQ := resB hQ hn; clear hn
            go_upto_region 37 with fail
            generalize u3.alloc _ = W8 at *
            generalize u3.heap.size = G8 at *
            go_wp2_with (first | (go_at_call 12; refine (num_any _ _).mono ?_; rintro e w' ⟨rfl, rfl⟩) | (go_at_call 17; refine (DnlAwake.sent_any _).mono ?_; rintro e w5 ⟨ka, kc, rfl, _, hb⟩; replace hB := thenB hB hb; clear hb))
            go_ret
            exact ⟨rfl, hB⟩
          · have n1 : ((e : Int) != (j : Int)) = true := bne_t (by omega)
            have n2 : ((e : Int) != (j : Int) - 1) = false := bne_f (by omega)
            have n3 : ((e : Int) == (j : Int)) = false := beq_f (by omega)
            clear p1 p2
            go_upto_region 35 with fail
            go_wp2_with fail
            refine (C5.out _).mono ?_; rintro e2 u2 ⟨sa, sc, rfl, _, hb⟩; replace hB := thenB hB hb; replace hX := resB hX hb; clear hb
            have hQ := resM u2 (.int .i64 1) (.int .i64 du) (.int .i64 dn) (.int .i64 dg) (.int .i64 dl) (.slice sa n sc) 24
            have hn := hal u2 (.cells #[.int .i64 1, .int .i64 du, .int .i64 dn, .int .i64 dg, .int .i64 dl, .slice sa n sc] 24)
            replace hB := thenB hB hn; replace hX := resB hX hn; clear hn
            go_upto_region 36 with fail
            generalize u2.alloc _ = W7 at *
            generalize u2.heap.size = G7 at *
            go_wp2_with fail
            refine (C6.out _).mono ?_; rintro e2 u3 ⟨sb, sd, rfl, _, hb⟩; replace hB := thenB hB hb; replace hQ := resB hQ hb; clear hb hX
            have hY := resM u3 (.int .i64 4) (.int .i64 0) (.int .i64 (j : Int)) (.int .i64 (a0.size : Int)) (.int .i64 0) (.slice sb 0 sd) 24
            have hn := hal u3 (.cells #[.int .i64 4, .int .i64 0, .int .i64 (j : Int), .int .i64 (a0.size : Int), .int .i64 0, .slice sb 0 sd] 24)
            replace hB := thenB hB hn; replace hQ := resB hQ hn; clear hn
            go_upto_region 37 with fail
            generalize u3.alloc _ = W8 at *
            generalize u3.heap.size = G8 at *
            go_wp2_with (first | (go_at_call 12; refine (num_any _ _).mono ?_; rintro e w' ⟨rfl, rfl⟩) | (go_at_call 17; refine (DnlAwake.sent_any _).mono ?_; rintro e w5 ⟨ka, kc, rfl, _, hb⟩; replace hB := thenB hB hb; clear hb))
            go_ret
            exact ⟨rfl, hB⟩
          · have n1 : ((e : Int) != (j : Int)) = true := bne_t (by omega)
            have n2 : ((e : Int) != (j : Int) - 1) = true := bne_t (by omega)
            have n3 : ((e : Int) == (j : Int)) = false := beq_f (by omega)
            clear p1 p2
            go_upto_region 35 with fail
            go_wp2_with fail
            refine (C5.out _).mono ?_; rintro e2 u2 ⟨sa, sc, rfl, _, hb⟩; replace hB := thenB hB hb; replace hX := resB hX hb; clear hb
            have hQ := resM u2 (.int .i64 7) (.int .i64 du) (.int .i64 dn) (.int .i64 dg) (.int .i64 dl) (.slice sa n sc) 24
            have hn := hal u2 (.cells #[.int .i64 7, .int .i64 du, .int .i64 dn, .int .i64 dg, .int .i64 dl, .slice sa n sc] 24)
            replace hB := thenB hB hn; replace hX := resB hX hn; clear hn
            go_upto_region 36 with fail
            generalize u2.alloc _ = W7 at *
            generalize u2.heap.size = G7 at *
            go_wp2_with fail
            refine (C6.out _).mono ?_; rintro e2 u3 ⟨sb, sd, rfl, _, hb⟩; replace hB := thenB hB hb; replace hQ := resB hQ hb; clear hb hX
            have hY := resM u3 (.int .i64 4) (.int .i64 0) (.int .i64 (j : Int)) (.int .i64 (a0.size : Int)) (.int .i64 0) (.slice sb 0 sd) 24
            have hn := hal u3 (.cells #[.int .i64 4, .int .i64 0, .int .i64 (j : Int), .int .i64 (a0.size : Int), .int .i64 0, .slice sb 0 sd] 24)
            replace hB := thenB hB hn; replace hQ := resB hQ hn; clear hn
            go_upto_region 37 with fail
            generalize u3.alloc _ = W8 at *
            generalize u3.heap.size = G8 at *
            go_wp2_with (first | (go_at_call 12; refine (num_any _ _).mono ?_; rintro e w' ⟨rfl, rfl⟩) | (go_at_call 17; refine (DnlAwake.sent_any _).mono ?_; rintro e w5 ⟨ka, kc, rfl, _, hb⟩; replace hB := thenB hB hb; clear hb))
            go_ret
            exact ⟨rfl, hB⟩

set_option maxRecDepth 100000 in
theorem lifted (os : Os) (started : os.Started) (H : Type) (enc : TypeId × Value → H) :
    ReturnsInHanded {} Try.checked os 5 .any (Rows.downloadBlocksSpec.pre6 enc Try.prog Try.f5 Rows.downloadBlocksRow.domain false) (Rows.downloadBlocksSpec.post enc Try.prog Try.f5 false true false false) := by
  refine returnsInHanded_of_change (C := Try.checked) own started (by kernel_rfl) Try.func5
    (ChangeSpec.witness6 (enc := enc) (C := Try.checked) false ⟨#[], #[.string ByteArray.empty, .slice none 0 0, .int .i64 0], []⟩ 8 (by kernel_rfl) (by kernel_rfl) (by kernel_rfl) (by kernel_rfl)) ?_
  intro W base args ds gs before hval0 hW hcnd _
  have hval : ∀ (j : Nat) t v, Try.f5.params[j]? = some t → args[j]? = some v → Value.okWide Try.prog W .any base t v := hval0
  have hW' := hW
  obtain ⟨p, q, hA0, hV, rfl, hfz, hnd⟩ := hW
  have hA : DataW.TrodAll enc Try.prog W 0 (fun _ => true) true Try.f5.params.toList args.toList ds p := hA0
  rw [Try.params5] at hA hval
  obtain ⟨v0, vs0, d0, ds0, p0, q0, hargs, rfl, rfl, h0, r0⟩ := trodAll_cons hA
  obtain ⟨v1, vs1, d1, ds1, p1, q1, rfl, rfl, rfl, h1, r1⟩ := trodAll_cons r0
  obtain ⟨v2, vs2, d2, ds2, p2, q2, rfl, rfl, rfl, h2, r2⟩ := trodAll_cons r1
  obtain ⟨rfl, rfl, rfl⟩ := trodAll_nil r2
  obtain rfl : args = #[v0, v1, v2] := by cases args; simp_all
  obtain ⟨rfl, rfl⟩ := trodVars_none hV
  obtain ⟨a0, rfl, rfl, rfl, w0⟩ := open_string Try.underlying9 (hval 0 9 v0 rfl rfl) h0
  obtain ⟨a1, len1, cap1, rfl⟩ := okWide_slice Try.underlying38 (hval 1 38 v1 rfl rfl)
  have k1 := h1
  have lt1 : ∀ x ∈ p1, x.block < W.heap.size := by obtain ⟨m, hm⟩ := k1; exact DataW.trod_lt m _ _ _ hm
  obtain ⟨z1, w1⟩ : ∃ zs, IsRow .i64 W a1 len1 cap1 zs := by
    obtain ⟨fuel, hf⟩ := h1
    rcases open_ints Try.underlying38 Try.underlying3 (by kernel_rfl) hf with ⟨hcs, _⟩ | ⟨x, l, c, zs, hcs, _, hl, hm, hz, _, hcell, hwz⟩
    · simp [Value.cells] at hcs
      obtain ⟨rfl, rfl, rfl⟩ := hcs
      exact ⟨[], .inl ⟨rfl, rfl, rfl, rfl⟩⟩
    · simp [Value.cells] at hcs
      obtain ⟨rfl, rfl, rfl⟩ := hcs
      exact ⟨zs, .inr ⟨_, rfl, hl, hm, by simpa using hz, hcell, hwz⟩⟩
  obtain ⟨a2, rfl, rfl, rfl, w2⟩ := open_int Try.underlying3 (hval 2 3 v2 rfl rfl) h2
  clear hA0 hval0
  refine (walk a0 a1 len1 cap1 z1 a2 W w0 w1 w2).mono fun e W' ⟨he, bel⟩ => ?_
  subst he
  exact ⟨_, rfl, _, _, _, [], _, [], hW', trodAll_mk1 (shut_bool Try.underlying4 _), (trodAll_cons_mk (shut_string Try.underlying9 w0) (trodAll_cons_mk (Below.trod laidOut (by kernel_rfl) (of_decide_eq_true (by kernel_rfl)) k1 bel lt1) (trodAll_cons_mk (shut_int Try.underlying3 w2) trodAll_mk0))), rfl, bel.frame _, fun h => by cases h⟩

theorem over : Rows.downloadBlocksRow.holds Try.pinned (OpenSpec.ofChange Rows.downloadBlocksSpec) :=
  OpenClaim.holds_of_wide 5 Try.f5 rfl rfl rfl rfl rfl rfl rfl ⟨rfl, rfl, rfl, rfl, rfl⟩ rfl rfl rfl rfl rfl (by kernel_rfl) Try.func5 (by kernel_rfl)
    (of_decide_eq_true (by kernel_rfl)) (by unfold Func.isWrapper; first | (rw [if_pos (by decide +kernel)]; kernel_rfl) | (rw [if_neg (by decide +kernel)]; exact ⟨rfl, rfl⟩))
    (fun os started H enc _ => lifted os started H enc)

theorem proved : Rows.DownloadBlocksSaid := over
#print axioms proved
end Go.Proofs.Ythpoefaipmcceaa.downloadBlocks
