/- Whatever the two numbers: the law TickForms returns true (flashes, devices and cuts that may not be are refused), and the arguments read as they did; no condition. -/
import Derived.Test.YtmbgdidelbkdgaaRows
import Derived.Test.YtmbgdidelbkdgaaBagNor
import Derived.Test.YtmbgdidelbkdgaaWhich
import Derived.Test.YtmbgdidelbkdgaaBagDev
import Derived.Test.YtmbgdidelbkdgaaTicMath
import Derived.Test.YtmbgdidelbkdgaaTicRow
import Derived.Test.YtmbgdidelbkdgaaTicStep
import Derived.Test.YtmbgdidelbkdgaaTicCut
import Derived.Test.YtmbgdidelbkdgaaTicAwake
import Derived.Deep.Cut
import Derived.Deep.CutRange
import Derived.Deep.CutBlock
import Derived.Deep.RegionHeld3
import Derived.ChangeOld
import Derived.Below
import Derived.WalkKit
import Derived.ProofKit
import Derived.OpenShut
import Derived.ShutString
namespace Go.Proofs.Ytmbgdidelbkdgaa.tickForms
open Go.ChangeShapes Go.WideShapes Go.ChangeAt Go.RowKit
open Go.ChangeMaps (open_string shut_string)
set_option linter.unusedVariables false

open Go.Proofs.Ytmbgdidelbkdgaa.Bytes
open Go.Proofs.Ytmbgdidelbkdgaa.Ops
open Go.Proofs.Ytmbgdidelbkdgaa.Jou
open Go.Proofs.Ytmbgdidelbkdgaa.Dev
open Go.Proofs.Ytmbgdidelbkdgaa.DevRow
open Go.Proofs.Ytmbgdidelbkdgaa.DevSet
open Go.Proofs.Ytmbgdidelbkdgaa.DevHelp
open Go.Proofs.Ytmbgdidelbkdgaa.DevAwake
open Go.Proofs.Ytmbgdidelbkdgaa.Dnl
open Go.Proofs.Ytmbgdidelbkdgaa.Tic
open Go.Proofs.Ytmbgdidelbkdgaa.TicRow
theorem own : ownKnob Try.prog.godebug = none := by kernel_rfl

open List (setIfInBounds_toArray set_cons_zero set_cons_succ)
theorem no_both {f : ByteArray} {d : FDev} (h : ¬ (f.size = 768 ∧ 0 ≤ d.nx ∧ d.sa ≤ 7 ∧ mayAll d.ops = true)) : bothB f d = false := by
  cases hc : bothB f d with
  | false => rfl
  | true =>
    obtain ⟨h1, h2⟩ := both_parts.1 hc
    obtain ⟨⟨n0, _⟩, _⟩ := dev_parts h2
    have h3 : d.sa ≤ 7 := by
      unfold devB Ans.saB at h2
      simp only [Bool.and_eq_true, decide_eq_true_iff] at h2
      omega
    exact absurd ⟨may_size h1, n0, h3, DnlWalk.dev_steps h2⟩ h
theorem no_flash {f : ByteArray} {d : FDev} (h : ¬ f.size = 768) : bothB f d = false := no_both (fun x => h x.1)
theorem no_next {f : ByteArray} {sa su nx gt sl : Int} {l : List FOp} (h : ¬ 0 ≤ nx) : bothB f ⟨sa, su, nx, gt, sl, l⟩ = false := no_both (fun x => h x.2.1)
theorem no_state {f : ByteArray} {sa su nx gt sl : Int} {l : List FOp} (h : ¬ sa ≤ 7) : bothB f ⟨sa, su, nx, gt, sl, l⟩ = false := no_both (fun x => h x.2.2.1)
def bad : List FOp := [⟨false, 1, ⟨#[97, 98, 99, 100]⟩⟩]
theorem bad_no (h : mayAll bad = true) : False := by
  have h2 : mayAll bad = false := by decide
  rw [h2] at h
  cases h
theorem no_ops {f : ByteArray} {sa su nx gt sl : Int} : bothB f ⟨sa, su, nx, gt, sl, bad⟩ = false := no_both (fun x => bad_no x.2.2.2)
theorem ref_step {f : ByteArray} {d : FDev} (h : bothB f d = false) (v : Value) (w : World) (hv : IsSt w v d.ops) : Calls Try.prog 10 #[.string f, .agg #[.int .i64 d.sa, .int .i64 d.su, .int .i64 d.nx, .int .i64 d.gt, .int .i64 d.sl, v]] w fun r w' => ∃ a c, r = .returned (.tuple #[.string ⟨#[]⟩, .agg #[.int .i64 0, .int .i64 0, .int .i64 0, .int .i64 0, .int .i64 0, .slice a 0 c], .int .i64 1800]) ∧ IsSt w' (.slice a 0 c) [] ∧ Below w.heap.size w w' := by
  have g := TicCut.step_any f d v w hv
  unfold tickF tickD at g
  rw [h] at g
  refine g.mono ?_
  rintro e w' ⟨u, rfl, ho, hb⟩
  obtain ⟨a, c, rfl⟩ := ho.form
  exact ⟨a, c, rfl, ho.is, hb⟩
theorem ref_cut {f : ByteArray} {d : FDev} {k : Int} (h : bothB f d = false ∨ ¬ (0 ≤ k ∧ k ≤ 96)) (v : Value) (w : World) (hv : IsSt w v d.ops) : Calls Try.prog 12 #[.string f, .agg #[.int .i64 d.sa, .int .i64 d.su, .int .i64 d.nx, .int .i64 d.gt, .int .i64 d.sl, v], .int .i64 k] w fun r w' => r = .returned (.tuple #[.string ⟨#[]⟩, .agg #[.int .i64 0, .int .i64 0, .int .i64 0, .int .i64 0, .int .i64 0, .slice none 0 0], .int .i64 1800]) ∧ Below w.heap.size w w' := by
  have hc : cutB f d k = false := by
    cases hc : cutB f d k with
    | false => rfl
    | true =>
      obtain ⟨h1, h2, h3⟩ := cut_parts.1 hc
      rcases h with h | h
      · rw [both_parts.2 ⟨h1, h2⟩] at h; cases h
      · exact absurd h3 h
  have g := TicCut.cut_any f d v k w hv
  unfold cutF at g
  rw [hc] at g
  exact g
/-- Behind a world W: no more is made yet; or the result's box too. -/
def K0 (W x : World) : Prop := Below W.heap.size W x
structure KB (W x : World) (G : Nat) (v0 v1 v2 v3 v4 v5 : Value) : Prop where
  bel : Below W.heap.size W x
  le : W.heap.size ≤ G
  box : Res x G v0 v1 v2 v3 v4 v5
theorem K0.drew {W x : World} (h : K0 W x) : K0 W x.drew := ⟨h.os, h.tape, h.output, h.size, h.block⟩
theorem K0.alloc {W x : World} (h : K0 W x) (o : Obj) : K0 W (x.alloc o) := Bytes.thenB h (hal _ _)
theorem K0.call {W x y : World} (h : K0 W x) (hb : Below x.heap.size x y) : K0 W y := Bytes.thenB h hb
section
variable {W x y : World} {G : Nat} {v0 v1 v2 v3 v4 v5 : Value}
theorem KB.drew (h : KB W x G v0 v1 v2 v3 v4 v5) : KB W x.drew G v0 v1 v2 v3 v4 v5 := ⟨K0.drew h.bel, h.le, h.box⟩
theorem KB.alloc (h : KB W x G v0 v1 v2 v3 v4 v5) (o : Obj) : KB W (x.alloc o) G v0 v1 v2 v3 v4 v5 := ⟨K0.alloc h.bel o, h.le, resB h.box (hal _ _)⟩
theorem KB.call (h : KB W x G v0 v1 v2 v3 v4 v5) (hb : Below x.heap.size x y) : KB W y G v0 v1 v2 v3 v4 v5 := ⟨K0.call h.bel hb, h.le, resB h.box hb⟩
theorem KB.new {e : TypeId} (h : K0 W x) : KB W (x.alloc (.cells #[v0, v1, v2, v3, v4, v5] e)) x.heap.size v0 v1 v2 v3 v4 v5 := ⟨K0.alloc h _, h.size, resM _ _ _ _ _ _ _ _⟩
end
/-- A row of two numbers in a block of its own. -/
abbrev Two (x : World) (B : Nat) (p q : Value) : Prop := B < x.heap.size ∧ x.cell? ⟨B, 0, none⟩ = some p ∧ x.cell? ⟨B, 1, none⟩ = some q
theorem two_new (x : World) (p q : Value) (e : TypeId) : Two (x.alloc (.cells #[p, q] e)) x.heap.size p q := ⟨by simp, by rw [World.cell?_alloc_at _ e _ 0 rfl]; rfl, by rw [World.cell?_alloc_at _ e _ 1 rfl]; rfl⟩
theorem two_call {x y : World} {B : Nat} {p q : Value} (h : Two x B p q) (hb : Below x.heap.size x y) : Two y B p q := by
  obtain ⟨h0, h1, h2⟩ := h
  exact ⟨Nat.lt_of_lt_of_le h0 hb.size, by rw [hb.cell (p := ⟨B, 0, none⟩) h0]; exact h1, by rw [hb.cell (p := ⟨B, 1, none⟩) h0]; exact h2⟩
theorem two_drew {x : World} {B : Nat} {p q : Value} (h : Two x B p q) : Two x.drew B p q := h
theorem two_alloc {x : World} {B : Nat} {p q : Value} (h : Two x B p q) (o : Obj) : Two (x.alloc o) B p q := two_call h (hal _ _)
theorem size_al (x : World) (o : Obj) : (x.alloc o).heap.size = x.heap.size + 1 := by simp
set_option maxRecDepth 100000 in
set_option maxHeartbeats 8000000 in
theorem walk (a0 : Int) (a1 : Int) (w0 : (Lit.int .i64 a0).wf = true) (w1 : (Lit.int .i64 a1).wf = true) (w : World) :
    Calls Try.prog 4 #[.int .i64 a0, .int .i64 a1] w fun e w' => e = .returned (.bool true) ∧ Below w.heap.size w w' := by
  have hB : Below w.heap.size w w := Below.refl _ _
  obtain ⟨d, hd, md⟩ : ∃ k : Nat, k ≤ 1023 ∧ bits .and .i64 a1 1023 = (k : Int) := mask_i64 a1 1023 (by omega)
  obtain ⟨m, hm, m1, _, m3⟩ := Which.which4 a0
  have C1 := hide (fun w => NorRef.refBlank_any w)
  have z1 : Nor.blankS.size = 768 := Nor.size_blankS
  have z2 : Nor.blankS.size ≤ 768 := by omega
  have Z1 : Hid (Nor.blankS.size = 768) := z1
  have br := DevWalk.build_d0
  have bo := OpsWalk.build_at
  clear z1
  generalize Nor.blankS = F at *
  have C5 := hide fun v w' h => sameDev_yes ⟨0, 0, 0, 0, 0, []⟩ v (.slice none 0 0) w' h (isSt_nil w')
  dsimp only at C5
  go_enter Try.func4, Try.ntmps4
  go_upto_block 0 with (first | (go_at_call 17; refine (TicAwake.awake_any _).mono ?_; rintro e w' ⟨rfl, hb⟩; replace hB := hB.trans (hb.mono hB.size); clear hb) | (go_at_call 18; refine (C1.out _).mono ?_; rintro e w' ⟨rfl, hb⟩; replace hB := hB.trans (hb.mono hB.size); clear hb))
  go_cut [6] from 26 to 42 (fun s6 wx => ∃ (FL : ByteArray) (sa nx : Int) (l : List FOp) (a : Option Addr) (c : Nat), s6 = .string FL ∧ bothB FL ⟨sa, 0, nx, 0, 0, l⟩ = false ∧ Below w.heap.size w wx ∧ Res wx w'.heap.size (.int .i64 sa) (.int .i64 0) (.int .i64 nx) (.int .i64 0) (.int .i64 0) (.slice a l.length c) ∧ IsSt wx (.slice a l.length c) l)
  case first =>
    obtain rfl | rfl | rfl | rfl : m = 0 ∨ m = 1 ∨ m = 2 ∨ m = 3 := by omega
    · go_wp2_with fail
      go_meet
      have z := Z1.out
      exact ⟨_, 0, 0, [], none, 0, rfl, no_flash (by rw [ByteArray.size_append]; show ¬ F.size + 1 = 768; omega), thenB hB (hal _ _), resM _ _ _ _ _ _ _ _, isSt_nil _⟩
    · go_wp2_with fail
      go_meet
      exact ⟨_, 0, -(1 + (d : Int)), [], none, 0, rfl, no_next (by omega), thenB hB (hal _ _), resM _ _ _ _ _ _ _ _, isSt_nil _⟩
    · go_wp2_with fail
      go_meet
      exact ⟨_, 7 + (1 + (d : Int)), 0, [], none, 0, rfl, no_state (by omega), thenB hB (hal _ _), resM _ _ _ _ _ _ _ _, isSt_nil _⟩
    · go_wp2_with fail
      go_meet
      refine ⟨_, 0, 0, bad, some ⟨w'.heap.size + 1, 0, none⟩, 1, rfl, no_ops, thenB (thenB hB (hal _ _)) (hal _ _), resB (resM _ _ _ _ _ _ _ _) (hal _ _), ?_⟩
      have h := madeS_is (w'.alloc (.cells #[.int .i64 0, .int .i64 0, .int .i64 0, .int .i64 0, .int .i64 0, .slice (some ⟨w'.heap.size + 1, 0, none⟩) 1 1] 24)) bad 40 1 rfl (by decide)
      rw [size_al] at h
      exact h
  case rest =>
    clear hB bo
    obtain ⟨FL, sa, nx, l, a, c, rfl, hbad, hB, hX, hI⟩ := hcut
    have HS := hide (fun v w' h => ref_step hbad v w' h)
    have HC := hide (fun v w' h => ref_cut (k := 3) (.inl hbad) v w' h)
    clear hbad
    dsimp only at HS HC
    go_wp2_with fail
    refine (HS.out _ _ hI).mono ?_; rintro e u2 ⟨sb, sc, rfl, hJ, hb⟩; replace hB := thenB hB hb; replace hX := resB hX hb; replace hI := hI.below hb; clear hb HS
    have hP := resM u2 (.int .i64 0) (.int .i64 0) (.int .i64 0) (.int .i64 0) (.int .i64 0) (.slice sb 0 sc) 24
    have hn := hal u2 (.cells #[.int .i64 0, .int .i64 0, .int .i64 0, .int .i64 0, .int .i64 0, .slice sb 0 sc] 24)
    replace hB := thenB hB hn
    replace hX := resB hX hn
    replace hI := hI.below hn
    replace hJ := hJ.below hn
    clear hn
    go_upto_region 14 with fail
    generalize u2.alloc _ = W2 at *
    generalize u2.heap.size = G2 at *
    go_wp2_with fail
    refine (HC.out _ _ hI).mono ?_; rintro e u3 ⟨rfl, hb⟩; replace hB := thenB hB hb; replace hP := resB hP hb; replace hJ := hJ.below hb; clear hb hX hI HC
    have hQ := resM u3 (.int .i64 0) (.int .i64 0) (.int .i64 0) (.int .i64 0) (.int .i64 0) (.slice none 0 0) 24
    have hn := hal u3 (.cells #[.int .i64 0, .int .i64 0, .int .i64 0, .int .i64 0, .int .i64 0, .slice none 0 0] 24)
    replace hB := thenB hB hn
    replace hP := resB hP hn
    replace hJ := hJ.below hn
    clear hn
    go_upto_region 15 with fail
    generalize u3.alloc _ = W3 at *
    generalize u3.heap.size = G3 at *
    have HZ := hide fun (z : Int) (hz : ¬ (0 ≤ z ∧ z ≤ 96)) w' => ref_cut (f := F) (d := newD) (k := z) (.inr hz) (.slice none 0 0) w' (isSt_nil w')
    unfold newD at HZ
    dsimp only at HZ
    have q1 : IntKind.i64.wrap (-(1 + (d : Int))) = -(1 + (d : Int)) := by rw [IntKind.wrap_i64]; omega
    have q2 : IntKind.i64.wrap (96 + (1 + (d : Int))) = 96 + (1 + (d : Int)) := by rw [IntKind.wrap_i64]; omega
    have hT : K0 W3 W3 := Below.refl _ _
    clear md m3 z2 Z1
    go_cut [14, 15, 16] from 57 to 72 (fun s14 s15 s16 wx => s14 = .string ⟨#[]⟩ ∧ s16 = .int .i64 1800 ∧ ∃ G, s15 = .pointer (some ⟨G, 0, none⟩) ∧ Below W3.heap.size W3 wx ∧ Res wx G (.int .i64 0) (.int .i64 0) (.int .i64 0) (.int .i64 0) (.int .i64 0) (.slice none 0 0))
    case first =>
      clear hP hQ hJ hB C5
      have hc : bits .and .i64 a0 1 = 0 ∨ bits .and .i64 a0 1 = 1 := by omega
      clear m1 hm
      rcases hc with hc | hc
      · refine wp_region_noPanic ?_
        refine wp_region_held_drew (S := fun _ => True) (by kernel_rfl) (by trivial) (fun hHeld => ?_)
        refine wpAnyH_take (i := 1) (oi := { dst := some 59, op := Op.build 24 #[], type := 24, pos := "more.go:30", after := #[], guard := none }) (v := ?_) rfl (by kernel_rfl) (by kernel_rfl) (by kernel_rfl) (fun _ _ _ h => h) (Or.inl ⟨by rfl, ?_⟩) (by assumption) ?_
        rotate_left
        · (intro w hSw; (try dsimp only at hSw); go_simp; all_goals with_reducible rfl)
        try simp only [Act.put, setIfInBounds_toArray, set_cons_zero, set_cons_succ]
        refine wpAnyH_take (i := 2) (oi := { dst := some 60, op := Op.move (Operand.tmp 5), type := 3, pos := "more.go:30", after := #[], guard := none }) (v := ?_) rfl (by kernel_rfl) (by kernel_rfl) (by kernel_rfl) (fun _ _ _ h => h) (Or.inl ⟨by rfl, ?_⟩) (by assumption) ?_
        rotate_left
        · (intro w hSw; (try dsimp only at hSw); go_simp; all_goals with_reducible rfl)
        try simp only [Act.put, setIfInBounds_toArray, set_cons_zero, set_cons_succ]
        refine wpAnyH_take (i := 3) (oi := { dst := some 61, op := Op.unOp UnOp.neg 3 (Operand.tmp 60), type := 3, pos := "more.go:30", after := #[{ on := 2, ground := Ground.data }], guard := none }) (v := ?_) rfl (by kernel_rfl) (by kernel_rfl) (by kernel_rfl) (fun _ _ _ h => h) (Or.inl ⟨by rfl, ?_⟩) (by assumption) ?_
        rotate_left
        · (intro w hSw; (try dsimp only at hSw); go_simp; all_goals with_reducible rfl)
        try simp only [Act.put, setIfInBounds_toArray, set_cons_zero, set_cons_succ]
        refine wpAnyH_take (i := 4) (oi := { dst := some 62, op := Op.move (Operand.tmp 5), type := 3, pos := "more.go:30", after := #[], guard := none }) (v := ?_) rfl (by kernel_rfl) (by kernel_rfl) (by kernel_rfl) (fun _ _ _ h => h) (Or.inl ⟨by rfl, ?_⟩) (by assumption) ?_
        rotate_left
        · (intro w hSw; (try dsimp only at hSw); go_simp; all_goals with_reducible rfl)
        try simp only [Act.put, setIfInBounds_toArray, set_cons_zero, set_cons_succ]
        refine wpAnyH_take (i := 5) (oi := { dst := some 63, op := Op.binOp BinOp.add 3 (Operand.const (Value.int IntKind.i64 96)) (Operand.tmp 62) 3, type := 3, pos := "more.go:30", after := #[{ on := 4, ground := Ground.data }], guard := none }) (v := ?_) rfl (by kernel_rfl) (by kernel_rfl) (by kernel_rfl) (fun _ _ _ h => h) (Or.inl ⟨by rfl, ?_⟩) (by assumption) ?_
        rotate_left
        · (intro w hSw; (try dsimp only at hSw); go_simp; all_goals with_reducible rfl)
        try simp only [Act.put, setIfInBounds_toArray, set_cons_zero, set_cons_succ]
        refine wpAnyH_take (i := 7) (oi := { dst := some 65, op := Op.move (Operand.tmp 0), type := 3, pos := "more.go:30", after := #[], guard := none }) (v := ?_) rfl (by kernel_rfl) (by kernel_rfl) (by kernel_rfl) (fun _ _ _ h => h) (Or.inl ⟨by rfl, ?_⟩) (by assumption) ?_
        rotate_left
        · (intro w hSw; (try dsimp only at hSw); go_simp; all_goals with_reducible rfl)
        try simp only [Act.put, setIfInBounds_toArray, set_cons_zero, set_cons_succ]
        refine wpAnyH_take (i := 8) (oi := { dst := some 66, op := Op.binOp BinOp.and 3 (Operand.tmp 65) (Operand.const (Value.int IntKind.i64 1)) 3, type := 3, pos := "more.go:30", after := #[{ on := 7, ground := Ground.data }], guard := none }) (v := ?_) rfl (by kernel_rfl) (by kernel_rfl) (by kernel_rfl) (fun _ _ _ h => h) (Or.inl ⟨by rfl, ?_⟩) (by assumption) ?_
        rotate_left
        · (intro w hSw; (try dsimp only at hSw); go_simp; all_goals with_reducible rfl)
        try simp only [Act.put, setIfInBounds_toArray, set_cons_zero, set_cons_succ]
        refine wpAnyH_ready (rs := [0, 6, 16]) (by kernel_rfl) (by simp) ?_
        refine AllReadyH.cons (o := { dst := some 58, op := Op.call { callee := Callee.value (Operand.func 18), args := #[], argTypes := #[] }, type := 9, pos := "more.go:30", after := #[], guard := none }) rfl (fun K hK => ?_) ?_
        ·
         go_simp
         go_at_call 18
         refine (C1.out _).mono ?_
         rintro e w4 ⟨rfl, hb4⟩
         have hK1 := K0.call (K0.drew hT) hb4
         clear hb4
         refine hK.out _ _ (by trivial) (fun hHeld => ?_)
         clear hK K
         try simp only [Act.put, setIfInBounds_toArray, set_cons_zero, set_cons_succ]
         refine wpAnyH_ready (rs := [6, 16]) (by kernel_rfl) (by simp) ?_
         refine AllReadyH.cons (o := { dst := some 64, op := Op.buildSlice 41 2 #[(0, Operand.tmp 61), (1, Operand.tmp 63)], type := 41, pos := "more.go:30", after := #[{ on := 3, ground := Ground.data }, { on := 5, ground := Ground.data }], guard := none }) rfl (fun K hK => ?_) ?_
         ·
          go_simp
          refine hK.out _ _ (by trivial) (fun hHeld => ?_)
          clear hK K
          try simp only [Act.put, setIfInBounds_toArray, set_cons_zero, set_cons_succ]
          refine wpAnyH_take (i := 9) (oi := { dst := some 67, op := Op.indexAddr 41 (Operand.tmp 64) (Operand.tmp 66), type := 0, pos := "more.go:30", after := #[{ on := 6, ground := Ground.data }, { on := 8, ground := Ground.data }], guard := none }) (v := ?_) rfl (by kernel_rfl) (by kernel_rfl) (by kernel_rfl) (fun _ _ _ h => h) (Or.inl ⟨by rfl, ?_⟩) (by assumption) ?_
          rotate_left
          · (intro w hSw; (try dsimp only at hSw); go_simp; all_goals with_reducible rfl)
          try simp only [Act.put, setIfInBounds_toArray, set_cons_zero, set_cons_succ]
          refine wpAnyH_ready (rs := [10, 16]) (by kernel_rfl) (by simp) ?_
          refine AllReadyH.cons (o := { dst := some 68, op := Op.load 3 (Operand.tmp 67), type := 3, pos := "more.go:30", after := #[{ on := 9, ground := Ground.data }], guard := none }) rfl (fun K hK => ?_) ?_
          ·
           go_simp
           refine hK.out _ _ (by trivial) (fun hHeld => ?_)
           clear hK K
           try simp only [Act.put, setIfInBounds_toArray, set_cons_zero, set_cons_succ]
           refine wpAnyH_ready (rs := [11, 16]) (by kernel_rfl) (by simp) ?_
           refine AllReadyH.cons (o := { dst := some 69, op := Op.call { callee := Callee.value (Operand.func 12), args := #[Operand.tmp 58, Operand.tmp 59, Operand.tmp 68], argTypes := #[9, 24, 3] }, type := 27, pos := "more.go:30", after := #[{ on := 0, ground := Ground.data }, { on := 1, ground := Ground.data }, { on := 10, ground := Ground.data }, { on := 0, ground := Ground.chain }], guard := none }) rfl (fun K hK => ?_) ?_
           ·
            go_simp
            go_at_call 12
            refine (HZ.out _ (by omega) _).mono ?_
            rintro e w5 ⟨rfl, hb5⟩
            replace hK1 := K0.call (K0.alloc hK1 _) hb5
            clear hb5
            refine hK.out _ _ (by trivial) (fun hHeld => ?_)
            clear hK K
            try simp only [Act.put, setIfInBounds_toArray, set_cons_zero, set_cons_succ]
            refine wpAnyH_take (i := 12) (oi := { dst := some 57, op := Op.move (Operand.tmp 69), type := 27, pos := "more.go:30", after := #[{ on := 11, ground := Ground.data }], guard := none }) (v := ?_) rfl (by kernel_rfl) (by kernel_rfl) (by kernel_rfl) (fun _ _ _ h => h) (Or.inl ⟨by rfl, ?_⟩) (by assumption) ?_
            rotate_left
            · (intro w hSw; (try dsimp only at hSw); go_simp; all_goals with_reducible rfl)
            try simp only [Act.put, setIfInBounds_toArray, set_cons_zero, set_cons_succ]
            refine wpAnyH_take (i := 13) (oi := { dst := some 70, op := Op.extract (Operand.tmp 57) 0, type := 9, pos := "more.go:30", after := #[{ on := 12, ground := Ground.data }], guard := none }) (v := ?_) rfl (by kernel_rfl) (by kernel_rfl) (by kernel_rfl) (fun _ _ _ h => h) (Or.inl ⟨by rfl, ?_⟩) (by assumption) ?_
            rotate_left
            · (intro w hSw; (try dsimp only at hSw); go_simp; all_goals with_reducible rfl)
            try simp only [Act.put, setIfInBounds_toArray, set_cons_zero, set_cons_succ]
            refine wpAnyH_take (i := 14) (oi := { dst := some 71, op := Op.extract (Operand.tmp 57) 1, type := 24, pos := "more.go:30", after := #[{ on := 12, ground := Ground.data }, { on := 17, ground := Ground.gcOnly Departure.lateStores }], guard := none }) (v := ?_) rfl (by kernel_rfl) (by kernel_rfl) (by kernel_rfl) (fun _ _ _ h => h) (Or.inl ⟨by rfl, ?_⟩) (by assumption) ?_
            rotate_left
            · (intro w hSw; (try dsimp only at hSw); go_simp; all_goals with_reducible rfl)
            try simp only [Act.put, setIfInBounds_toArray, set_cons_zero, set_cons_succ]
            refine wpAnyH_take (i := 15) (oi := { dst := some 72, op := Op.extract (Operand.tmp 57) 2, type := 26, pos := "more.go:30", after := #[{ on := 12, ground := Ground.data }, { on := 18, ground := Ground.gcOnly Departure.lateStores }], guard := none }) (v := ?_) rfl (by kernel_rfl) (by kernel_rfl) (by kernel_rfl) (fun _ _ _ h => h) (Or.inl ⟨by rfl, ?_⟩) (by assumption) ?_
            rotate_left
            · (intro w hSw; (try dsimp only at hSw); go_simp; all_goals with_reducible rfl)
            try simp only [Act.put, setIfInBounds_toArray, set_cons_zero, set_cons_succ]
            refine wpAnyH_ready (rs := [16]) (by kernel_rfl) (by simp) ?_
            refine AllReadyH.cons (o := { dst := some 15, op := Op.alloc 24, type := 0, pos := "more.go:30", after := #[], guard := none }) rfl (fun K hK => ?_) ?_
            ·
             go_simp
             refine hK.out _ _ (by trivial) (fun hHeld => ?_)
             clear hK K
             try simp only [Act.put, setIfInBounds_toArray, set_cons_zero, set_cons_succ]
             refine wpAnyH_take (i := 17) (oi := { dst := some 14, op := Op.assign (Operand.tmp 70), type := 9, pos := "more.go:30", after := #[{ on := 13, ground := Ground.data }, { on := 11, ground := Ground.chain }, { on := 0, ground := Ground.phase }, { on := 1, ground := Ground.phase }, { on := 2, ground := Ground.phase }, { on := 3, ground := Ground.phase }, { on := 4, ground := Ground.phase }, { on := 5, ground := Ground.phase }, { on := 6, ground := Ground.phase }, { on := 7, ground := Ground.phase }, { on := 8, ground := Ground.phase }, { on := 9, ground := Ground.phase }, { on := 10, ground := Ground.phase }, { on := 11, ground := Ground.phase }, { on := 12, ground := Ground.phase }, { on := 13, ground := Ground.phase }, { on := 14, ground := Ground.textOnly Departure.lateStores }, { on := 15, ground := Ground.textOnly Departure.lateStores }, { on := 16, ground := Ground.phase }], guard := none }) (v := ?_) rfl (by kernel_rfl) (by kernel_rfl) (by kernel_rfl) (fun _ _ _ h => h) (Or.inl ⟨by rfl, ?_⟩) (by assumption) ?_
             rotate_left
             · (intro w hSw; (try dsimp only at hSw); go_simp; all_goals with_reducible rfl)
             try simp only [Act.put, setIfInBounds_toArray, set_cons_zero, set_cons_succ]
             refine wpAnyH_ready (rs := [18]) (by kernel_rfl) (by simp) ?_
             refine AllReadyH.cons (o := { dst := none, op := Op.store 24 (Operand.tmp 15) (Operand.tmp 71), type := 0, pos := "more.go:30", after := #[{ on := 16, ground := Ground.data }, { on := 14, ground := Ground.data }, { on := 17, ground := Ground.chain }, { on := 0, ground := Ground.phase }, { on := 1, ground := Ground.phase }, { on := 2, ground := Ground.phase }, { on := 3, ground := Ground.phase }, { on := 4, ground := Ground.phase }, { on := 5, ground := Ground.phase }, { on := 6, ground := Ground.phase }, { on := 7, ground := Ground.phase }, { on := 8, ground := Ground.phase }, { on := 9, ground := Ground.phase }, { on := 10, ground := Ground.phase }, { on := 11, ground := Ground.phase }, { on := 12, ground := Ground.phase }, { on := 13, ground := Ground.phase }, { on := 14, ground := Ground.phase }, { on := 15, ground := Ground.textOnly Departure.lateStores }, { on := 16, ground := Ground.phase }, { on := 17, ground := Ground.phase }], guard := none }) rfl (fun K hK => ?_) ?_
             ·
              go_simp
              refine hK.out _ _ (by trivial) (fun hHeld => ?_)
              clear hK K
              try simp only [Act.put, setIfInBounds_toArray, set_cons_zero, set_cons_succ]
              refine wpAnyH_take (i := 19) (oi := { dst := some 16, op := Op.assign (Operand.tmp 72), type := 26, pos := "more.go:30", after := #[{ on := 15, ground := Ground.data }, { on := 18, ground := Ground.chain }, { on := 0, ground := Ground.phase }, { on := 1, ground := Ground.phase }, { on := 2, ground := Ground.phase }, { on := 3, ground := Ground.phase }, { on := 4, ground := Ground.phase }, { on := 5, ground := Ground.phase }, { on := 6, ground := Ground.phase }, { on := 7, ground := Ground.phase }, { on := 8, ground := Ground.phase }, { on := 9, ground := Ground.phase }, { on := 10, ground := Ground.phase }, { on := 11, ground := Ground.phase }, { on := 12, ground := Ground.phase }, { on := 13, ground := Ground.phase }, { on := 14, ground := Ground.phase }, { on := 15, ground := Ground.phase }, { on := 16, ground := Ground.phase }, { on := 17, ground := Ground.phase }, { on := 18, ground := Ground.phase }], guard := none }) (v := ?_) rfl (by kernel_rfl) (by kernel_rfl) (by kernel_rfl) (fun _ _ _ h => h) (Or.inl ⟨by rfl, ?_⟩) (by assumption) ?_
              rotate_left
              · (intro w hSw; (try dsimp only at hSw); go_simp; all_goals with_reducible rfl)
              try simp only [Act.put, setIfInBounds_toArray, set_cons_zero, set_cons_succ]
              refine wpAnyH_done (by kernel_rfl) ?_ _
              refine NoPanic.normal ?_
              go_wp2_with fail
              go_meet
              refine ⟨rfl, rfl, ?_⟩
              exact ⟨_, rfl, K0.alloc hK1 _, resM _ (.int .i64 0) (.int .i64 0) (.int .i64 0) (.int .i64 0) (.int .i64 0) (.slice none 0 0) 24⟩
             exact AllReadyH.nil
            exact AllReadyH.nil
           refine AllReadyH.cons (o := { dst := some 15, op := Op.alloc 24, type := 0, pos := "more.go:30", after := #[], guard := none }) rfl (fun K hK => ?_) ?_
           ·
            go_simp
            refine hK.out _ _ (by trivial) (fun hHeld => ?_)
            clear hK K
            try simp only [Act.put, setIfInBounds_toArray, set_cons_zero, set_cons_succ]
            refine wpAnyH_ready (rs := [11]) (by kernel_rfl) (by simp) ?_
            refine AllReadyH.cons (o := { dst := some 69, op := Op.call { callee := Callee.value (Operand.func 12), args := #[Operand.tmp 58, Operand.tmp 59, Operand.tmp 68], argTypes := #[9, 24, 3] }, type := 27, pos := "more.go:30", after := #[{ on := 0, ground := Ground.data }, { on := 1, ground := Ground.data }, { on := 10, ground := Ground.data }, { on := 0, ground := Ground.chain }], guard := none }) rfl (fun K hK => ?_) ?_
            ·
             go_simp
             go_at_call 12
             refine (HZ.out _ (by omega) _).mono ?_
             rintro e w5 ⟨rfl, hb5⟩
             have hKB := KB.call (KB.new (K0.alloc hK1 _)) hb5
             rw [size_al] at hKB
             have hR := hKB.box
             clear hb5
             refine hK.out _ _ (by trivial) (fun hHeld => ?_)
             clear hK K
             try simp only [Act.put, setIfInBounds_toArray, set_cons_zero, set_cons_succ]
             refine wpAnyH_take (i := 12) (oi := { dst := some 57, op := Op.move (Operand.tmp 69), type := 27, pos := "more.go:30", after := #[{ on := 11, ground := Ground.data }], guard := none }) (v := ?_) rfl (by kernel_rfl) (by kernel_rfl) (by kernel_rfl) (fun _ _ _ h => h) (Or.inl ⟨by rfl, ?_⟩) (by assumption) ?_
             rotate_left
             · (intro w hSw; (try dsimp only at hSw); go_simp; all_goals with_reducible rfl)
             try simp only [Act.put, setIfInBounds_toArray, set_cons_zero, set_cons_succ]
             refine wpAnyH_take (i := 13) (oi := { dst := some 70, op := Op.extract (Operand.tmp 57) 0, type := 9, pos := "more.go:30", after := #[{ on := 12, ground := Ground.data }], guard := none }) (v := ?_) rfl (by kernel_rfl) (by kernel_rfl) (by kernel_rfl) (fun _ _ _ h => h) (Or.inl ⟨by rfl, ?_⟩) (by assumption) ?_
             rotate_left
             · (intro w hSw; (try dsimp only at hSw); go_simp; all_goals with_reducible rfl)
             try simp only [Act.put, setIfInBounds_toArray, set_cons_zero, set_cons_succ]
             refine wpAnyH_take (i := 14) (oi := { dst := some 71, op := Op.extract (Operand.tmp 57) 1, type := 24, pos := "more.go:30", after := #[{ on := 12, ground := Ground.data }, { on := 17, ground := Ground.gcOnly Departure.lateStores }], guard := none }) (v := ?_) rfl (by kernel_rfl) (by kernel_rfl) (by kernel_rfl) (fun _ _ _ h => h) (Or.inl ⟨by rfl, ?_⟩) (by assumption) ?_
             rotate_left
             · (intro w hSw; (try dsimp only at hSw); go_simp; all_goals with_reducible rfl)
             try simp only [Act.put, setIfInBounds_toArray, set_cons_zero, set_cons_succ]
             refine wpAnyH_take (i := 15) (oi := { dst := some 72, op := Op.extract (Operand.tmp 57) 2, type := 26, pos := "more.go:30", after := #[{ on := 12, ground := Ground.data }, { on := 18, ground := Ground.gcOnly Departure.lateStores }], guard := none }) (v := ?_) rfl (by kernel_rfl) (by kernel_rfl) (by kernel_rfl) (fun _ _ _ h => h) (Or.inl ⟨by rfl, ?_⟩) (by assumption) ?_
             rotate_left
             · (intro w hSw; (try dsimp only at hSw); go_simp; all_goals with_reducible rfl)
             try simp only [Act.put, setIfInBounds_toArray, set_cons_zero, set_cons_succ]
             refine wpAnyH_take (i := 17) (oi := { dst := some 14, op := Op.assign (Operand.tmp 70), type := 9, pos := "more.go:30", after := #[{ on := 13, ground := Ground.data }, { on := 11, ground := Ground.chain }, { on := 0, ground := Ground.phase }, { on := 1, ground := Ground.phase }, { on := 2, ground := Ground.phase }, { on := 3, ground := Ground.phase }, { on := 4, ground := Ground.phase }, { on := 5, ground := Ground.phase }, { on := 6, ground := Ground.phase }, { on := 7, ground := Ground.phase }, { on := 8, ground := Ground.phase }, { on := 9, ground := Ground.phase }, { on := 10, ground := Ground.phase }, { on := 11, ground := Ground.phase }, { on := 12, ground := Ground.phase }, { on := 13, ground := Ground.phase }, { on := 14, ground := Ground.textOnly Departure.lateStores }, { on := 15, ground := Ground.textOnly Departure.lateStores }, { on := 16, ground := Ground.phase }], guard := none }) (v := ?_) rfl (by kernel_rfl) (by kernel_rfl) (by kernel_rfl) (fun _ _ _ h => h) (Or.inl ⟨by rfl, ?_⟩) (by assumption) ?_
             rotate_left
             · (intro w hSw; (try dsimp only at hSw); go_simp; all_goals with_reducible rfl)
             try simp only [Act.put, setIfInBounds_toArray, set_cons_zero, set_cons_succ]
             refine wpAnyH_ready (rs := [18]) (by kernel_rfl) (by simp) ?_
             refine AllReadyH.cons (o := { dst := none, op := Op.store 24 (Operand.tmp 15) (Operand.tmp 71), type := 0, pos := "more.go:30", after := #[{ on := 16, ground := Ground.data }, { on := 14, ground := Ground.data }, { on := 17, ground := Ground.chain }, { on := 0, ground := Ground.phase }, { on := 1, ground := Ground.phase }, { on := 2, ground := Ground.phase }, { on := 3, ground := Ground.phase }, { on := 4, ground := Ground.phase }, { on := 5, ground := Ground.phase }, { on := 6, ground := Ground.phase }, { on := 7, ground := Ground.phase }, { on := 8, ground := Ground.phase }, { on := 9, ground := Ground.phase }, { on := 10, ground := Ground.phase }, { on := 11, ground := Ground.phase }, { on := 12, ground := Ground.phase }, { on := 13, ground := Ground.phase }, { on := 14, ground := Ground.phase }, { on := 15, ground := Ground.textOnly Departure.lateStores }, { on := 16, ground := Ground.phase }, { on := 17, ground := Ground.phase }], guard := none }) rfl (fun K hK => ?_) ?_
             ·
              go_simp
              refine hK.out _ _ (by trivial) (fun hHeld => ?_)
              clear hK K
              try simp only [Act.put, setIfInBounds_toArray, set_cons_zero, set_cons_succ]
              refine wpAnyH_take (i := 19) (oi := { dst := some 16, op := Op.assign (Operand.tmp 72), type := 26, pos := "more.go:30", after := #[{ on := 15, ground := Ground.data }, { on := 18, ground := Ground.chain }, { on := 0, ground := Ground.phase }, { on := 1, ground := Ground.phase }, { on := 2, ground := Ground.phase }, { on := 3, ground := Ground.phase }, { on := 4, ground := Ground.phase }, { on := 5, ground := Ground.phase }, { on := 6, ground := Ground.phase }, { on := 7, ground := Ground.phase }, { on := 8, ground := Ground.phase }, { on := 9, ground := Ground.phase }, { on := 10, ground := Ground.phase }, { on := 11, ground := Ground.phase }, { on := 12, ground := Ground.phase }, { on := 13, ground := Ground.phase }, { on := 14, ground := Ground.phase }, { on := 15, ground := Ground.phase }, { on := 16, ground := Ground.phase }, { on := 17, ground := Ground.phase }, { on := 18, ground := Ground.phase }], guard := none }) (v := ?_) rfl (by kernel_rfl) (by kernel_rfl) (by kernel_rfl) (fun _ _ _ h => h) (Or.inl ⟨by rfl, ?_⟩) (by assumption) ?_
              rotate_left
              · (intro w hSw; (try dsimp only at hSw); go_simp; all_goals with_reducible rfl)
              try simp only [Act.put, setIfInBounds_toArray, set_cons_zero, set_cons_succ]
              refine wpAnyH_done (by kernel_rfl) ?_ _
              refine NoPanic.normal ?_
              go_wp2_with fail
              go_meet
              refine ⟨rfl, rfl, ?_⟩
              exact ⟨_, rfl, set6 hKB.bel hKB.le, res6 hR (.int .i64 0) (.int .i64 0) (.int .i64 0) (.int .i64 0) (.int .i64 0) (.slice none 0 0)⟩
             exact AllReadyH.nil
            exact AllReadyH.nil
           exact AllReadyH.nil
          refine AllReadyH.cons (o := { dst := some 15, op := Op.alloc 24, type := 0, pos := "more.go:30", after := #[], guard := none }) rfl (fun K hK => ?_) ?_
          ·
           go_simp
           refine hK.out _ _ (by trivial) (fun hHeld => ?_)
           clear hK K
           try simp only [Act.put, setIfInBounds_toArray, set_cons_zero, set_cons_succ]
           refine wpAnyH_ready (rs := [10]) (by kernel_rfl) (by simp) ?_
           refine AllReadyH.cons (o := { dst := some 68, op := Op.load 3 (Operand.tmp 67), type := 3, pos := "more.go:30", after := #[{ on := 9, ground := Ground.data }], guard := none }) rfl (fun K hK => ?_) ?_
           ·
            go_simp
            refine hK.out _ _ (by trivial) (fun hHeld => ?_)
            clear hK K
            try simp only [Act.put, setIfInBounds_toArray, set_cons_zero, set_cons_succ]
            refine wpAnyH_ready (rs := [11]) (by kernel_rfl) (by simp) ?_
            refine AllReadyH.cons (o := { dst := some 69, op := Op.call { callee := Callee.value (Operand.func 12), args := #[Operand.tmp 58, Operand.tmp 59, Operand.tmp 68], argTypes := #[9, 24, 3] }, type := 27, pos := "more.go:30", after := #[{ on := 0, ground := Ground.data }, { on := 1, ground := Ground.data }, { on := 10, ground := Ground.data }, { on := 0, ground := Ground.chain }], guard := none }) rfl (fun K hK => ?_) ?_
            ·
             go_simp
             go_at_call 12
             refine (HZ.out _ (by omega) _).mono ?_
             rintro e w5 ⟨rfl, hb5⟩
             have hKB := KB.call (KB.new (K0.alloc hK1 _)) hb5
             rw [size_al] at hKB
             have hR := hKB.box
             clear hb5
             refine hK.out _ _ (by trivial) (fun hHeld => ?_)
             clear hK K
             try simp only [Act.put, setIfInBounds_toArray, set_cons_zero, set_cons_succ]
             refine wpAnyH_take (i := 12) (oi := { dst := some 57, op := Op.move (Operand.tmp 69), type := 27, pos := "more.go:30", after := #[{ on := 11, ground := Ground.data }], guard := none }) (v := ?_) rfl (by kernel_rfl) (by kernel_rfl) (by kernel_rfl) (fun _ _ _ h => h) (Or.inl ⟨by rfl, ?_⟩) (by assumption) ?_
             rotate_left
             · (intro w hSw; (try dsimp only at hSw); go_simp; all_goals with_reducible rfl)
             try simp only [Act.put, setIfInBounds_toArray, set_cons_zero, set_cons_succ]
             refine wpAnyH_take (i := 13) (oi := { dst := some 70, op := Op.extract (Operand.tmp 57) 0, type := 9, pos := "more.go:30", after := #[{ on := 12, ground := Ground.data }], guard := none }) (v := ?_) rfl (by kernel_rfl) (by kernel_rfl) (by kernel_rfl) (fun _ _ _ h => h) (Or.inl ⟨by rfl, ?_⟩) (by assumption) ?_
             rotate_left
             · (intro w hSw; (try dsimp only at hSw); go_simp; all_goals with_reducible rfl)
             try simp only [Act.put, setIfInBounds_toArray, set_cons_zero, set_cons_succ]
             refine wpAnyH_take (i := 14) (oi := { dst := some 71, op := Op.extract (Operand.tmp 57) 1, type := 24, pos := "more.go:30", after := #[{ on := 12, ground := Ground.data }, { on := 17, ground := Ground.gcOnly Departure.lateStores }], guard := none }) (v := ?_) rfl (by kernel_rfl) (by kernel_rfl) (by kernel_rfl) (fun _ _ _ h => h) (Or.inl ⟨by rfl, ?_⟩) (by assumption) ?_
             rotate_left
             · (intro w hSw; (try dsimp only at hSw); go_simp; all_goals with_reducible rfl)
             try simp only [Act.put, setIfInBounds_toArray, set_cons_zero, set_cons_succ]
             refine wpAnyH_take (i := 15) (oi := { dst := some 72, op := Op.extract (Operand.tmp 57) 2, type := 26, pos := "more.go:30", after := #[{ on := 12, ground := Ground.data }, { on := 18, ground := Ground.gcOnly Departure.lateStores }], guard := none }) (v := ?_) rfl (by kernel_rfl) (by kernel_rfl) (by kernel_rfl) (fun _ _ _ h => h) (Or.inl ⟨by rfl, ?_⟩) (by assumption) ?_
             rotate_left
             · (intro w hSw; (try dsimp only at hSw); go_simp; all_goals with_reducible rfl)
             try simp only [Act.put, setIfInBounds_toArray, set_cons_zero, set_cons_succ]
             refine wpAnyH_take (i := 17) (oi := { dst := some 14, op := Op.assign (Operand.tmp 70), type := 9, pos := "more.go:30", after := #[{ on := 13, ground := Ground.data }, { on := 11, ground := Ground.chain }, { on := 0, ground := Ground.phase }, { on := 1, ground := Ground.phase }, { on := 2, ground := Ground.phase }, { on := 3, ground := Ground.phase }, { on := 4, ground := Ground.phase }, { on := 5, ground := Ground.phase }, { on := 6, ground := Ground.phase }, { on := 7, ground := Ground.phase }, { on := 8, ground := Ground.phase }, { on := 9, ground := Ground.phase }, { on := 10, ground := Ground.phase }, { on := 11, ground := Ground.phase }, { on := 12, ground := Ground.phase }, { on := 13, ground := Ground.phase }, { on := 14, ground := Ground.textOnly Departure.lateStores }, { on := 15, ground := Ground.textOnly Departure.lateStores }, { on := 16, ground := Ground.phase }], guard := none }) (v := ?_) rfl (by kernel_rfl) (by kernel_rfl) (by kernel_rfl) (fun _ _ _ h => h) (Or.inl ⟨by rfl, ?_⟩) (by assumption) ?_
             rotate_left
             · (intro w hSw; (try dsimp only at hSw); go_simp; all_goals with_reducible rfl)
             try simp only [Act.put, setIfInBounds_toArray, set_cons_zero, set_cons_succ]
             refine wpAnyH_ready (rs := [18]) (by kernel_rfl) (by simp) ?_
             refine AllReadyH.cons (o := { dst := none, op := Op.store 24 (Operand.tmp 15) (Operand.tmp 71), type := 0, pos := "more.go:30", after := #[{ on := 16, ground := Ground.data }, { on := 14, ground := Ground.data }, { on := 17, ground := Ground.chain }, { on := 0, ground := Ground.phase }, { on := 1, ground := Ground.phase }, { on := 2, ground := Ground.phase }, { on := 3, ground := Ground.phase }, { on := 4, ground := Ground.phase }, { on := 5, ground := Ground.phase }, { on := 6, ground := Ground.phase }, { on := 7, ground := Ground.phase }, { on := 8, ground := Ground.phase }, { on := 9, ground := Ground.phase }, { on := 10, ground := Ground.phase }, { on := 11, ground := Ground.phase }, { on := 12, ground := Ground.phase }, { on := 13, ground := Ground.phase }, { on := 14, ground := Ground.phase }, { on := 15, ground := Ground.textOnly Departure.lateStores }, { on := 16, ground := Ground.phase }, { on := 17, ground := Ground.phase }], guard := none }) rfl (fun K hK => ?_) ?_
             ·
              go_simp
              refine hK.out _ _ (by trivial) (fun hHeld => ?_)
              clear hK K
              try simp only [Act.put, setIfInBounds_toArray, set_cons_zero, set_cons_succ]
              refine wpAnyH_take (i := 19) (oi := { dst := some 16, op := Op.assign (Operand.tmp 72), type := 26, pos := "more.go:30", after := #[{ on := 15, ground := Ground.data }, { on := 18, ground := Ground.chain }, { on := 0, ground := Ground.phase }, { on := 1, ground := Ground.phase }, { on := 2, ground := Ground.phase }, { on := 3, ground := Ground.phase }, { on := 4, ground := Ground.phase }, { on := 5, ground := Ground.phase }, { on := 6, ground := Ground.phase }, { on := 7, ground := Ground.phase }, { on := 8, ground := Ground.phase }, { on := 9, ground := Ground.phase }, { on := 10, ground := Ground.phase }, { on := 11, ground := Ground.phase }, { on := 12, ground := Ground.phase }, { on := 13, ground := Ground.phase }, { on := 14, ground := Ground.phase }, { on := 15, ground := Ground.phase }, { on := 16, ground := Ground.phase }, { on := 17, ground := Ground.phase }, { on := 18, ground := Ground.phase }], guard := none }) (v := ?_) rfl (by kernel_rfl) (by kernel_rfl) (by kernel_rfl) (fun _ _ _ h => h) (Or.inl ⟨by rfl, ?_⟩) (by assumption) ?_
              rotate_left
              · (intro w hSw; (try dsimp only at hSw); go_simp; all_goals with_reducible rfl)
              try simp only [Act.put, setIfInBounds_toArray, set_cons_zero, set_cons_succ]
              refine wpAnyH_done (by kernel_rfl) ?_ _
              refine NoPanic.normal ?_
              go_wp2_with fail
              go_meet
              refine ⟨rfl, rfl, ?_⟩
              exact ⟨_, rfl, set6 hKB.bel hKB.le, res6 hR (.int .i64 0) (.int .i64 0) (.int .i64 0) (.int .i64 0) (.int .i64 0) (.slice none 0 0)⟩
             exact AllReadyH.nil
            exact AllReadyH.nil
           exact AllReadyH.nil
          exact AllReadyH.nil
         refine AllReadyH.cons (o := { dst := some 15, op := Op.alloc 24, type := 0, pos := "more.go:30", after := #[], guard := none }) rfl (fun K hK => ?_) ?_
         ·
          go_simp
          refine hK.out _ _ (by trivial) (fun hHeld => ?_)
          clear hK K
          try simp only [Act.put, setIfInBounds_toArray, set_cons_zero, set_cons_succ]
          refine wpAnyH_ready (rs := [6]) (by kernel_rfl) (by simp) ?_
          refine AllReadyH.cons (o := { dst := some 64, op := Op.buildSlice 41 2 #[(0, Operand.tmp 61), (1, Operand.tmp 63)], type := 41, pos := "more.go:30", after := #[{ on := 3, ground := Ground.data }, { on := 5, ground := Ground.data }], guard := none }) rfl (fun K hK => ?_) ?_
          ·
           go_simp
           refine hK.out _ _ (by trivial) (fun hHeld => ?_)
           clear hK K
           try simp only [Act.put, setIfInBounds_toArray, set_cons_zero, set_cons_succ]
           refine wpAnyH_take (i := 9) (oi := { dst := some 67, op := Op.indexAddr 41 (Operand.tmp 64) (Operand.tmp 66), type := 0, pos := "more.go:30", after := #[{ on := 6, ground := Ground.data }, { on := 8, ground := Ground.data }], guard := none }) (v := ?_) rfl (by kernel_rfl) (by kernel_rfl) (by kernel_rfl) (fun _ _ _ h => h) (Or.inl ⟨by rfl, ?_⟩) (by assumption) ?_
           rotate_left
           · (intro w hSw; (try dsimp only at hSw); go_simp; all_goals with_reducible rfl)
           try simp only [Act.put, setIfInBounds_toArray, set_cons_zero, set_cons_succ]
           refine wpAnyH_ready (rs := [10]) (by kernel_rfl) (by simp) ?_
           refine AllReadyH.cons (o := { dst := some 68, op := Op.load 3 (Operand.tmp 67), type := 3, pos := "more.go:30", after := #[{ on := 9, ground := Ground.data }], guard := none }) rfl (fun K hK => ?_) ?_
           ·
            go_simp
            refine hK.out _ _ (by trivial) (fun hHeld => ?_)
            clear hK K
            try simp only [Act.put, setIfInBounds_toArray, set_cons_zero, set_cons_succ]
            refine wpAnyH_ready (rs := [11]) (by kernel_rfl) (by simp) ?_
            refine AllReadyH.cons (o := { dst := some 69, op := Op.call { callee := Callee.value (Operand.func 12), args := #[Operand.tmp 58, Operand.tmp 59, Operand.tmp 68], argTypes := #[9, 24, 3] }, type := 27, pos := "more.go:30", after := #[{ on := 0, ground := Ground.data }, { on := 1, ground := Ground.data }, { on := 10, ground := Ground.data }, { on := 0, ground := Ground.chain }], guard := none }) rfl (fun K hK => ?_) ?_
            ·
             go_simp
             go_at_call 12
             refine (HZ.out _ (by omega) _).mono ?_
             rintro e w5 ⟨rfl, hb5⟩
             have hKB := KB.call (KB.alloc (KB.new hK1) _) hb5
             have hR := hKB.box
             clear hb5
             refine hK.out _ _ (by trivial) (fun hHeld => ?_)
             clear hK K
             try simp only [Act.put, setIfInBounds_toArray, set_cons_zero, set_cons_succ]
             refine wpAnyH_take (i := 12) (oi := { dst := some 57, op := Op.move (Operand.tmp 69), type := 27, pos := "more.go:30", after := #[{ on := 11, ground := Ground.data }], guard := none }) (v := ?_) rfl (by kernel_rfl) (by kernel_rfl) (by kernel_rfl) (fun _ _ _ h => h) (Or.inl ⟨by rfl, ?_⟩) (by assumption) ?_
             rotate_left
             · (intro w hSw; (try dsimp only at hSw); go_simp; all_goals with_reducible rfl)
             try simp only [Act.put, setIfInBounds_toArray, set_cons_zero, set_cons_succ]
             refine wpAnyH_take (i := 13) (oi := { dst := some 70, op := Op.extract (Operand.tmp 57) 0, type := 9, pos := "more.go:30", after := #[{ on := 12, ground := Ground.data }], guard := none }) (v := ?_) rfl (by kernel_rfl) (by kernel_rfl) (by kernel_rfl) (fun _ _ _ h => h) (Or.inl ⟨by rfl, ?_⟩) (by assumption) ?_
             rotate_left
             · (intro w hSw; (try dsimp only at hSw); go_simp; all_goals with_reducible rfl)
             try simp only [Act.put, setIfInBounds_toArray, set_cons_zero, set_cons_succ]
             refine wpAnyH_take (i := 14) (oi := { dst := some 71, op := Op.extract (Operand.tmp 57) 1, type := 24, pos := "more.go:30", after := #[{ on := 12, ground := Ground.data }, { on := 17, ground := Ground.gcOnly Departure.lateStores }], guard := none }) (v := ?_) rfl (by kernel_rfl) (by kernel_rfl) (by kernel_rfl) (fun _ _ _ h => h) (Or.inl ⟨by rfl, ?_⟩) (by assumption) ?_
             rotate_left
             · (intro w hSw; (try dsimp only at hSw); go_simp; all_goals with_reducible rfl)
             try simp only [Act.put, setIfInBounds_toArray, set_cons_zero, set_cons_succ]
             refine wpAnyH_take (i := 15) (oi := { dst := some 72, op := Op.extract (Operand.tmp 57) 2, type := 26, pos := "more.go:30", after := #[{ on := 12, ground := Ground.data }, { on := 18, ground := Ground.gcOnly Departure.lateStores }], guard := none }) (v := ?_) rfl (by kernel_rfl) (by kernel_rfl) (by kernel_rfl) (fun _ _ _ h => h) (Or.inl ⟨by rfl, ?_⟩) (by assumption) ?_
             rotate_left
             · (intro w hSw; (try dsimp only at hSw); go_simp; all_goals with_reducible rfl)
             try simp only [Act.put, setIfInBounds_toArray, set_cons_zero, set_cons_succ]
             refine wpAnyH_take (i := 17) (oi := { dst := some 14, op := Op.assign (Operand.tmp 70), type := 9, pos := "more.go:30", after := #[{ on := 13, ground := Ground.data }, { on := 11, ground := Ground.chain }, { on := 0, ground := Ground.phase }, { on := 1, ground := Ground.phase }, { on := 2, ground := Ground.phase }, { on := 3, ground := Ground.phase }, { on := 4, ground := Ground.phase }, { on := 5, ground := Ground.phase }, { on := 6, ground := Ground.phase }, { on := 7, ground := Ground.phase }, { on := 8, ground := Ground.phase }, { on := 9, ground := Ground.phase }, { on := 10, ground := Ground.phase }, { on := 11, ground := Ground.phase }, { on := 12, ground := Ground.phase }, { on := 13, ground := Ground.phase }, { on := 14, ground := Ground.textOnly Departure.lateStores }, { on := 15, ground := Ground.textOnly Departure.lateStores }, { on := 16, ground := Ground.phase }], guard := none }) (v := ?_) rfl (by kernel_rfl) (by kernel_rfl) (by kernel_rfl) (fun _ _ _ h => h) (Or.inl ⟨by rfl, ?_⟩) (by assumption) ?_
             rotate_left
             · (intro w hSw; (try dsimp only at hSw); go_simp; all_goals with_reducible rfl)
             try simp only [Act.put, setIfInBounds_toArray, set_cons_zero, set_cons_succ]
             refine wpAnyH_ready (rs := [18]) (by kernel_rfl) (by simp) ?_
             refine AllReadyH.cons (o := { dst := none, op := Op.store 24 (Operand.tmp 15) (Operand.tmp 71), type := 0, pos := "more.go:30", after := #[{ on := 16, ground := Ground.data }, { on := 14, ground := Ground.data }, { on := 17, ground := Ground.chain }, { on := 0, ground := Ground.phase }, { on := 1, ground := Ground.phase }, { on := 2, ground := Ground.phase }, { on := 3, ground := Ground.phase }, { on := 4, ground := Ground.phase }, { on := 5, ground := Ground.phase }, { on := 6, ground := Ground.phase }, { on := 7, ground := Ground.phase }, { on := 8, ground := Ground.phase }, { on := 9, ground := Ground.phase }, { on := 10, ground := Ground.phase }, { on := 11, ground := Ground.phase }, { on := 12, ground := Ground.phase }, { on := 13, ground := Ground.phase }, { on := 14, ground := Ground.phase }, { on := 15, ground := Ground.textOnly Departure.lateStores }, { on := 16, ground := Ground.phase }, { on := 17, ground := Ground.phase }], guard := none }) rfl (fun K hK => ?_) ?_
             ·
              go_simp
              refine hK.out _ _ (by trivial) (fun hHeld => ?_)
              clear hK K
              try simp only [Act.put, setIfInBounds_toArray, set_cons_zero, set_cons_succ]
              refine wpAnyH_take (i := 19) (oi := { dst := some 16, op := Op.assign (Operand.tmp 72), type := 26, pos := "more.go:30", after := #[{ on := 15, ground := Ground.data }, { on := 18, ground := Ground.chain }, { on := 0, ground := Ground.phase }, { on := 1, ground := Ground.phase }, { on := 2, ground := Ground.phase }, { on := 3, ground := Ground.phase }, { on := 4, ground := Ground.phase }, { on := 5, ground := Ground.phase }, { on := 6, ground := Ground.phase }, { on := 7, ground := Ground.phase }, { on := 8, ground := Ground.phase }, { on := 9, ground := Ground.phase }, { on := 10, ground := Ground.phase }, { on := 11, ground := Ground.phase }, { on := 12, ground := Ground.phase }, { on := 13, ground := Ground.phase }, { on := 14, ground := Ground.phase }, { on := 15, ground := Ground.phase }, { on := 16, ground := Ground.phase }, { on := 17, ground := Ground.phase }, { on := 18, ground := Ground.phase }], guard := none }) (v := ?_) rfl (by kernel_rfl) (by kernel_rfl) (by kernel_rfl) (fun _ _ _ h => h) (Or.inl ⟨by rfl, ?_⟩) (by assumption) ?_
              rotate_left
              · (intro w hSw; (try dsimp only at hSw); go_simp; all_goals with_reducible rfl)
              try simp only [Act.put, setIfInBounds_toArray, set_cons_zero, set_cons_succ]
              refine wpAnyH_done (by kernel_rfl) ?_ _
              refine NoPanic.normal ?_
              go_wp2_with fail
              go_meet
              refine ⟨rfl, rfl, ?_⟩
              exact ⟨_, rfl, set6 hKB.bel hKB.le, res6 hR (.int .i64 0) (.int .i64 0) (.int .i64 0) (.int .i64 0) (.int .i64 0) (.slice none 0 0)⟩
             exact AllReadyH.nil
            exact AllReadyH.nil
           exact AllReadyH.nil
          exact AllReadyH.nil
         exact AllReadyH.nil
        refine AllReadyH.cons (o := { dst := some 64, op := Op.buildSlice 41 2 #[(0, Operand.tmp 61), (1, Operand.tmp 63)], type := 41, pos := "more.go:30", after := #[{ on := 3, ground := Ground.data }, { on := 5, ground := Ground.data }], guard := none }) rfl (fun K hK => ?_) ?_
        ·
         go_simp
         refine hK.out _ _ (by trivial) (fun hHeld => ?_)
         clear hK K
         try simp only [Act.put, setIfInBounds_toArray, set_cons_zero, set_cons_succ]
         refine wpAnyH_take (i := 9) (oi := { dst := some 67, op := Op.indexAddr 41 (Operand.tmp 64) (Operand.tmp 66), type := 0, pos := "more.go:30", after := #[{ on := 6, ground := Ground.data }, { on := 8, ground := Ground.data }], guard := none }) (v := ?_) rfl (by kernel_rfl) (by kernel_rfl) (by kernel_rfl) (fun _ _ _ h => h) (Or.inl ⟨by rfl, ?_⟩) (by assumption) ?_
         rotate_left
         · (intro w hSw; (try dsimp only at hSw); go_simp; all_goals with_reducible rfl)
         try simp only [Act.put, setIfInBounds_toArray, set_cons_zero, set_cons_succ]
         refine wpAnyH_ready (rs := [0, 10, 16]) (by kernel_rfl) (by simp) ?_
         refine AllReadyH.cons (o := { dst := some 58, op := Op.call { callee := Callee.value (Operand.func 18), args := #[], argTypes := #[] }, type := 9, pos := "more.go:30", after := #[], guard := none }) rfl (fun K hK => ?_) ?_
         ·
          go_simp
          go_at_call 18
          refine (C1.out _).mono ?_
          rintro e w4 ⟨rfl, hb4⟩
          have hL := two_call (two_drew (two_new W3 _ _ _)) hb4
          have hK1 := K0.call (K0.drew (K0.alloc hT _)) hb4
          clear hb4
          refine hK.out _ _ (by trivial) (fun hHeld => ?_)
          clear hK K
          try simp only [Act.put, setIfInBounds_toArray, set_cons_zero, set_cons_succ]
          refine wpAnyH_ready (rs := [10, 16]) (by kernel_rfl) (by simp) ?_
          refine AllReadyH.cons (o := { dst := some 68, op := Op.load 3 (Operand.tmp 67), type := 3, pos := "more.go:30", after := #[{ on := 9, ground := Ground.data }], guard := none }) rfl (fun K hK => ?_) ?_
          ·
           go_simp
           refine hK.out _ _ (by trivial) (fun hHeld => ?_)
           clear hK K
           try simp only [Act.put, setIfInBounds_toArray, set_cons_zero, set_cons_succ]
           refine wpAnyH_ready (rs := [11, 16]) (by kernel_rfl) (by simp) ?_
           refine AllReadyH.cons (o := { dst := some 69, op := Op.call { callee := Callee.value (Operand.func 12), args := #[Operand.tmp 58, Operand.tmp 59, Operand.tmp 68], argTypes := #[9, 24, 3] }, type := 27, pos := "more.go:30", after := #[{ on := 0, ground := Ground.data }, { on := 1, ground := Ground.data }, { on := 10, ground := Ground.data }, { on := 0, ground := Ground.chain }], guard := none }) rfl (fun K hK => ?_) ?_
           ·
            go_simp
            go_at_call 12
            refine (HZ.out _ (by omega) _).mono ?_
            rintro e w5 ⟨rfl, hb5⟩
            replace hK1 := K0.call hK1 hb5
            clear hb5 hL
            refine hK.out _ _ (by trivial) (fun hHeld => ?_)
            clear hK K
            try simp only [Act.put, setIfInBounds_toArray, set_cons_zero, set_cons_succ]
            refine wpAnyH_take (i := 12) (oi := { dst := some 57, op := Op.move (Operand.tmp 69), type := 27, pos := "more.go:30", after := #[{ on := 11, ground := Ground.data }], guard := none }) (v := ?_) rfl (by kernel_rfl) (by kernel_rfl) (by kernel_rfl) (fun _ _ _ h => h) (Or.inl ⟨by rfl, ?_⟩) (by assumption) ?_
            rotate_left
            · (intro w hSw; (try dsimp only at hSw); go_simp; all_goals with_reducible rfl)
            try simp only [Act.put, setIfInBounds_toArray, set_cons_zero, set_cons_succ]
            refine wpAnyH_take (i := 13) (oi := { dst := some 70, op := Op.extract (Operand.tmp 57) 0, type := 9, pos := "more.go:30", after := #[{ on := 12, ground := Ground.data }], guard := none }) (v := ?_) rfl (by kernel_rfl) (by kernel_rfl) (by kernel_rfl) (fun _ _ _ h => h) (Or.inl ⟨by rfl, ?_⟩) (by assumption) ?_
            rotate_left
            · (intro w hSw; (try dsimp only at hSw); go_simp; all_goals with_reducible rfl)
            try simp only [Act.put, setIfInBounds_toArray, set_cons_zero, set_cons_succ]
            refine wpAnyH_take (i := 14) (oi := { dst := some 71, op := Op.extract (Operand.tmp 57) 1, type := 24, pos := "more.go:30", after := #[{ on := 12, ground := Ground.data }, { on := 17, ground := Ground.gcOnly Departure.lateStores }], guard := none }) (v := ?_) rfl (by kernel_rfl) (by kernel_rfl) (by kernel_rfl) (fun _ _ _ h => h) (Or.inl ⟨by rfl, ?_⟩) (by assumption) ?_
            rotate_left
            · (intro w hSw; (try dsimp only at hSw); go_simp; all_goals with_reducible rfl)
            try simp only [Act.put, setIfInBounds_toArray, set_cons_zero, set_cons_succ]
            refine wpAnyH_take (i := 15) (oi := { dst := some 72, op := Op.extract (Operand.tmp 57) 2, type := 26, pos := "more.go:30", after := #[{ on := 12, ground := Ground.data }, { on := 18, ground := Ground.gcOnly Departure.lateStores }], guard := none }) (v := ?_) rfl (by kernel_rfl) (by kernel_rfl) (by kernel_rfl) (fun _ _ _ h => h) (Or.inl ⟨by rfl, ?_⟩) (by assumption) ?_
            rotate_left
            · (intro w hSw; (try dsimp only at hSw); go_simp; all_goals with_reducible rfl)
            try simp only [Act.put, setIfInBounds_toArray, set_cons_zero, set_cons_succ]
            refine wpAnyH_ready (rs := [16]) (by kernel_rfl) (by simp) ?_
            refine AllReadyH.cons (o := { dst := some 15, op := Op.alloc 24, type := 0, pos := "more.go:30", after := #[], guard := none }) rfl (fun K hK => ?_) ?_
            ·
             go_simp
             refine hK.out _ _ (by trivial) (fun hHeld => ?_)
             clear hK K
             try simp only [Act.put, setIfInBounds_toArray, set_cons_zero, set_cons_succ]
             refine wpAnyH_take (i := 17) (oi := { dst := some 14, op := Op.assign (Operand.tmp 70), type := 9, pos := "more.go:30", after := #[{ on := 13, ground := Ground.data }, { on := 11, ground := Ground.chain }, { on := 0, ground := Ground.phase }, { on := 1, ground := Ground.phase }, { on := 2, ground := Ground.phase }, { on := 3, ground := Ground.phase }, { on := 4, ground := Ground.phase }, { on := 5, ground := Ground.phase }, { on := 6, ground := Ground.phase }, { on := 7, ground := Ground.phase }, { on := 8, ground := Ground.phase }, { on := 9, ground := Ground.phase }, { on := 10, ground := Ground.phase }, { on := 11, ground := Ground.phase }, { on := 12, ground := Ground.phase }, { on := 13, ground := Ground.phase }, { on := 14, ground := Ground.textOnly Departure.lateStores }, { on := 15, ground := Ground.textOnly Departure.lateStores }, { on := 16, ground := Ground.phase }], guard := none }) (v := ?_) rfl (by kernel_rfl) (by kernel_rfl) (by kernel_rfl) (fun _ _ _ h => h) (Or.inl ⟨by rfl, ?_⟩) (by assumption) ?_
             rotate_left
             · (intro w hSw; (try dsimp only at hSw); go_simp; all_goals with_reducible rfl)
             try simp only [Act.put, setIfInBounds_toArray, set_cons_zero, set_cons_succ]
             refine wpAnyH_ready (rs := [18]) (by kernel_rfl) (by simp) ?_
             refine AllReadyH.cons (o := { dst := none, op := Op.store 24 (Operand.tmp 15) (Operand.tmp 71), type := 0, pos := "more.go:30", after := #[{ on := 16, ground := Ground.data }, { on := 14, ground := Ground.data }, { on := 17, ground := Ground.chain }, { on := 0, ground := Ground.phase }, { on := 1, ground := Ground.phase }, { on := 2, ground := Ground.phase }, { on := 3, ground := Ground.phase }, { on := 4, ground := Ground.phase }, { on := 5, ground := Ground.phase }, { on := 6, ground := Ground.phase }, { on := 7, ground := Ground.phase }, { on := 8, ground := Ground.phase }, { on := 9, ground := Ground.phase }, { on := 10, ground := Ground.phase }, { on := 11, ground := Ground.phase }, { on := 12, ground := Ground.phase }, { on := 13, ground := Ground.phase }, { on := 14, ground := Ground.phase }, { on := 15, ground := Ground.textOnly Departure.lateStores }, { on := 16, ground := Ground.phase }, { on := 17, ground := Ground.phase }], guard := none }) rfl (fun K hK => ?_) ?_
             ·
              go_simp
              refine hK.out _ _ (by trivial) (fun hHeld => ?_)
              clear hK K
              try simp only [Act.put, setIfInBounds_toArray, set_cons_zero, set_cons_succ]
              refine wpAnyH_take (i := 19) (oi := { dst := some 16, op := Op.assign (Operand.tmp 72), type := 26, pos := "more.go:30", after := #[{ on := 15, ground := Ground.data }, { on := 18, ground := Ground.chain }, { on := 0, ground := Ground.phase }, { on := 1, ground := Ground.phase }, { on := 2, ground := Ground.phase }, { on := 3, ground := Ground.phase }, { on := 4, ground := Ground.phase }, { on := 5, ground := Ground.phase }, { on := 6, ground := Ground.phase }, { on := 7, ground := Ground.phase }, { on := 8, ground := Ground.phase }, { on := 9, ground := Ground.phase }, { on := 10, ground := Ground.phase }, { on := 11, ground := Ground.phase }, { on := 12, ground := Ground.phase }, { on := 13, ground := Ground.phase }, { on := 14, ground := Ground.phase }, { on := 15, ground := Ground.phase }, { on := 16, ground := Ground.phase }, { on := 17, ground := Ground.phase }, { on := 18, ground := Ground.phase }], guard := none }) (v := ?_) rfl (by kernel_rfl) (by kernel_rfl) (by kernel_rfl) (fun _ _ _ h => h) (Or.inl ⟨by rfl, ?_⟩) (by assumption) ?_
              rotate_left
              · (intro w hSw; (try dsimp only at hSw); go_simp; all_goals with_reducible rfl)
              try simp only [Act.put, setIfInBounds_toArray, set_cons_zero, set_cons_succ]
              refine wpAnyH_done (by kernel_rfl) ?_ _
              refine NoPanic.normal ?_
              go_wp2_with fail
              go_meet
              refine ⟨rfl, rfl, ?_⟩
              exact ⟨_, rfl, K0.alloc hK1 _, resM _ (.int .i64 0) (.int .i64 0) (.int .i64 0) (.int .i64 0) (.int .i64 0) (.slice none 0 0) 24⟩
             exact AllReadyH.nil
            exact AllReadyH.nil
           refine AllReadyH.cons (o := { dst := some 15, op := Op.alloc 24, type := 0, pos := "more.go:30", after := #[], guard := none }) rfl (fun K hK => ?_) ?_
           ·
            go_simp
            refine hK.out _ _ (by trivial) (fun hHeld => ?_)
            clear hK K
            try simp only [Act.put, setIfInBounds_toArray, set_cons_zero, set_cons_succ]
            refine wpAnyH_ready (rs := [11]) (by kernel_rfl) (by simp) ?_
            refine AllReadyH.cons (o := { dst := some 69, op := Op.call { callee := Callee.value (Operand.func 12), args := #[Operand.tmp 58, Operand.tmp 59, Operand.tmp 68], argTypes := #[9, 24, 3] }, type := 27, pos := "more.go:30", after := #[{ on := 0, ground := Ground.data }, { on := 1, ground := Ground.data }, { on := 10, ground := Ground.data }, { on := 0, ground := Ground.chain }], guard := none }) rfl (fun K hK => ?_) ?_
            ·
             go_simp
             go_at_call 12
             refine (HZ.out _ (by omega) _).mono ?_
             rintro e w5 ⟨rfl, hb5⟩
             have hKB := KB.call (KB.new hK1) hb5
             have hR := hKB.box
             clear hb5 hL
             refine hK.out _ _ (by trivial) (fun hHeld => ?_)
             clear hK K
             try simp only [Act.put, setIfInBounds_toArray, set_cons_zero, set_cons_succ]
             refine wpAnyH_take (i := 12) (oi := { dst := some 57, op := Op.move (Operand.tmp 69), type := 27, pos := "more.go:30", after := #[{ on := 11, ground := Ground.data }], guard := none }) (v := ?_) rfl (by kernel_rfl) (by kernel_rfl) (by kernel_rfl) (fun _ _ _ h => h) (Or.inl ⟨by rfl, ?_⟩) (by assumption) ?_
             rotate_left
             · (intro w hSw; (try dsimp only at hSw); go_simp; all_goals with_reducible rfl)
             try simp only [Act.put, setIfInBounds_toArray, set_cons_zero, set_cons_succ]
             refine wpAnyH_take (i := 13) (oi := { dst := some 70, op := Op.extract (Operand.tmp 57) 0, type := 9, pos := "more.go:30", after := #[{ on := 12, ground := Ground.data }], guard := none }) (v := ?_) rfl (by kernel_rfl) (by kernel_rfl) (by kernel_rfl) (fun _ _ _ h => h) (Or.inl ⟨by rfl, ?_⟩) (by assumption) ?_
             rotate_left
             · (intro w hSw; (try dsimp only at hSw); go_simp; all_goals with_reducible rfl)
             try simp only [Act.put, setIfInBounds_toArray, set_cons_zero, set_cons_succ]
             refine wpAnyH_take (i := 14) (oi := { dst := some 71, op := Op.extract (Operand.tmp 57) 1, type := 24, pos := "more.go:30", after := #[{ on := 12, ground := Ground.data }, { on := 17, ground := Ground.gcOnly Departure.lateStores }], guard := none }) (v := ?_) rfl (by kernel_rfl) (by kernel_rfl) (by kernel_rfl) (fun _ _ _ h => h) (Or.inl ⟨by rfl, ?_⟩) (by assumption) ?_
             rotate_left
             · (intro w hSw; (try dsimp only at hSw); go_simp; all_goals with_reducible rfl)
             try simp only [Act.put, setIfInBounds_toArray, set_cons_zero, set_cons_succ]
             refine wpAnyH_take (i := 15) (oi := { dst := some 72, op := Op.extract (Operand.tmp 57) 2, type := 26, pos := "more.go:30", after := #[{ on := 12, ground := Ground.data }, { on := 18, ground := Ground.gcOnly Departure.lateStores }], guard := none }) (v := ?_) rfl (by kernel_rfl) (by kernel_rfl) (by kernel_rfl) (fun _ _ _ h => h) (Or.inl ⟨by rfl, ?_⟩) (by assumption) ?_
             rotate_left
             · (intro w hSw; (try dsimp only at hSw); go_simp; all_goals with_reducible rfl)
             try simp only [Act.put, setIfInBounds_toArray, set_cons_zero, set_cons_succ]
             refine wpAnyH_take (i := 17) (oi := { dst := some 14, op := Op.assign (Operand.tmp 70), type := 9, pos := "more.go:30", after := #[{ on := 13, ground := Ground.data }, { on := 11, ground := Ground.chain }, { on := 0, ground := Ground.phase }, { on := 1, ground := Ground.phase }, { on := 2, ground := Ground.phase }, { on := 3, ground := Ground.phase }, { on := 4, ground := Ground.phase }, { on := 5, ground := Ground.phase }, { on := 6, ground := Ground.phase }, { on := 7, ground := Ground.phase }, { on := 8, ground := Ground.phase }, { on := 9, ground := Ground.phase }, { on := 10, ground := Ground.phase }, { on := 11, ground := Ground.phase }, { on := 12, ground := Ground.phase }, { on := 13, ground := Ground.phase }, { on := 14, ground := Ground.textOnly Departure.lateStores }, { on := 15, ground := Ground.textOnly Departure.lateStores }, { on := 16, ground := Ground.phase }], guard := none }) (v := ?_) rfl (by kernel_rfl) (by kernel_rfl) (by kernel_rfl) (fun _ _ _ h => h) (Or.inl ⟨by rfl, ?_⟩) (by assumption) ?_
             rotate_left
             · (intro w hSw; (try dsimp only at hSw); go_simp; all_goals with_reducible rfl)
             try simp only [Act.put, setIfInBounds_toArray, set_cons_zero, set_cons_succ]
             refine wpAnyH_ready (rs := [18]) (by kernel_rfl) (by simp) ?_
             refine AllReadyH.cons (o := { dst := none, op := Op.store 24 (Operand.tmp 15) (Operand.tmp 71), type := 0, pos := "more.go:30", after := #[{ on := 16, ground := Ground.data }, { on := 14, ground := Ground.data }, { on := 17, ground := Ground.chain }, { on := 0, ground := Ground.phase }, { on := 1, ground := Ground.phase }, { on := 2, ground := Ground.phase }, { on := 3, ground := Ground.phase }, { on := 4, ground := Ground.phase }, { on := 5, ground := Ground.phase }, { on := 6, ground := Ground.phase }, { on := 7, ground := Ground.phase }, { on := 8, ground := Ground.phase }, { on := 9, ground := Ground.phase }, { on := 10, ground := Ground.phase }, { on := 11, ground := Ground.phase }, { on := 12, ground := Ground.phase }, { on := 13, ground := Ground.phase }, { on := 14, ground := Ground.phase }, { on := 15, ground := Ground.textOnly Departure.lateStores }, { on := 16, ground := Ground.phase }, { on := 17, ground := Ground.phase }], guard := none }) rfl (fun K hK => ?_) ?_
             ·
              go_simp
              refine hK.out _ _ (by trivial) (fun hHeld => ?_)
              clear hK K
              try simp only [Act.put, setIfInBounds_toArray, set_cons_zero, set_cons_succ]
              refine wpAnyH_take (i := 19) (oi := { dst := some 16, op := Op.assign (Operand.tmp 72), type := 26, pos := "more.go:30", after := #[{ on := 15, ground := Ground.data }, { on := 18, ground := Ground.chain }, { on := 0, ground := Ground.phase }, { on := 1, ground := Ground.phase }, { on := 2, ground := Ground.phase }, { on := 3, ground := Ground.phase }, { on := 4, ground := Ground.phase }, { on := 5, ground := Ground.phase }, { on := 6, ground := Ground.phase }, { on := 7, ground := Ground.phase }, { on := 8, ground := Ground.phase }, { on := 9, ground := Ground.phase }, { on := 10, ground := Ground.phase }, { on := 11, ground := Ground.phase }, { on := 12, ground := Ground.phase }, { on := 13, ground := Ground.phase }, { on := 14, ground := Ground.phase }, { on := 15, ground := Ground.phase }, { on := 16, ground := Ground.phase }, { on := 17, ground := Ground.phase }, { on := 18, ground := Ground.phase }], guard := none }) (v := ?_) rfl (by kernel_rfl) (by kernel_rfl) (by kernel_rfl) (fun _ _ _ h => h) (Or.inl ⟨by rfl, ?_⟩) (by assumption) ?_
              rotate_left
              · (intro w hSw; (try dsimp only at hSw); go_simp; all_goals with_reducible rfl)
              try simp only [Act.put, setIfInBounds_toArray, set_cons_zero, set_cons_succ]
              refine wpAnyH_done (by kernel_rfl) ?_ _
              refine NoPanic.normal ?_
              go_wp2_with fail
              go_meet
              refine ⟨rfl, rfl, ?_⟩
              exact ⟨_, rfl, set6 hKB.bel hKB.le, res6 hR (.int .i64 0) (.int .i64 0) (.int .i64 0) (.int .i64 0) (.int .i64 0) (.slice none 0 0)⟩
             exact AllReadyH.nil
            exact AllReadyH.nil
           exact AllReadyH.nil
          refine AllReadyH.cons (o := { dst := some 15, op := Op.alloc 24, type := 0, pos := "more.go:30", after := #[], guard := none }) rfl (fun K hK => ?_) ?_
          ·
           go_simp
           refine hK.out _ _ (by trivial) (fun hHeld => ?_)
           clear hK K
           try simp only [Act.put, setIfInBounds_toArray, set_cons_zero, set_cons_succ]
           refine wpAnyH_ready (rs := [10]) (by kernel_rfl) (by simp) ?_
           refine AllReadyH.cons (o := { dst := some 68, op := Op.load 3 (Operand.tmp 67), type := 3, pos := "more.go:30", after := #[{ on := 9, ground := Ground.data }], guard := none }) rfl (fun K hK => ?_) ?_
           ·
            go_simp
            refine hK.out _ _ (by trivial) (fun hHeld => ?_)
            clear hK K
            try simp only [Act.put, setIfInBounds_toArray, set_cons_zero, set_cons_succ]
            refine wpAnyH_ready (rs := [11]) (by kernel_rfl) (by simp) ?_
            refine AllReadyH.cons (o := { dst := some 69, op := Op.call { callee := Callee.value (Operand.func 12), args := #[Operand.tmp 58, Operand.tmp 59, Operand.tmp 68], argTypes := #[9, 24, 3] }, type := 27, pos := "more.go:30", after := #[{ on := 0, ground := Ground.data }, { on := 1, ground := Ground.data }, { on := 10, ground := Ground.data }, { on := 0, ground := Ground.chain }], guard := none }) rfl (fun K hK => ?_) ?_
            ·
             go_simp
             go_at_call 12
             refine (HZ.out _ (by omega) _).mono ?_
             rintro e w5 ⟨rfl, hb5⟩
             have hKB := KB.call (KB.new hK1) hb5
             have hR := hKB.box
             clear hb5 hL
             refine hK.out _ _ (by trivial) (fun hHeld => ?_)
             clear hK K
             try simp only [Act.put, setIfInBounds_toArray, set_cons_zero, set_cons_succ]
             refine wpAnyH_take (i := 12) (oi := { dst := some 57, op := Op.move (Operand.tmp 69), type := 27, pos := "more.go:30", after := #[{ on := 11, ground := Ground.data }], guard := none }) (v := ?_) rfl (by kernel_rfl) (by kernel_rfl) (by kernel_rfl) (fun _ _ _ h => h) (Or.inl ⟨by rfl, ?_⟩) (by assumption) ?_
             rotate_left
             · (intro w hSw; (try dsimp only at hSw); go_simp; all_goals with_reducible rfl)
             try simp only [Act.put, setIfInBounds_toArray, set_cons_zero, set_cons_succ]
             refine wpAnyH_take (i := 13) (oi := { dst := some 70, op := Op.extract (Operand.tmp 57) 0, type := 9, pos := "more.go:30", after := #[{ on := 12, ground := Ground.data }], guard := none }) (v := ?_) rfl (by kernel_rfl) (by kernel_rfl) (by kernel_rfl) (fun _ _ _ h => h) (Or.inl ⟨by rfl, ?_⟩) (by assumption) ?_
             rotate_left
             · (intro w hSw; (try dsimp only at hSw); go_simp; all_goals with_reducible rfl)
             try simp only [Act.put, setIfInBounds_toArray, set_cons_zero, set_cons_succ]
             refine wpAnyH_take (i := 14) (oi := { dst := some 71, op := Op.extract (Operand.tmp 57) 1, type := 24, pos := "more.go:30", after := #[{ on := 12, ground := Ground.data }, { on := 17, ground := Ground.gcOnly Departure.lateStores }], guard := none }) (v := ?_) rfl (by kernel_rfl) (by kernel_rfl) (by kernel_rfl) (fun _ _ _ h => h) (Or.inl ⟨by rfl, ?_⟩) (by assumption) ?_
             rotate_left
             · (intro w hSw; (try dsimp only at hSw); go_simp; all_goals with_reducible rfl)
             try simp only [Act.put, setIfInBounds_toArray, set_cons_zero, set_cons_succ]
             refine wpAnyH_take (i := 15) (oi := { dst := some 72, op := Op.extract (Operand.tmp 57) 2, type := 26, pos := "more.go:30", after := #[{ on := 12, ground := Ground.data }, { on := 18, ground := Ground.gcOnly Departure.lateStores }], guard := none }) (v := ?_) rfl (by kernel_rfl) (by kernel_rfl) (by kernel_rfl) (fun _ _ _ h => h) (Or.inl ⟨by rfl, ?_⟩) (by assumption) ?_
             rotate_left
             · (intro w hSw; (try dsimp only at hSw); go_simp; all_goals with_reducible rfl)
             try simp only [Act.put, setIfInBounds_toArray, set_cons_zero, set_cons_succ]
             refine wpAnyH_take (i := 17) (oi := { dst := some 14, op := Op.assign (Operand.tmp 70), type := 9, pos := "more.go:30", after := #[{ on := 13, ground := Ground.data }, { on := 11, ground := Ground.chain }, { on := 0, ground := Ground.phase }, { on := 1, ground := Ground.phase }, { on := 2, ground := Ground.phase }, { on := 3, ground := Ground.phase }, { on := 4, ground := Ground.phase }, { on := 5, ground := Ground.phase }, { on := 6, ground := Ground.phase }, { on := 7, ground := Ground.phase }, { on := 8, ground := Ground.phase }, { on := 9, ground := Ground.phase }, { on := 10, ground := Ground.phase }, { on := 11, ground := Ground.phase }, { on := 12, ground := Ground.phase }, { on := 13, ground := Ground.phase }, { on := 14, ground := Ground.textOnly Departure.lateStores }, { on := 15, ground := Ground.textOnly Departure.lateStores }, { on := 16, ground := Ground.phase }], guard := none }) (v := ?_) rfl (by kernel_rfl) (by kernel_rfl) (by kernel_rfl) (fun _ _ _ h => h) (Or.inl ⟨by rfl, ?_⟩) (by assumption) ?_
             rotate_left
             · (intro w hSw; (try dsimp only at hSw); go_simp; all_goals with_reducible rfl)
             try simp only [Act.put, setIfInBounds_toArray, set_cons_zero, set_cons_succ]
             refine wpAnyH_ready (rs := [18]) (by kernel_rfl) (by simp) ?_
             refine AllReadyH.cons (o := { dst := none, op := Op.store 24 (Operand.tmp 15) (Operand.tmp 71), type := 0, pos := "more.go:30", after := #[{ on := 16, ground := Ground.data }, { on := 14, ground := Ground.data }, { on := 17, ground := Ground.chain }, { on := 0, ground := Ground.phase }, { on := 1, ground := Ground.phase }, { on := 2, ground := Ground.phase }, { on := 3, ground := Ground.phase }, { on := 4, ground := Ground.phase }, { on := 5, ground := Ground.phase }, { on := 6, ground := Ground.phase }, { on := 7, ground := Ground.phase }, { on := 8, ground := Ground.phase }, { on := 9, ground := Ground.phase }, { on := 10, ground := Ground.phase }, { on := 11, ground := Ground.phase }, { on := 12, ground := Ground.phase }, { on := 13, ground := Ground.phase }, { on := 14, ground := Ground.phase }, { on := 15, ground := Ground.textOnly Departure.lateStores }, { on := 16, ground := Ground.phase }, { on := 17, ground := Ground.phase }], guard := none }) rfl (fun K hK => ?_) ?_
             ·
              go_simp
              refine hK.out _ _ (by trivial) (fun hHeld => ?_)
              clear hK K
              try simp only [Act.put, setIfInBounds_toArray, set_cons_zero, set_cons_succ]
              refine wpAnyH_take (i := 19) (oi := { dst := some 16, op := Op.assign (Operand.tmp 72), type := 26, pos := "more.go:30", after := #[{ on := 15, ground := Ground.data }, { on := 18, ground := Ground.chain }, { on := 0, ground := Ground.phase }, { on := 1, ground := Ground.phase }, { on := 2, ground := Ground.phase }, { on := 3, ground := Ground.phase }, { on := 4, ground := Ground.phase }, { on := 5, ground := Ground.phase }, { on := 6, ground := Ground.phase }, { on := 7, ground := Ground.phase }, { on := 8, ground := Ground.phase }, { on := 9, ground := Ground.phase }, { on := 10, ground := Ground.phase }, { on := 11, ground := Ground.phase }, { on := 12, ground := Ground.phase }, { on := 13, ground := Ground.phase }, { on := 14, ground := Ground.phase }, { on := 15, ground := Ground.phase }, { on := 16, ground := Ground.phase }, { on := 17, ground := Ground.phase }, { on := 18, ground := Ground.phase }], guard := none }) (v := ?_) rfl (by kernel_rfl) (by kernel_rfl) (by kernel_rfl) (fun _ _ _ h => h) (Or.inl ⟨by rfl, ?_⟩) (by assumption) ?_
              rotate_left
              · (intro w hSw; (try dsimp only at hSw); go_simp; all_goals with_reducible rfl)
              try simp only [Act.put, setIfInBounds_toArray, set_cons_zero, set_cons_succ]
              refine wpAnyH_done (by kernel_rfl) ?_ _
              refine NoPanic.normal ?_
              go_wp2_with fail
              go_meet
              refine ⟨rfl, rfl, ?_⟩
              exact ⟨_, rfl, set6 hKB.bel hKB.le, res6 hR (.int .i64 0) (.int .i64 0) (.int .i64 0) (.int .i64 0) (.int .i64 0) (.slice none 0 0)⟩
             exact AllReadyH.nil
            exact AllReadyH.nil
           exact AllReadyH.nil
          exact AllReadyH.nil
         refine AllReadyH.cons (o := { dst := some 68, op := Op.load 3 (Operand.tmp 67), type := 3, pos := "more.go:30", after := #[{ on := 9, ground := Ground.data }], guard := none }) rfl (fun K hK => ?_) ?_
         ·
          go_simp
          refine hK.out _ _ (by trivial) (fun hHeld => ?_)
          clear hK K
          try simp only [Act.put, setIfInBounds_toArray, set_cons_zero, set_cons_succ]
          refine wpAnyH_ready (rs := [0, 16]) (by kernel_rfl) (by simp) ?_
          refine AllReadyH.cons (o := { dst := some 58, op := Op.call { callee := Callee.value (Operand.func 18), args := #[], argTypes := #[] }, type := 9, pos := "more.go:30", after := #[], guard := none }) rfl (fun K hK => ?_) ?_
          ·
           go_simp
           go_at_call 18
           refine (C1.out _).mono ?_
           rintro e w4 ⟨rfl, hb4⟩
           have hL := two_call (two_drew (two_new W3 _ _ _)) hb4
           have hK1 := K0.call (K0.drew (K0.alloc hT _)) hb4
           clear hb4
           refine hK.out _ _ (by trivial) (fun hHeld => ?_)
           clear hK K
           try simp only [Act.put, setIfInBounds_toArray, set_cons_zero, set_cons_succ]
           refine wpAnyH_ready (rs := [11, 16]) (by kernel_rfl) (by simp) ?_
           refine AllReadyH.cons (o := { dst := some 69, op := Op.call { callee := Callee.value (Operand.func 12), args := #[Operand.tmp 58, Operand.tmp 59, Operand.tmp 68], argTypes := #[9, 24, 3] }, type := 27, pos := "more.go:30", after := #[{ on := 0, ground := Ground.data }, { on := 1, ground := Ground.data }, { on := 10, ground := Ground.data }, { on := 0, ground := Ground.chain }], guard := none }) rfl (fun K hK => ?_) ?_
           ·
            go_simp
            go_at_call 12
            refine (HZ.out _ (by omega) _).mono ?_
            rintro e w5 ⟨rfl, hb5⟩
            replace hK1 := K0.call hK1 hb5
            clear hb5 hL
            refine hK.out _ _ (by trivial) (fun hHeld => ?_)
            clear hK K
            try simp only [Act.put, setIfInBounds_toArray, set_cons_zero, set_cons_succ]
            refine wpAnyH_take (i := 12) (oi := { dst := some 57, op := Op.move (Operand.tmp 69), type := 27, pos := "more.go:30", after := #[{ on := 11, ground := Ground.data }], guard := none }) (v := ?_) rfl (by kernel_rfl) (by kernel_rfl) (by kernel_rfl) (fun _ _ _ h => h) (Or.inl ⟨by rfl, ?_⟩) (by assumption) ?_
            rotate_left
            · (intro w hSw; (try dsimp only at hSw); go_simp; all_goals with_reducible rfl)
            try simp only [Act.put, setIfInBounds_toArray, set_cons_zero, set_cons_succ]
            refine wpAnyH_take (i := 13) (oi := { dst := some 70, op := Op.extract (Operand.tmp 57) 0, type := 9, pos := "more.go:30", after := #[{ on := 12, ground := Ground.data }], guard := none }) (v := ?_) rfl (by kernel_rfl) (by kernel_rfl) (by kernel_rfl) (fun _ _ _ h => h) (Or.inl ⟨by rfl, ?_⟩) (by assumption) ?_
            rotate_left
            · (intro w hSw; (try dsimp only at hSw); go_simp; all_goals with_reducible rfl)
            try simp only [Act.put, setIfInBounds_toArray, set_cons_zero, set_cons_succ]
            refine wpAnyH_take (i := 14) (oi := { dst := some 71, op := Op.extract (Operand.tmp 57) 1, type := 24, pos := "more.go:30", after := #[{ on := 12, ground := Ground.data }, { on := 17, ground := Ground.gcOnly Departure.lateStores }], guard := none }) (v := ?_) rfl (by kernel_rfl) (by kernel_rfl) (by kernel_rfl) (fun _ _ _ h => h) (Or.inl ⟨by rfl, ?_⟩) (by assumption) ?_
            rotate_left
            · (intro w hSw; (try dsimp only at hSw); go_simp; all_goals with_reducible rfl)
            try simp only [Act.put, setIfInBounds_toArray, set_cons_zero, set_cons_succ]
            refine wpAnyH_take (i := 15) (oi := { dst := some 72, op := Op.extract (Operand.tmp 57) 2, type := 26, pos := "more.go:30", after := #[{ on := 12, ground := Ground.data }, { on := 18, ground := Ground.gcOnly Departure.lateStores }], guard := none }) (v := ?_) rfl (by kernel_rfl) (by kernel_rfl) (by kernel_rfl) (fun _ _ _ h => h) (Or.inl ⟨by rfl, ?_⟩) (by assumption) ?_
            rotate_left
            · (intro w hSw; (try dsimp only at hSw); go_simp; all_goals with_reducible rfl)
            try simp only [Act.put, setIfInBounds_toArray, set_cons_zero, set_cons_succ]
            refine wpAnyH_ready (rs := [16]) (by kernel_rfl) (by simp) ?_
            refine AllReadyH.cons (o := { dst := some 15, op := Op.alloc 24, type := 0, pos := "more.go:30", after := #[], guard := none }) rfl (fun K hK => ?_) ?_
            ·
             go_simp
             refine hK.out _ _ (by trivial) (fun hHeld => ?_)
             clear hK K
             try simp only [Act.put, setIfInBounds_toArray, set_cons_zero, set_cons_succ]
             refine wpAnyH_take (i := 17) (oi := { dst := some 14, op := Op.assign (Operand.tmp 70), type := 9, pos := "more.go:30", after := #[{ on := 13, ground := Ground.data }, { on := 11, ground := Ground.chain }, { on := 0, ground := Ground.phase }, { on := 1, ground := Ground.phase }, { on := 2, ground := Ground.phase }, { on := 3, ground := Ground.phase }, { on := 4, ground := Ground.phase }, { on := 5, ground := Ground.phase }, { on := 6, ground := Ground.phase }, { on := 7, ground := Ground.phase }, { on := 8, ground := Ground.phase }, { on := 9, ground := Ground.phase }, { on := 10, ground := Ground.phase }, { on := 11, ground := Ground.phase }, { on := 12, ground := Ground.phase }, { on := 13, ground := Ground.phase }, { on := 14, ground := Ground.textOnly Departure.lateStores }, { on := 15, ground := Ground.textOnly Departure.lateStores }, { on := 16, ground := Ground.phase }], guard := none }) (v := ?_) rfl (by kernel_rfl) (by kernel_rfl) (by kernel_rfl) (fun _ _ _ h => h) (Or.inl ⟨by rfl, ?_⟩) (by assumption) ?_
             rotate_left
             · (intro w hSw; (try dsimp only at hSw); go_simp; all_goals with_reducible rfl)
             try simp only [Act.put, setIfInBounds_toArray, set_cons_zero, set_cons_succ]
             refine wpAnyH_ready (rs := [18]) (by kernel_rfl) (by simp) ?_
             refine AllReadyH.cons (o := { dst := none, op := Op.store 24 (Operand.tmp 15) (Operand.tmp 71), type := 0, pos := "more.go:30", after := #[{ on := 16, ground := Ground.data }, { on := 14, ground := Ground.data }, { on := 17, ground := Ground.chain }, { on := 0, ground := Ground.phase }, { on := 1, ground := Ground.phase }, { on := 2, ground := Ground.phase }, { on := 3, ground := Ground.phase }, { on := 4, ground := Ground.phase }, { on := 5, ground := Ground.phase }, { on := 6, ground := Ground.phase }, { on := 7, ground := Ground.phase }, { on := 8, ground := Ground.phase }, { on := 9, ground := Ground.phase }, { on := 10, ground := Ground.phase }, { on := 11, ground := Ground.phase }, { on := 12, ground := Ground.phase }, { on := 13, ground := Ground.phase }, { on := 14, ground := Ground.phase }, { on := 15, ground := Ground.textOnly Departure.lateStores }, { on := 16, ground := Ground.phase }, { on := 17, ground := Ground.phase }], guard := none }) rfl (fun K hK => ?_) ?_
             ·
              go_simp
              refine hK.out _ _ (by trivial) (fun hHeld => ?_)
              clear hK K
              try simp only [Act.put, setIfInBounds_toArray, set_cons_zero, set_cons_succ]
              refine wpAnyH_take (i := 19) (oi := { dst := some 16, op := Op.assign (Operand.tmp 72), type := 26, pos := "more.go:30", after := #[{ on := 15, ground := Ground.data }, { on := 18, ground := Ground.chain }, { on := 0, ground := Ground.phase }, { on := 1, ground := Ground.phase }, { on := 2, ground := Ground.phase }, { on := 3, ground := Ground.phase }, { on := 4, ground := Ground.phase }, { on := 5, ground := Ground.phase }, { on := 6, ground := Ground.phase }, { on := 7, ground := Ground.phase }, { on := 8, ground := Ground.phase }, { on := 9, ground := Ground.phase }, { on := 10, ground := Ground.phase }, { on := 11, ground := Ground.phase }, { on := 12, ground := Ground.phase }, { on := 13, ground := Ground.phase }, { on := 14, ground := Ground.phase }, { on := 15, ground := Ground.phase }, { on := 16, ground := Ground.phase }, { on := 17, ground := Ground.phase }, { on := 18, ground := Ground.phase }], guard := none }) (v := ?_) rfl (by kernel_rfl) (by kernel_rfl) (by kernel_rfl) (fun _ _ _ h => h) (Or.inl ⟨by rfl, ?_⟩) (by assumption) ?_
              rotate_left
              · (intro w hSw; (try dsimp only at hSw); go_simp; all_goals with_reducible rfl)
              try simp only [Act.put, setIfInBounds_toArray, set_cons_zero, set_cons_succ]
              refine wpAnyH_done (by kernel_rfl) ?_ _
              refine NoPanic.normal ?_
              go_wp2_with fail
              go_meet
              refine ⟨rfl, rfl, ?_⟩
              exact ⟨_, rfl, K0.alloc hK1 _, resM _ (.int .i64 0) (.int .i64 0) (.int .i64 0) (.int .i64 0) (.int .i64 0) (.slice none 0 0) 24⟩
             exact AllReadyH.nil
            exact AllReadyH.nil
           refine AllReadyH.cons (o := { dst := some 15, op := Op.alloc 24, type := 0, pos := "more.go:30", after := #[], guard := none }) rfl (fun K hK => ?_) ?_
           ·
            go_simp
            refine hK.out _ _ (by trivial) (fun hHeld => ?_)
            clear hK K
            try simp only [Act.put, setIfInBounds_toArray, set_cons_zero, set_cons_succ]
            refine wpAnyH_ready (rs := [11]) (by kernel_rfl) (by simp) ?_
            refine AllReadyH.cons (o := { dst := some 69, op := Op.call { callee := Callee.value (Operand.func 12), args := #[Operand.tmp 58, Operand.tmp 59, Operand.tmp 68], argTypes := #[9, 24, 3] }, type := 27, pos := "more.go:30", after := #[{ on := 0, ground := Ground.data }, { on := 1, ground := Ground.data }, { on := 10, ground := Ground.data }, { on := 0, ground := Ground.chain }], guard := none }) rfl (fun K hK => ?_) ?_
            ·
             go_simp
             go_at_call 12
             refine (HZ.out _ (by omega) _).mono ?_
             rintro e w5 ⟨rfl, hb5⟩
             have hKB := KB.call (KB.new hK1) hb5
             have hR := hKB.box
             clear hb5 hL
             refine hK.out _ _ (by trivial) (fun hHeld => ?_)
             clear hK K
             try simp only [Act.put, setIfInBounds_toArray, set_cons_zero, set_cons_succ]
             refine wpAnyH_take (i := 12) (oi := { dst := some 57, op := Op.move (Operand.tmp 69), type := 27, pos := "more.go:30", after := #[{ on := 11, ground := Ground.data }], guard := none }) (v := ?_) rfl (by kernel_rfl) (by kernel_rfl) (by kernel_rfl) (fun _ _ _ h => h) (Or.inl ⟨by rfl, ?_⟩) (by assumption) ?_
             rotate_left
             · (intro w hSw; (try dsimp only at hSw); go_simp; all_goals with_reducible rfl)
             try simp only [Act.put, setIfInBounds_toArray, set_cons_zero, set_cons_succ]
             refine wpAnyH_take (i := 13) (oi := { dst := some 70, op := Op.extract (Operand.tmp 57) 0, type := 9, pos := "more.go:30", after := #[{ on := 12, ground := Ground.data }], guard := none }) (v := ?_) rfl (by kernel_rfl) (by kernel_rfl) (by kernel_rfl) (fun _ _ _ h => h) (Or.inl ⟨by rfl, ?_⟩) (by assumption) ?_
             rotate_left
             · (intro w hSw; (try dsimp only at hSw); go_simp; all_goals with_reducible rfl)
             try simp only [Act.put, setIfInBounds_toArray, set_cons_zero, set_cons_succ]
             refine wpAnyH_take (i := 14) (oi := { dst := some 71, op := Op.extract (Operand.tmp 57) 1, type := 24, pos := "more.go:30", after := #[{ on := 12, ground := Ground.data }, { on := 17, ground := Ground.gcOnly Departure.lateStores }], guard := none }) (v := ?_) rfl (by kernel_rfl) (by kernel_rfl) (by kernel_rfl) (fun _ _ _ h => h) (Or.inl ⟨by rfl, ?_⟩) (by assumption) ?_
             rotate_left
             · (intro w hSw; (try dsimp only at hSw); go_simp; all_goals with_reducible rfl)
             try simp only [Act.put, setIfInBounds_toArray, set_cons_zero, set_cons_succ]
             refine wpAnyH_take (i := 15) (oi := { dst := some 72, op := Op.extract (Operand.tmp 57) 2, type := 26, pos := "more.go:30", after := #[{ on := 12, ground := Ground.data }, { on := 18, ground := Ground.gcOnly Departure.lateStores }], guard := none }) (v := ?_) rfl (by kernel_rfl) (by kernel_rfl) (by kernel_rfl) (fun _ _ _ h => h) (Or.inl ⟨by rfl, ?_⟩) (by assumption) ?_
             rotate_left
             · (intro w hSw; (try dsimp only at hSw); go_simp; all_goals with_reducible rfl)
             try simp only [Act.put, setIfInBounds_toArray, set_cons_zero, set_cons_succ]
             refine wpAnyH_take (i := 17) (oi := { dst := some 14, op := Op.assign (Operand.tmp 70), type := 9, pos := "more.go:30", after := #[{ on := 13, ground := Ground.data }, { on := 11, ground := Ground.chain }, { on := 0, ground := Ground.phase }, { on := 1, ground := Ground.phase }, { on := 2, ground := Ground.phase }, { on := 3, ground := Ground.phase }, { on := 4, ground := Ground.phase }, { on := 5, ground := Ground.phase }, { on := 6, ground := Ground.phase }, { on := 7, ground := Ground.phase }, { on := 8, ground := Ground.phase }, { on := 9, ground := Ground.phase }, { on := 10, ground := Ground.phase }, { on := 11, ground := Ground.phase }, { on := 12, ground := Ground.phase }, { on := 13, ground := Ground.phase }, { on := 14, ground := Ground.textOnly Departure.lateStores }, { on := 15, ground := Ground.textOnly Departure.lateStores }, { on := 16, ground := Ground.phase }], guard := none }) (v := ?_) rfl (by kernel_rfl) (by kernel_rfl) (by kernel_rfl) (fun _ _ _ h => h) (Or.inl ⟨by rfl, ?_⟩) (by assumption) ?_
             rotate_left
             · (intro w hSw; (try dsimp only at hSw); go_simp; all_goals with_reducible rfl)
             try simp only [Act.put, setIfInBounds_toArray, set_cons_zero, set_cons_succ]
             refine wpAnyH_ready (rs := [18]) (by kernel_rfl) (by simp) ?_
             refine AllReadyH.cons (o := { dst := none, op := Op.store 24 (Operand.tmp 15) (Operand.tmp 71), type := 0, pos := "more.go:30", after := #[{ on := 16, ground := Ground.data }, { on := 14, ground := Ground.data }, { on := 17, ground := Ground.chain }, { on := 0, ground := Ground.phase }, { on := 1, ground := Ground.phase }, { on := 2, ground := Ground.phase }, { on := 3, ground := Ground.phase }, { on := 4, ground := Ground.phase }, { on := 5, ground := Ground.phase }, { on := 6, ground := Ground.phase }, { on := 7, ground := Ground.phase }, { on := 8, ground := Ground.phase }, { on := 9, ground := Ground.phase }, { on := 10, ground := Ground.phase }, { on := 11, ground := Ground.phase }, { on := 12, ground := Ground.phase }, { on := 13, ground := Ground.phase }, { on := 14, ground := Ground.phase }, { on := 15, ground := Ground.textOnly Departure.lateStores }, { on := 16, ground := Ground.phase }, { on := 17, ground := Ground.phase }], guard := none }) rfl (fun K hK => ?_) ?_
             ·
              go_simp
              refine hK.out _ _ (by trivial) (fun hHeld => ?_)
              clear hK K
              try simp only [Act.put, setIfInBounds_toArray, set_cons_zero, set_cons_succ]
              refine wpAnyH_take (i := 19) (oi := { dst := some 16, op := Op.assign (Operand.tmp 72), type := 26, pos := "more.go:30", after := #[{ on := 15, ground := Ground.data }, { on := 18, ground := Ground.chain }, { on := 0, ground := Ground.phase }, { on := 1, ground := Ground.phase }, { on := 2, ground := Ground.phase }, { on := 3, ground := Ground.phase }, { on := 4, ground := Ground.phase }, { on := 5, ground := Ground.phase }, { on := 6, ground := Ground.phase }, { on := 7, ground := Ground.phase }, { on := 8, ground := Ground.phase }, { on := 9, ground := Ground.phase }, { on := 10, ground := Ground.phase }, { on := 11, ground := Ground.phase }, { on := 12, ground := Ground.phase }, { on := 13, ground := Ground.phase }, { on := 14, ground := Ground.phase }, { on := 15, ground := Ground.phase }, { on := 16, ground := Ground.phase }, { on := 17, ground := Ground.phase }, { on := 18, ground := Ground.phase }], guard := none }) (v := ?_) rfl (by kernel_rfl) (by kernel_rfl) (by kernel_rfl) (fun _ _ _ h => h) (Or.inl ⟨by rfl, ?_⟩) (by assumption) ?_
              rotate_left
              · (intro w hSw; (try dsimp only at hSw); go_simp; all_goals with_reducible rfl)
              try simp only [Act.put, setIfInBounds_toArray, set_cons_zero, set_cons_succ]
              refine wpAnyH_done (by kernel_rfl) ?_ _
              refine NoPanic.normal ?_
              go_wp2_with fail
              go_meet
              refine ⟨rfl, rfl, ?_⟩
              exact ⟨_, rfl, set6 hKB.bel hKB.le, res6 hR (.int .i64 0) (.int .i64 0) (.int .i64 0) (.int .i64 0) (.int .i64 0) (.slice none 0 0)⟩
             exact AllReadyH.nil
            exact AllReadyH.nil
           exact AllReadyH.nil
          refine AllReadyH.cons (o := { dst := some 15, op := Op.alloc 24, type := 0, pos := "more.go:30", after := #[], guard := none }) rfl (fun K hK => ?_) ?_
          ·
           go_simp
           refine hK.out _ _ (by trivial) (fun hHeld => ?_)
           clear hK K
           try simp only [Act.put, setIfInBounds_toArray, set_cons_zero, set_cons_succ]
           refine wpAnyH_ready (rs := [0]) (by kernel_rfl) (by simp) ?_
           refine AllReadyH.cons (o := { dst := some 58, op := Op.call { callee := Callee.value (Operand.func 18), args := #[], argTypes := #[] }, type := 9, pos := "more.go:30", after := #[], guard := none }) rfl (fun K hK => ?_) ?_
           ·
            go_simp
            go_at_call 18
            refine (C1.out _).mono ?_
            rintro e w4 ⟨rfl, hb4⟩
            have hL := two_call (two_drew (two_alloc (two_new W3 _ _ _) _)) hb4
            have hKB := KB.call (KB.drew (KB.new (K0.alloc hT _))) hb4
            rw [size_al] at hKB
            have hR := hKB.box
            clear hb4
            refine hK.out _ _ (by trivial) (fun hHeld => ?_)
            clear hK K
            try simp only [Act.put, setIfInBounds_toArray, set_cons_zero, set_cons_succ]
            refine wpAnyH_ready (rs := [11]) (by kernel_rfl) (by simp) ?_
            refine AllReadyH.cons (o := { dst := some 69, op := Op.call { callee := Callee.value (Operand.func 12), args := #[Operand.tmp 58, Operand.tmp 59, Operand.tmp 68], argTypes := #[9, 24, 3] }, type := 27, pos := "more.go:30", after := #[{ on := 0, ground := Ground.data }, { on := 1, ground := Ground.data }, { on := 10, ground := Ground.data }, { on := 0, ground := Ground.chain }], guard := none }) rfl (fun K hK => ?_) ?_
            ·
             go_simp
             go_at_call 12
             refine (HZ.out _ (by omega) _).mono ?_
             rintro e w5 ⟨rfl, hb5⟩
             replace hKB := KB.call hKB hb5
             replace hR := hKB.box
             clear hb5 hL
             refine hK.out _ _ (by trivial) (fun hHeld => ?_)
             clear hK K
             try simp only [Act.put, setIfInBounds_toArray, set_cons_zero, set_cons_succ]
             refine wpAnyH_take (i := 12) (oi := { dst := some 57, op := Op.move (Operand.tmp 69), type := 27, pos := "more.go:30", after := #[{ on := 11, ground := Ground.data }], guard := none }) (v := ?_) rfl (by kernel_rfl) (by kernel_rfl) (by kernel_rfl) (fun _ _ _ h => h) (Or.inl ⟨by rfl, ?_⟩) (by assumption) ?_
             rotate_left
             · (intro w hSw; (try dsimp only at hSw); go_simp; all_goals with_reducible rfl)
             try simp only [Act.put, setIfInBounds_toArray, set_cons_zero, set_cons_succ]
             refine wpAnyH_take (i := 13) (oi := { dst := some 70, op := Op.extract (Operand.tmp 57) 0, type := 9, pos := "more.go:30", after := #[{ on := 12, ground := Ground.data }], guard := none }) (v := ?_) rfl (by kernel_rfl) (by kernel_rfl) (by kernel_rfl) (fun _ _ _ h => h) (Or.inl ⟨by rfl, ?_⟩) (by assumption) ?_
             rotate_left
             · (intro w hSw; (try dsimp only at hSw); go_simp; all_goals with_reducible rfl)
             try simp only [Act.put, setIfInBounds_toArray, set_cons_zero, set_cons_succ]
             refine wpAnyH_take (i := 14) (oi := { dst := some 71, op := Op.extract (Operand.tmp 57) 1, type := 24, pos := "more.go:30", after := #[{ on := 12, ground := Ground.data }, { on := 17, ground := Ground.gcOnly Departure.lateStores }], guard := none }) (v := ?_) rfl (by kernel_rfl) (by kernel_rfl) (by kernel_rfl) (fun _ _ _ h => h) (Or.inl ⟨by rfl, ?_⟩) (by assumption) ?_
             rotate_left
             · (intro w hSw; (try dsimp only at hSw); go_simp; all_goals with_reducible rfl)
             try simp only [Act.put, setIfInBounds_toArray, set_cons_zero, set_cons_succ]
             refine wpAnyH_take (i := 15) (oi := { dst := some 72, op := Op.extract (Operand.tmp 57) 2, type := 26, pos := "more.go:30", after := #[{ on := 12, ground := Ground.data }, { on := 18, ground := Ground.gcOnly Departure.lateStores }], guard := none }) (v := ?_) rfl (by kernel_rfl) (by kernel_rfl) (by kernel_rfl) (fun _ _ _ h => h) (Or.inl ⟨by rfl, ?_⟩) (by assumption) ?_
             rotate_left
             · (intro w hSw; (try dsimp only at hSw); go_simp; all_goals with_reducible rfl)
             try simp only [Act.put, setIfInBounds_toArray, set_cons_zero, set_cons_succ]
             refine wpAnyH_take (i := 17) (oi := { dst := some 14, op := Op.assign (Operand.tmp 70), type := 9, pos := "more.go:30", after := #[{ on := 13, ground := Ground.data }, { on := 11, ground := Ground.chain }, { on := 0, ground := Ground.phase }, { on := 1, ground := Ground.phase }, { on := 2, ground := Ground.phase }, { on := 3, ground := Ground.phase }, { on := 4, ground := Ground.phase }, { on := 5, ground := Ground.phase }, { on := 6, ground := Ground.phase }, { on := 7, ground := Ground.phase }, { on := 8, ground := Ground.phase }, { on := 9, ground := Ground.phase }, { on := 10, ground := Ground.phase }, { on := 11, ground := Ground.phase }, { on := 12, ground := Ground.phase }, { on := 13, ground := Ground.phase }, { on := 14, ground := Ground.textOnly Departure.lateStores }, { on := 15, ground := Ground.textOnly Departure.lateStores }, { on := 16, ground := Ground.phase }], guard := none }) (v := ?_) rfl (by kernel_rfl) (by kernel_rfl) (by kernel_rfl) (fun _ _ _ h => h) (Or.inl ⟨by rfl, ?_⟩) (by assumption) ?_
             rotate_left
             · (intro w hSw; (try dsimp only at hSw); go_simp; all_goals with_reducible rfl)
             try simp only [Act.put, setIfInBounds_toArray, set_cons_zero, set_cons_succ]
             refine wpAnyH_ready (rs := [18]) (by kernel_rfl) (by simp) ?_
             refine AllReadyH.cons (o := { dst := none, op := Op.store 24 (Operand.tmp 15) (Operand.tmp 71), type := 0, pos := "more.go:30", after := #[{ on := 16, ground := Ground.data }, { on := 14, ground := Ground.data }, { on := 17, ground := Ground.chain }, { on := 0, ground := Ground.phase }, { on := 1, ground := Ground.phase }, { on := 2, ground := Ground.phase }, { on := 3, ground := Ground.phase }, { on := 4, ground := Ground.phase }, { on := 5, ground := Ground.phase }, { on := 6, ground := Ground.phase }, { on := 7, ground := Ground.phase }, { on := 8, ground := Ground.phase }, { on := 9, ground := Ground.phase }, { on := 10, ground := Ground.phase }, { on := 11, ground := Ground.phase }, { on := 12, ground := Ground.phase }, { on := 13, ground := Ground.phase }, { on := 14, ground := Ground.phase }, { on := 15, ground := Ground.textOnly Departure.lateStores }, { on := 16, ground := Ground.phase }, { on := 17, ground := Ground.phase }], guard := none }) rfl (fun K hK => ?_) ?_
             ·
              go_simp
              refine hK.out _ _ (by trivial) (fun hHeld => ?_)
              clear hK K
              try simp only [Act.put, setIfInBounds_toArray, set_cons_zero, set_cons_succ]
              refine wpAnyH_take (i := 19) (oi := { dst := some 16, op := Op.assign (Operand.tmp 72), type := 26, pos := "more.go:30", after := #[{ on := 15, ground := Ground.data }, { on := 18, ground := Ground.chain }, { on := 0, ground := Ground.phase }, { on := 1, ground := Ground.phase }, { on := 2, ground := Ground.phase }, { on := 3, ground := Ground.phase }, { on := 4, ground := Ground.phase }, { on := 5, ground := Ground.phase }, { on := 6, ground := Ground.phase }, { on := 7, ground := Ground.phase }, { on := 8, ground := Ground.phase }, { on := 9, ground := Ground.phase }, { on := 10, ground := Ground.phase }, { on := 11, ground := Ground.phase }, { on := 12, ground := Ground.phase }, { on := 13, ground := Ground.phase }, { on := 14, ground := Ground.phase }, { on := 15, ground := Ground.phase }, { on := 16, ground := Ground.phase }, { on := 17, ground := Ground.phase }, { on := 18, ground := Ground.phase }], guard := none }) (v := ?_) rfl (by kernel_rfl) (by kernel_rfl) (by kernel_rfl) (fun _ _ _ h => h) (Or.inl ⟨by rfl, ?_⟩) (by assumption) ?_
              rotate_left
              · (intro w hSw; (try dsimp only at hSw); go_simp; all_goals with_reducible rfl)
              try simp only [Act.put, setIfInBounds_toArray, set_cons_zero, set_cons_succ]
              refine wpAnyH_done (by kernel_rfl) ?_ _
              refine NoPanic.normal ?_
              go_wp2_with fail
              go_meet
              refine ⟨rfl, rfl, ?_⟩
              exact ⟨_, rfl, set6 hKB.bel hKB.le, res6 hR (.int .i64 0) (.int .i64 0) (.int .i64 0) (.int .i64 0) (.int .i64 0) (.slice none 0 0)⟩
             exact AllReadyH.nil
            exact AllReadyH.nil
           exact AllReadyH.nil
          exact AllReadyH.nil
         refine AllReadyH.cons (o := { dst := some 15, op := Op.alloc 24, type := 0, pos := "more.go:30", after := #[], guard := none }) rfl (fun K hK => ?_) ?_
         ·
          go_simp
          refine hK.out _ _ (by trivial) (fun hHeld => ?_)
          clear hK K
          try simp only [Act.put, setIfInBounds_toArray, set_cons_zero, set_cons_succ]
          refine wpAnyH_ready (rs := [0, 10]) (by kernel_rfl) (by simp) ?_
          refine AllReadyH.cons (o := { dst := some 58, op := Op.call { callee := Callee.value (Operand.func 18), args := #[], argTypes := #[] }, type := 9, pos := "more.go:30", after := #[], guard := none }) rfl (fun K hK => ?_) ?_
          ·
           go_simp
           go_at_call 18
           refine (C1.out _).mono ?_
           rintro e w4 ⟨rfl, hb4⟩
           have hL := two_call (two_drew (two_alloc (two_new W3 _ _ _) _)) hb4
           have hKB := KB.call (KB.drew (KB.new (K0.alloc hT _))) hb4
           rw [size_al] at hKB
           have hR := hKB.box
           clear hb4
           refine hK.out _ _ (by trivial) (fun hHeld => ?_)
           clear hK K
           try simp only [Act.put, setIfInBounds_toArray, set_cons_zero, set_cons_succ]
           refine wpAnyH_ready (rs := [10]) (by kernel_rfl) (by simp) ?_
           refine AllReadyH.cons (o := { dst := some 68, op := Op.load 3 (Operand.tmp 67), type := 3, pos := "more.go:30", after := #[{ on := 9, ground := Ground.data }], guard := none }) rfl (fun K hK => ?_) ?_
           ·
            go_simp
            refine hK.out _ _ (by trivial) (fun hHeld => ?_)
            clear hK K
            try simp only [Act.put, setIfInBounds_toArray, set_cons_zero, set_cons_succ]
            refine wpAnyH_ready (rs := [11]) (by kernel_rfl) (by simp) ?_
            refine AllReadyH.cons (o := { dst := some 69, op := Op.call { callee := Callee.value (Operand.func 12), args := #[Operand.tmp 58, Operand.tmp 59, Operand.tmp 68], argTypes := #[9, 24, 3] }, type := 27, pos := "more.go:30", after := #[{ on := 0, ground := Ground.data }, { on := 1, ground := Ground.data }, { on := 10, ground := Ground.data }, { on := 0, ground := Ground.chain }], guard := none }) rfl (fun K hK => ?_) ?_
            ·
             go_simp
             go_at_call 12
             refine (HZ.out _ (by omega) _).mono ?_
             rintro e w5 ⟨rfl, hb5⟩
             replace hKB := KB.call hKB hb5
             replace hR := hKB.box
             clear hb5 hL
             refine hK.out _ _ (by trivial) (fun hHeld => ?_)
             clear hK K
             try simp only [Act.put, setIfInBounds_toArray, set_cons_zero, set_cons_succ]
             refine wpAnyH_take (i := 12) (oi := { dst := some 57, op := Op.move (Operand.tmp 69), type := 27, pos := "more.go:30", after := #[{ on := 11, ground := Ground.data }], guard := none }) (v := ?_) rfl (by kernel_rfl) (by kernel_rfl) (by kernel_rfl) (fun _ _ _ h => h) (Or.inl ⟨by rfl, ?_⟩) (by assumption) ?_
             rotate_left
             · (intro w hSw; (try dsimp only at hSw); go_simp; all_goals with_reducible rfl)
             try simp only [Act.put, setIfInBounds_toArray, set_cons_zero, set_cons_succ]
             refine wpAnyH_take (i := 13) (oi := { dst := some 70, op := Op.extract (Operand.tmp 57) 0, type := 9, pos := "more.go:30", after := #[{ on := 12, ground := Ground.data }], guard := none }) (v := ?_) rfl (by kernel_rfl) (by kernel_rfl) (by kernel_rfl) (fun _ _ _ h => h) (Or.inl ⟨by rfl, ?_⟩) (by assumption) ?_
             rotate_left
             · (intro w hSw; (try dsimp only at hSw); go_simp; all_goals with_reducible rfl)
             try simp only [Act.put, setIfInBounds_toArray, set_cons_zero, set_cons_succ]
             refine wpAnyH_take (i := 14) (oi := { dst := some 71, op := Op.extract (Operand.tmp 57) 1, type := 24, pos := "more.go:30", after := #[{ on := 12, ground := Ground.data }, { on := 17, ground := Ground.gcOnly Departure.lateStores }], guard := none }) (v := ?_) rfl (by kernel_rfl) (by kernel_rfl) (by kernel_rfl) (fun _ _ _ h => h) (Or.inl ⟨by rfl, ?_⟩) (by assumption) ?_
             rotate_left
             · (intro w hSw; (try dsimp only at hSw); go_simp; all_goals with_reducible rfl)
             try simp only [Act.put, setIfInBounds_toArray, set_cons_zero, set_cons_succ]
             refine wpAnyH_take (i := 15) (oi := { dst := some 72, op := Op.extract (Operand.tmp 57) 2, type := 26, pos := "more.go:30", after := #[{ on := 12, ground := Ground.data }, { on := 18, ground := Ground.gcOnly Departure.lateStores }], guard := none }) (v := ?_) rfl (by kernel_rfl) (by kernel_rfl) (by kernel_rfl) (fun _ _ _ h => h) (Or.inl ⟨by rfl, ?_⟩) (by assumption) ?_
             rotate_left
             · (intro w hSw; (try dsimp only at hSw); go_simp; all_goals with_reducible rfl)
             try simp only [Act.put, setIfInBounds_toArray, set_cons_zero, set_cons_succ]
             refine wpAnyH_take (i := 17) (oi := { dst := some 14, op := Op.assign (Operand.tmp 70), type := 9, pos := "more.go:30", after := #[{ on := 13, ground := Ground.data }, { on := 11, ground := Ground.chain }, { on := 0, ground := Ground.phase }, { on := 1, ground := Ground.phase }, { on := 2, ground := Ground.phase }, { on := 3, ground := Ground.phase }, { on := 4, ground := Ground.phase }, { on := 5, ground := Ground.phase }, { on := 6, ground := Ground.phase }, { on := 7, ground := Ground.phase }, { on := 8, ground := Ground.phase }, { on := 9, ground := Ground.phase }, { on := 10, ground := Ground.phase }, { on := 11, ground := Ground.phase }, { on := 12, ground := Ground.phase }, { on := 13, ground := Ground.phase }, { on := 14, ground := Ground.textOnly Departure.lateStores }, { on := 15, ground := Ground.textOnly Departure.lateStores }, { on := 16, ground := Ground.phase }], guard := none }) (v := ?_) rfl (by kernel_rfl) (by kernel_rfl) (by kernel_rfl) (fun _ _ _ h => h) (Or.inl ⟨by rfl, ?_⟩) (by assumption) ?_
             rotate_left
             · (intro w hSw; (try dsimp only at hSw); go_simp; all_goals with_reducible rfl)
             try simp only [Act.put, setIfInBounds_toArray, set_cons_zero, set_cons_succ]
             refine wpAnyH_ready (rs := [18]) (by kernel_rfl) (by simp) ?_
             refine AllReadyH.cons (o := { dst := none, op := Op.store 24 (Operand.tmp 15) (Operand.tmp 71), type := 0, pos := "more.go:30", after := #[{ on := 16, ground := Ground.data }, { on := 14, ground := Ground.data }, { on := 17, ground := Ground.chain }, { on := 0, ground := Ground.phase }, { on := 1, ground := Ground.phase }, { on := 2, ground := Ground.phase }, { on := 3, ground := Ground.phase }, { on := 4, ground := Ground.phase }, { on := 5, ground := Ground.phase }, { on := 6, ground := Ground.phase }, { on := 7, ground := Ground.phase }, { on := 8, ground := Ground.phase }, { on := 9, ground := Ground.phase }, { on := 10, ground := Ground.phase }, { on := 11, ground := Ground.phase }, { on := 12, ground := Ground.phase }, { on := 13, ground := Ground.phase }, { on := 14, ground := Ground.phase }, { on := 15, ground := Ground.textOnly Departure.lateStores }, { on := 16, ground := Ground.phase }, { on := 17, ground := Ground.phase }], guard := none }) rfl (fun K hK => ?_) ?_
             ·
              go_simp
              refine hK.out _ _ (by trivial) (fun hHeld => ?_)
              clear hK K
              try simp only [Act.put, setIfInBounds_toArray, set_cons_zero, set_cons_succ]
              refine wpAnyH_take (i := 19) (oi := { dst := some 16, op := Op.assign (Operand.tmp 72), type := 26, pos := "more.go:30", after := #[{ on := 15, ground := Ground.data }, { on := 18, ground := Ground.chain }, { on := 0, ground := Ground.phase }, { on := 1, ground := Ground.phase }, { on := 2, ground := Ground.phase }, { on := 3, ground := Ground.phase }, { on := 4, ground := Ground.phase }, { on := 5, ground := Ground.phase }, { on := 6, ground := Ground.phase }, { on := 7, ground := Ground.phase }, { on := 8, ground := Ground.phase }, { on := 9, ground := Ground.phase }, { on := 10, ground := Ground.phase }, { on := 11, ground := Ground.phase }, { on := 12, ground := Ground.phase }, { on := 13, ground := Ground.phase }, { on := 14, ground := Ground.phase }, { on := 15, ground := Ground.phase }, { on := 16, ground := Ground.phase }, { on := 17, ground := Ground.phase }, { on := 18, ground := Ground.phase }], guard := none }) (v := ?_) rfl (by kernel_rfl) (by kernel_rfl) (by kernel_rfl) (fun _ _ _ h => h) (Or.inl ⟨by rfl, ?_⟩) (by assumption) ?_
              rotate_left
              · (intro w hSw; (try dsimp only at hSw); go_simp; all_goals with_reducible rfl)
              try simp only [Act.put, setIfInBounds_toArray, set_cons_zero, set_cons_succ]
              refine wpAnyH_done (by kernel_rfl) ?_ _
              refine NoPanic.normal ?_
              go_wp2_with fail
              go_meet
              refine ⟨rfl, rfl, ?_⟩
              exact ⟨_, rfl, set6 hKB.bel hKB.le, res6 hR (.int .i64 0) (.int .i64 0) (.int .i64 0) (.int .i64 0) (.int .i64 0) (.slice none 0 0)⟩
             exact AllReadyH.nil
            exact AllReadyH.nil
           exact AllReadyH.nil
          refine AllReadyH.cons (o := { dst := some 68, op := Op.load 3 (Operand.tmp 67), type := 3, pos := "more.go:30", after := #[{ on := 9, ground := Ground.data }], guard := none }) rfl (fun K hK => ?_) ?_
          ·
           go_simp
           refine hK.out _ _ (by trivial) (fun hHeld => ?_)
           clear hK K
           try simp only [Act.put, setIfInBounds_toArray, set_cons_zero, set_cons_succ]
           refine wpAnyH_ready (rs := [0]) (by kernel_rfl) (by simp) ?_
           refine AllReadyH.cons (o := { dst := some 58, op := Op.call { callee := Callee.value (Operand.func 18), args := #[], argTypes := #[] }, type := 9, pos := "more.go:30", after := #[], guard := none }) rfl (fun K hK => ?_) ?_
           ·
            go_simp
            go_at_call 18
            refine (C1.out _).mono ?_
            rintro e w4 ⟨rfl, hb4⟩
            have hL := two_call (two_drew (two_alloc (two_new W3 _ _ _) _)) hb4
            have hKB := KB.call (KB.drew (KB.new (K0.alloc hT _))) hb4
            rw [size_al] at hKB
            have hR := hKB.box
            clear hb4
            refine hK.out _ _ (by trivial) (fun hHeld => ?_)
            clear hK K
            try simp only [Act.put, setIfInBounds_toArray, set_cons_zero, set_cons_succ]
            refine wpAnyH_ready (rs := [11]) (by kernel_rfl) (by simp) ?_
            refine AllReadyH.cons (o := { dst := some 69, op := Op.call { callee := Callee.value (Operand.func 12), args := #[Operand.tmp 58, Operand.tmp 59, Operand.tmp 68], argTypes := #[9, 24, 3] }, type := 27, pos := "more.go:30", after := #[{ on := 0, ground := Ground.data }, { on := 1, ground := Ground.data }, { on := 10, ground := Ground.data }, { on := 0, ground := Ground.chain }], guard := none }) rfl (fun K hK => ?_) ?_
            ·
             go_simp
             go_at_call 12
             refine (HZ.out _ (by omega) _).mono ?_
             rintro e w5 ⟨rfl, hb5⟩
             replace hKB := KB.call hKB hb5
             replace hR := hKB.box
             clear hb5 hL
             refine hK.out _ _ (by trivial) (fun hHeld => ?_)
             clear hK K
             try simp only [Act.put, setIfInBounds_toArray, set_cons_zero, set_cons_succ]
             refine wpAnyH_take (i := 12) (oi := { dst := some 57, op := Op.move (Operand.tmp 69), type := 27, pos := "more.go:30", after := #[{ on := 11, ground := Ground.data }], guard := none }) (v := ?_) rfl (by kernel_rfl) (by kernel_rfl) (by kernel_rfl) (fun _ _ _ h => h) (Or.inl ⟨by rfl, ?_⟩) (by assumption) ?_
             rotate_left
             · (intro w hSw; (try dsimp only at hSw); go_simp; all_goals with_reducible rfl)
             try simp only [Act.put, setIfInBounds_toArray, set_cons_zero, set_cons_succ]
             refine wpAnyH_take (i := 13) (oi := { dst := some 70, op := Op.extract (Operand.tmp 57) 0, type := 9, pos := "more.go:30", after := #[{ on := 12, ground := Ground.data }], guard := none }) (v := ?_) rfl (by kernel_rfl) (by kernel_rfl) (by kernel_rfl) (fun _ _ _ h => h) (Or.inl ⟨by rfl, ?_⟩) (by assumption) ?_
             rotate_left
             · (intro w hSw; (try dsimp only at hSw); go_simp; all_goals with_reducible rfl)
             try simp only [Act.put, setIfInBounds_toArray, set_cons_zero, set_cons_succ]
             refine wpAnyH_take (i := 14) (oi := { dst := some 71, op := Op.extract (Operand.tmp 57) 1, type := 24, pos := "more.go:30", after := #[{ on := 12, ground := Ground.data }, { on := 17, ground := Ground.gcOnly Departure.lateStores }], guard := none }) (v := ?_) rfl (by kernel_rfl) (by kernel_rfl) (by kernel_rfl) (fun _ _ _ h => h) (Or.inl ⟨by rfl, ?_⟩) (by assumption) ?_
             rotate_left
             · (intro w hSw; (try dsimp only at hSw); go_simp; all_goals with_reducible rfl)
             try simp only [Act.put, setIfInBounds_toArray, set_cons_zero, set_cons_succ]
             refine wpAnyH_take (i := 15) (oi := { dst := some 72, op := Op.extract (Operand.tmp 57) 2, type := 26, pos := "more.go:30", after := #[{ on := 12, ground := Ground.data }, { on := 18, ground := Ground.gcOnly Departure.lateStores }], guard := none }) (v := ?_) rfl (by kernel_rfl) (by kernel_rfl) (by kernel_rfl) (fun _ _ _ h => h) (Or.inl ⟨by rfl, ?_⟩) (by assumption) ?_
             rotate_left
             · (intro w hSw; (try dsimp only at hSw); go_simp; all_goals with_reducible rfl)
             try simp only [Act.put, setIfInBounds_toArray, set_cons_zero, set_cons_succ]
             refine wpAnyH_take (i := 17) (oi := { dst := some 14, op := Op.assign (Operand.tmp 70), type := 9, pos := "more.go:30", after := #[{ on := 13, ground := Ground.data }, { on := 11, ground := Ground.chain }, { on := 0, ground := Ground.phase }, { on := 1, ground := Ground.phase }, { on := 2, ground := Ground.phase }, { on := 3, ground := Ground.phase }, { on := 4, ground := Ground.phase }, { on := 5, ground := Ground.phase }, { on := 6, ground := Ground.phase }, { on := 7, ground := Ground.phase }, { on := 8, ground := Ground.phase }, { on := 9, ground := Ground.phase }, { on := 10, ground := Ground.phase }, { on := 11, ground := Ground.phase }, { on := 12, ground := Ground.phase }, { on := 13, ground := Ground.phase }, { on := 14, ground := Ground.textOnly Departure.lateStores }, { on := 15, ground := Ground.textOnly Departure.lateStores }, { on := 16, ground := Ground.phase }], guard := none }) (v := ?_) rfl (by kernel_rfl) (by kernel_rfl) (by kernel_rfl) (fun _ _ _ h => h) (Or.inl ⟨by rfl, ?_⟩) (by assumption) ?_
             rotate_left
             · (intro w hSw; (try dsimp only at hSw); go_simp; all_goals with_reducible rfl)
             try simp only [Act.put, setIfInBounds_toArray, set_cons_zero, set_cons_succ]
             refine wpAnyH_ready (rs := [18]) (by kernel_rfl) (by simp) ?_
             refine AllReadyH.cons (o := { dst := none, op := Op.store 24 (Operand.tmp 15) (Operand.tmp 71), type := 0, pos := "more.go:30", after := #[{ on := 16, ground := Ground.data }, { on := 14, ground := Ground.data }, { on := 17, ground := Ground.chain }, { on := 0, ground := Ground.phase }, { on := 1, ground := Ground.phase }, { on := 2, ground := Ground.phase }, { on := 3, ground := Ground.phase }, { on := 4, ground := Ground.phase }, { on := 5, ground := Ground.phase }, { on := 6, ground := Ground.phase }, { on := 7, ground := Ground.phase }, { on := 8, ground := Ground.phase }, { on := 9, ground := Ground.phase }, { on := 10, ground := Ground.phase }, { on := 11, ground := Ground.phase }, { on := 12, ground := Ground.phase }, { on := 13, ground := Ground.phase }, { on := 14, ground := Ground.phase }, { on := 15, ground := Ground.textOnly Departure.lateStores }, { on := 16, ground := Ground.phase }, { on := 17, ground := Ground.phase }], guard := none }) rfl (fun K hK => ?_) ?_
             ·
              go_simp
              refine hK.out _ _ (by trivial) (fun hHeld => ?_)
              clear hK K
              try simp only [Act.put, setIfInBounds_toArray, set_cons_zero, set_cons_succ]
              refine wpAnyH_take (i := 19) (oi := { dst := some 16, op := Op.assign (Operand.tmp 72), type := 26, pos := "more.go:30", after := #[{ on := 15, ground := Ground.data }, { on := 18, ground := Ground.chain }, { on := 0, ground := Ground.phase }, { on := 1, ground := Ground.phase }, { on := 2, ground := Ground.phase }, { on := 3, ground := Ground.phase }, { on := 4, ground := Ground.phase }, { on := 5, ground := Ground.phase }, { on := 6, ground := Ground.phase }, { on := 7, ground := Ground.phase }, { on := 8, ground := Ground.phase }, { on := 9, ground := Ground.phase }, { on := 10, ground := Ground.phase }, { on := 11, ground := Ground.phase }, { on := 12, ground := Ground.phase }, { on := 13, ground := Ground.phase }, { on := 14, ground := Ground.phase }, { on := 15, ground := Ground.phase }, { on := 16, ground := Ground.phase }, { on := 17, ground := Ground.phase }, { on := 18, ground := Ground.phase }], guard := none }) (v := ?_) rfl (by kernel_rfl) (by kernel_rfl) (by kernel_rfl) (fun _ _ _ h => h) (Or.inl ⟨by rfl, ?_⟩) (by assumption) ?_
              rotate_left
              · (intro w hSw; (try dsimp only at hSw); go_simp; all_goals with_reducible rfl)
              try simp only [Act.put, setIfInBounds_toArray, set_cons_zero, set_cons_succ]
              refine wpAnyH_done (by kernel_rfl) ?_ _
              refine NoPanic.normal ?_
              go_wp2_with fail
              go_meet
              refine ⟨rfl, rfl, ?_⟩
              exact ⟨_, rfl, set6 hKB.bel hKB.le, res6 hR (.int .i64 0) (.int .i64 0) (.int .i64 0) (.int .i64 0) (.int .i64 0) (.slice none 0 0)⟩
             exact AllReadyH.nil
            exact AllReadyH.nil
           exact AllReadyH.nil
          exact AllReadyH.nil
         exact AllReadyH.nil
        refine AllReadyH.cons (o := { dst := some 15, op := Op.alloc 24, type := 0, pos := "more.go:30", after := #[], guard := none }) rfl (fun K hK => ?_) ?_
        ·
         go_simp
         refine hK.out _ _ (by trivial) (fun hHeld => ?_)
         clear hK K
         try simp only [Act.put, setIfInBounds_toArray, set_cons_zero, set_cons_succ]
         refine wpAnyH_ready (rs := [0, 6]) (by kernel_rfl) (by simp) ?_
         refine AllReadyH.cons (o := { dst := some 58, op := Op.call { callee := Callee.value (Operand.func 18), args := #[], argTypes := #[] }, type := 9, pos := "more.go:30", after := #[], guard := none }) rfl (fun K hK => ?_) ?_
         ·
          go_simp
          go_at_call 18
          refine (C1.out _).mono ?_
          rintro e w4 ⟨rfl, hb4⟩
          have hKB := KB.call (KB.drew (KB.new hT)) hb4
          have hR := hKB.box
          clear hb4
          refine hK.out _ _ (by trivial) (fun hHeld => ?_)
          clear hK K
          try simp only [Act.put, setIfInBounds_toArray, set_cons_zero, set_cons_succ]
          refine wpAnyH_ready (rs := [6]) (by kernel_rfl) (by simp) ?_
          refine AllReadyH.cons (o := { dst := some 64, op := Op.buildSlice 41 2 #[(0, Operand.tmp 61), (1, Operand.tmp 63)], type := 41, pos := "more.go:30", after := #[{ on := 3, ground := Ground.data }, { on := 5, ground := Ground.data }], guard := none }) rfl (fun K hK => ?_) ?_
          ·
           go_simp
           refine hK.out _ _ (by trivial) (fun hHeld => ?_)
           clear hK K
           try simp only [Act.put, setIfInBounds_toArray, set_cons_zero, set_cons_succ]
           refine wpAnyH_take (i := 9) (oi := { dst := some 67, op := Op.indexAddr 41 (Operand.tmp 64) (Operand.tmp 66), type := 0, pos := "more.go:30", after := #[{ on := 6, ground := Ground.data }, { on := 8, ground := Ground.data }], guard := none }) (v := ?_) rfl (by kernel_rfl) (by kernel_rfl) (by kernel_rfl) (fun _ _ _ h => h) (Or.inl ⟨by rfl, ?_⟩) (by assumption) ?_
           rotate_left
           · (intro w hSw; (try dsimp only at hSw); go_simp; all_goals with_reducible rfl)
           try simp only [Act.put, setIfInBounds_toArray, set_cons_zero, set_cons_succ]
           refine wpAnyH_ready (rs := [10]) (by kernel_rfl) (by simp) ?_
           refine AllReadyH.cons (o := { dst := some 68, op := Op.load 3 (Operand.tmp 67), type := 3, pos := "more.go:30", after := #[{ on := 9, ground := Ground.data }], guard := none }) rfl (fun K hK => ?_) ?_
           ·
            go_simp
            refine hK.out _ _ (by trivial) (fun hHeld => ?_)
            clear hK K
            try simp only [Act.put, setIfInBounds_toArray, set_cons_zero, set_cons_succ]
            refine wpAnyH_ready (rs := [11]) (by kernel_rfl) (by simp) ?_
            refine AllReadyH.cons (o := { dst := some 69, op := Op.call { callee := Callee.value (Operand.func 12), args := #[Operand.tmp 58, Operand.tmp 59, Operand.tmp 68], argTypes := #[9, 24, 3] }, type := 27, pos := "more.go:30", after := #[{ on := 0, ground := Ground.data }, { on := 1, ground := Ground.data }, { on := 10, ground := Ground.data }, { on := 0, ground := Ground.chain }], guard := none }) rfl (fun K hK => ?_) ?_
            ·
             go_simp
             go_at_call 12
             refine (HZ.out _ (by omega) _).mono ?_
             rintro e w5 ⟨rfl, hb5⟩
             replace hKB := KB.call (KB.alloc hKB _) hb5
             replace hR := hKB.box
             clear hb5
             refine hK.out _ _ (by trivial) (fun hHeld => ?_)
             clear hK K
             try simp only [Act.put, setIfInBounds_toArray, set_cons_zero, set_cons_succ]
             refine wpAnyH_take (i := 12) (oi := { dst := some 57, op := Op.move (Operand.tmp 69), type := 27, pos := "more.go:30", after := #[{ on := 11, ground := Ground.data }], guard := none }) (v := ?_) rfl (by kernel_rfl) (by kernel_rfl) (by kernel_rfl) (fun _ _ _ h => h) (Or.inl ⟨by rfl, ?_⟩) (by assumption) ?_
             rotate_left
             · (intro w hSw; (try dsimp only at hSw); go_simp; all_goals with_reducible rfl)
             try simp only [Act.put, setIfInBounds_toArray, set_cons_zero, set_cons_succ]
             refine wpAnyH_take (i := 13) (oi := { dst := some 70, op := Op.extract (Operand.tmp 57) 0, type := 9, pos := "more.go:30", after := #[{ on := 12, ground := Ground.data }], guard := none }) (v := ?_) rfl (by kernel_rfl) (by kernel_rfl) (by kernel_rfl) (fun _ _ _ h => h) (Or.inl ⟨by rfl, ?_⟩) (by assumption) ?_
             rotate_left
             · (intro w hSw; (try dsimp only at hSw); go_simp; all_goals with_reducible rfl)
             try simp only [Act.put, setIfInBounds_toArray, set_cons_zero, set_cons_succ]
             refine wpAnyH_take (i := 14) (oi := { dst := some 71, op := Op.extract (Operand.tmp 57) 1, type := 24, pos := "more.go:30", after := #[{ on := 12, ground := Ground.data }, { on := 17, ground := Ground.gcOnly Departure.lateStores }], guard := none }) (v := ?_) rfl (by kernel_rfl) (by kernel_rfl) (by kernel_rfl) (fun _ _ _ h => h) (Or.inl ⟨by rfl, ?_⟩) (by assumption) ?_
             rotate_left
             · (intro w hSw; (try dsimp only at hSw); go_simp; all_goals with_reducible rfl)
             try simp only [Act.put, setIfInBounds_toArray, set_cons_zero, set_cons_succ]
             refine wpAnyH_take (i := 15) (oi := { dst := some 72, op := Op.extract (Operand.tmp 57) 2, type := 26, pos := "more.go:30", after := #[{ on := 12, ground := Ground.data }, { on := 18, ground := Ground.gcOnly Departure.lateStores }], guard := none }) (v := ?_) rfl (by kernel_rfl) (by kernel_rfl) (by kernel_rfl) (fun _ _ _ h => h) (Or.inl ⟨by rfl, ?_⟩) (by assumption) ?_
             rotate_left
             · (intro w hSw; (try dsimp only at hSw); go_simp; all_goals with_reducible rfl)
             try simp only [Act.put, setIfInBounds_toArray, set_cons_zero, set_cons_succ]
             refine wpAnyH_take (i := 17) (oi := { dst := some 14, op := Op.assign (Operand.tmp 70), type := 9, pos := "more.go:30", after := #[{ on := 13, ground := Ground.data }, { on := 11, ground := Ground.chain }, { on := 0, ground := Ground.phase }, { on := 1, ground := Ground.phase }, { on := 2, ground := Ground.phase }, { on := 3, ground := Ground.phase }, { on := 4, ground := Ground.phase }, { on := 5, ground := Ground.phase }, { on := 6, ground := Ground.phase }, { on := 7, ground := Ground.phase }, { on := 8, ground := Ground.phase }, { on := 9, ground := Ground.phase }, { on := 10, ground := Ground.phase }, { on := 11, ground := Ground.phase }, { on := 12, ground := Ground.phase }, { on := 13, ground := Ground.phase }, { on := 14, ground := Ground.textOnly Departure.lateStores }, { on := 15, ground := Ground.textOnly Departure.lateStores }, { on := 16, ground := Ground.phase }], guard := none }) (v := ?_) rfl (by kernel_rfl) (by kernel_rfl) (by kernel_rfl) (fun _ _ _ h => h) (Or.inl ⟨by rfl, ?_⟩) (by assumption) ?_
             rotate_left
             · (intro w hSw; (try dsimp only at hSw); go_simp; all_goals with_reducible rfl)
             try simp only [Act.put, setIfInBounds_toArray, set_cons_zero, set_cons_succ]
             refine wpAnyH_ready (rs := [18]) (by kernel_rfl) (by simp) ?_
             refine AllReadyH.cons (o := { dst := none, op := Op.store 24 (Operand.tmp 15) (Operand.tmp 71), type := 0, pos := "more.go:30", after := #[{ on := 16, ground := Ground.data }, { on := 14, ground := Ground.data }, { on := 17, ground := Ground.chain }, { on := 0, ground := Ground.phase }, { on := 1, ground := Ground.phase }, { on := 2, ground := Ground.phase }, { on := 3, ground := Ground.phase }, { on := 4, ground := Ground.phase }, { on := 5, ground := Ground.phase }, { on := 6, ground := Ground.phase }, { on := 7, ground := Ground.phase }, { on := 8, ground := Ground.phase }, { on := 9, ground := Ground.phase }, { on := 10, ground := Ground.phase }, { on := 11, ground := Ground.phase }, { on := 12, ground := Ground.phase }, { on := 13, ground := Ground.phase }, { on := 14, ground := Ground.phase }, { on := 15, ground := Ground.textOnly Departure.lateStores }, { on := 16, ground := Ground.phase }, { on := 17, ground := Ground.phase }], guard := none }) rfl (fun K hK => ?_) ?_
             ·
              go_simp
              refine hK.out _ _ (by trivial) (fun hHeld => ?_)
              clear hK K
              try simp only [Act.put, setIfInBounds_toArray, set_cons_zero, set_cons_succ]
              refine wpAnyH_take (i := 19) (oi := { dst := some 16, op := Op.assign (Operand.tmp 72), type := 26, pos := "more.go:30", after := #[{ on := 15, ground := Ground.data }, { on := 18, ground := Ground.chain }, { on := 0, ground := Ground.phase }, { on := 1, ground := Ground.phase }, { on := 2, ground := Ground.phase }, { on := 3, ground := Ground.phase }, { on := 4, ground := Ground.phase }, { on := 5, ground := Ground.phase }, { on := 6, ground := Ground.phase }, { on := 7, ground := Ground.phase }, { on := 8, ground := Ground.phase }, { on := 9, ground := Ground.phase }, { on := 10, ground := Ground.phase }, { on := 11, ground := Ground.phase }, { on := 12, ground := Ground.phase }, { on := 13, ground := Ground.phase }, { on := 14, ground := Ground.phase }, { on := 15, ground := Ground.phase }, { on := 16, ground := Ground.phase }, { on := 17, ground := Ground.phase }, { on := 18, ground := Ground.phase }], guard := none }) (v := ?_) rfl (by kernel_rfl) (by kernel_rfl) (by kernel_rfl) (fun _ _ _ h => h) (Or.inl ⟨by rfl, ?_⟩) (by assumption) ?_
              rotate_left
              · (intro w hSw; (try dsimp only at hSw); go_simp; all_goals with_reducible rfl)
              try simp only [Act.put, setIfInBounds_toArray, set_cons_zero, set_cons_succ]
              refine wpAnyH_done (by kernel_rfl) ?_ _
              refine NoPanic.normal ?_
              go_wp2_with fail
              go_meet
              refine ⟨rfl, rfl, ?_⟩
              exact ⟨_, rfl, set6 hKB.bel hKB.le, res6 hR (.int .i64 0) (.int .i64 0) (.int .i64 0) (.int .i64 0) (.int .i64 0) (.slice none 0 0)⟩
             exact AllReadyH.nil
            exact AllReadyH.nil
           exact AllReadyH.nil
          exact AllReadyH.nil
         refine AllReadyH.cons (o := { dst := some 64, op := Op.buildSlice 41 2 #[(0, Operand.tmp 61), (1, Operand.tmp 63)], type := 41, pos := "more.go:30", after := #[{ on := 3, ground := Ground.data }, { on := 5, ground := Ground.data }], guard := none }) rfl (fun K hK => ?_) ?_
         ·
          go_simp
          refine hK.out _ _ (by trivial) (fun hHeld => ?_)
          clear hK K
          try simp only [Act.put, setIfInBounds_toArray, set_cons_zero, set_cons_succ]
          refine wpAnyH_take (i := 9) (oi := { dst := some 67, op := Op.indexAddr 41 (Operand.tmp 64) (Operand.tmp 66), type := 0, pos := "more.go:30", after := #[{ on := 6, ground := Ground.data }, { on := 8, ground := Ground.data }], guard := none }) (v := ?_) rfl (by kernel_rfl) (by kernel_rfl) (by kernel_rfl) (fun _ _ _ h => h) (Or.inl ⟨by rfl, ?_⟩) (by assumption) ?_
          rotate_left
          · (intro w hSw; (try dsimp only at hSw); go_simp; all_goals with_reducible rfl)
          try simp only [Act.put, setIfInBounds_toArray, set_cons_zero, set_cons_succ]
          refine wpAnyH_ready (rs := [0, 10]) (by kernel_rfl) (by simp) ?_
          refine AllReadyH.cons (o := { dst := some 58, op := Op.call { callee := Callee.value (Operand.func 18), args := #[], argTypes := #[] }, type := 9, pos := "more.go:30", after := #[], guard := none }) rfl (fun K hK => ?_) ?_
          ·
           go_simp
           go_at_call 18
           refine (C1.out _).mono ?_
           rintro e w4 ⟨rfl, hb4⟩
           have hL := two_call (two_drew (two_new (W3.alloc _) _ _ _)) hb4
           rw [size_al] at hL
           have hKB := KB.call (KB.drew (KB.alloc (KB.new hT) _)) hb4
           have hR := hKB.box
           clear hb4
           refine hK.out _ _ (by trivial) (fun hHeld => ?_)
           clear hK K
           try simp only [Act.put, setIfInBounds_toArray, set_cons_zero, set_cons_succ]
           refine wpAnyH_ready (rs := [10]) (by kernel_rfl) (by simp) ?_
           refine AllReadyH.cons (o := { dst := some 68, op := Op.load 3 (Operand.tmp 67), type := 3, pos := "more.go:30", after := #[{ on := 9, ground := Ground.data }], guard := none }) rfl (fun K hK => ?_) ?_
           ·
            go_simp
            refine hK.out _ _ (by trivial) (fun hHeld => ?_)
            clear hK K
            try simp only [Act.put, setIfInBounds_toArray, set_cons_zero, set_cons_succ]
            refine wpAnyH_ready (rs := [11]) (by kernel_rfl) (by simp) ?_
            refine AllReadyH.cons (o := { dst := some 69, op := Op.call { callee := Callee.value (Operand.func 12), args := #[Operand.tmp 58, Operand.tmp 59, Operand.tmp 68], argTypes := #[9, 24, 3] }, type := 27, pos := "more.go:30", after := #[{ on := 0, ground := Ground.data }, { on := 1, ground := Ground.data }, { on := 10, ground := Ground.data }, { on := 0, ground := Ground.chain }], guard := none }) rfl (fun K hK => ?_) ?_
            ·
             go_simp
             go_at_call 12
             refine (HZ.out _ (by omega) _).mono ?_
             rintro e w5 ⟨rfl, hb5⟩
             replace hKB := KB.call hKB hb5
             replace hR := hKB.box
             clear hb5 hL
             refine hK.out _ _ (by trivial) (fun hHeld => ?_)
             clear hK K
             try simp only [Act.put, setIfInBounds_toArray, set_cons_zero, set_cons_succ]
             refine wpAnyH_take (i := 12) (oi := { dst := some 57, op := Op.move (Operand.tmp 69), type := 27, pos := "more.go:30", after := #[{ on := 11, ground := Ground.data }], guard := none }) (v := ?_) rfl (by kernel_rfl) (by kernel_rfl) (by kernel_rfl) (fun _ _ _ h => h) (Or.inl ⟨by rfl, ?_⟩) (by assumption) ?_
             rotate_left
             · (intro w hSw; (try dsimp only at hSw); go_simp; all_goals with_reducible rfl)
             try simp only [Act.put, setIfInBounds_toArray, set_cons_zero, set_cons_succ]
             refine wpAnyH_take (i := 13) (oi := { dst := some 70, op := Op.extract (Operand.tmp 57) 0, type := 9, pos := "more.go:30", after := #[{ on := 12, ground := Ground.data }], guard := none }) (v := ?_) rfl (by kernel_rfl) (by kernel_rfl) (by kernel_rfl) (fun _ _ _ h => h) (Or.inl ⟨by rfl, ?_⟩) (by assumption) ?_
             rotate_left
             · (intro w hSw; (try dsimp only at hSw); go_simp; all_goals with_reducible rfl)
             try simp only [Act.put, setIfInBounds_toArray, set_cons_zero, set_cons_succ]
             refine wpAnyH_take (i := 14) (oi := { dst := some 71, op := Op.extract (Operand.tmp 57) 1, type := 24, pos := "more.go:30", after := #[{ on := 12, ground := Ground.data }, { on := 17, ground := Ground.gcOnly Departure.lateStores }], guard := none }) (v := ?_) rfl (by kernel_rfl) (by kernel_rfl) (by kernel_rfl) (fun _ _ _ h => h) (Or.inl ⟨by rfl, ?_⟩) (by assumption) ?_
             rotate_left
             · (intro w hSw; (try dsimp only at hSw); go_simp; all_goals with_reducible rfl)
             try simp only [Act.put, setIfInBounds_toArray, set_cons_zero, set_cons_succ]
             refine wpAnyH_take (i := 15) (oi := { dst := some 72, op := Op.extract (Operand.tmp 57) 2, type := 26, pos := "more.go:30", after := #[{ on := 12, ground := Ground.data }, { on := 18, ground := Ground.gcOnly Departure.lateStores }], guard := none }) (v := ?_) rfl (by kernel_rfl) (by kernel_rfl) (by kernel_rfl) (fun _ _ _ h => h) (Or.inl ⟨by rfl, ?_⟩) (by assumption) ?_
             rotate_left
             · (intro w hSw; (try dsimp only at hSw); go_simp; all_goals with_reducible rfl)
             try simp only [Act.put, setIfInBounds_toArray, set_cons_zero, set_cons_succ]
             refine wpAnyH_take (i := 17) (oi := { dst := some 14, op := Op.assign (Operand.tmp 70), type := 9, pos := "more.go:30", after := #[{ on := 13, ground := Ground.data }, { on := 11, ground := Ground.chain }, { on := 0, ground := Ground.phase }, { on := 1, ground := Ground.phase }, { on := 2, ground := Ground.phase }, { on := 3, ground := Ground.phase }, { on := 4, ground := Ground.phase }, { on := 5, ground := Ground.phase }, { on := 6, ground := Ground.phase }, { on := 7, ground := Ground.phase }, { on := 8, ground := Ground.phase }, { on := 9, ground := Ground.phase }, { on := 10, ground := Ground.phase }, { on := 11, ground := Ground.phase }, { on := 12, ground := Ground.phase }, { on := 13, ground := Ground.phase }, { on := 14, ground := Ground.textOnly Departure.lateStores }, { on := 15, ground := Ground.textOnly Departure.lateStores }, { on := 16, ground := Ground.phase }], guard := none }) (v := ?_) rfl (by kernel_rfl) (by kernel_rfl) (by kernel_rfl) (fun _ _ _ h => h) (Or.inl ⟨by rfl, ?_⟩) (by assumption) ?_
             rotate_left
             · (intro w hSw; (try dsimp only at hSw); go_simp; all_goals with_reducible rfl)
             try simp only [Act.put, setIfInBounds_toArray, set_cons_zero, set_cons_succ]
             refine wpAnyH_ready (rs := [18]) (by kernel_rfl) (by simp) ?_
             refine AllReadyH.cons (o := { dst := none, op := Op.store 24 (Operand.tmp 15) (Operand.tmp 71), type := 0, pos := "more.go:30", after := #[{ on := 16, ground := Ground.data }, { on := 14, ground := Ground.data }, { on := 17, ground := Ground.chain }, { on := 0, ground := Ground.phase }, { on := 1, ground := Ground.phase }, { on := 2, ground := Ground.phase }, { on := 3, ground := Ground.phase }, { on := 4, ground := Ground.phase }, { on := 5, ground := Ground.phase }, { on := 6, ground := Ground.phase }, { on := 7, ground := Ground.phase }, { on := 8, ground := Ground.phase }, { on := 9, ground := Ground.phase }, { on := 10, ground := Ground.phase }, { on := 11, ground := Ground.phase }, { on := 12, ground := Ground.phase }, { on := 13, ground := Ground.phase }, { on := 14, ground := Ground.phase }, { on := 15, ground := Ground.textOnly Departure.lateStores }, { on := 16, ground := Ground.phase }, { on := 17, ground := Ground.phase }], guard := none }) rfl (fun K hK => ?_) ?_
             ·
              go_simp
              refine hK.out _ _ (by trivial) (fun hHeld => ?_)
              clear hK K
              try simp only [Act.put, setIfInBounds_toArray, set_cons_zero, set_cons_succ]
              refine wpAnyH_take (i := 19) (oi := { dst := some 16, op := Op.assign (Operand.tmp 72), type := 26, pos := "more.go:30", after := #[{ on := 15, ground := Ground.data }, { on := 18, ground := Ground.chain }, { on := 0, ground := Ground.phase }, { on := 1, ground := Ground.phase }, { on := 2, ground := Ground.phase }, { on := 3, ground := Ground.phase }, { on := 4, ground := Ground.phase }, { on := 5, ground := Ground.phase }, { on := 6, ground := Ground.phase }, { on := 7, ground := Ground.phase }, { on := 8, ground := Ground.phase }, { on := 9, ground := Ground.phase }, { on := 10, ground := Ground.phase }, { on := 11, ground := Ground.phase }, { on := 12, ground := Ground.phase }, { on := 13, ground := Ground.phase }, { on := 14, ground := Ground.phase }, { on := 15, ground := Ground.phase }, { on := 16, ground := Ground.phase }, { on := 17, ground := Ground.phase }, { on := 18, ground := Ground.phase }], guard := none }) (v := ?_) rfl (by kernel_rfl) (by kernel_rfl) (by kernel_rfl) (fun _ _ _ h => h) (Or.inl ⟨by rfl, ?_⟩) (by assumption) ?_
              rotate_left
              · (intro w hSw; (try dsimp only at hSw); go_simp; all_goals with_reducible rfl)
              try simp only [Act.put, setIfInBounds_toArray, set_cons_zero, set_cons_succ]
              refine wpAnyH_done (by kernel_rfl) ?_ _
              refine NoPanic.normal ?_
              go_wp2_with fail
              go_meet
              refine ⟨rfl, rfl, ?_⟩
              exact ⟨_, rfl, set6 hKB.bel hKB.le, res6 hR (.int .i64 0) (.int .i64 0) (.int .i64 0) (.int .i64 0) (.int .i64 0) (.slice none 0 0)⟩
             exact AllReadyH.nil
            exact AllReadyH.nil
           exact AllReadyH.nil
          refine AllReadyH.cons (o := { dst := some 68, op := Op.load 3 (Operand.tmp 67), type := 3, pos := "more.go:30", after := #[{ on := 9, ground := Ground.data }], guard := none }) rfl (fun K hK => ?_) ?_
          ·
           go_simp
           refine hK.out _ _ (by trivial) (fun hHeld => ?_)
           clear hK K
           try simp only [Act.put, setIfInBounds_toArray, set_cons_zero, set_cons_succ]
           refine wpAnyH_ready (rs := [0]) (by kernel_rfl) (by simp) ?_
           refine AllReadyH.cons (o := { dst := some 58, op := Op.call { callee := Callee.value (Operand.func 18), args := #[], argTypes := #[] }, type := 9, pos := "more.go:30", after := #[], guard := none }) rfl (fun K hK => ?_) ?_
           ·
            go_simp
            go_at_call 18
            refine (C1.out _).mono ?_
            rintro e w4 ⟨rfl, hb4⟩
            have hL := two_call (two_drew (two_new (W3.alloc _) _ _ _)) hb4
            rw [size_al] at hL
            have hKB := KB.call (KB.drew (KB.alloc (KB.new hT) _)) hb4
            have hR := hKB.box
            clear hb4
            refine hK.out _ _ (by trivial) (fun hHeld => ?_)
            clear hK K
            try simp only [Act.put, setIfInBounds_toArray, set_cons_zero, set_cons_succ]
            refine wpAnyH_ready (rs := [11]) (by kernel_rfl) (by simp) ?_
            refine AllReadyH.cons (o := { dst := some 69, op := Op.call { callee := Callee.value (Operand.func 12), args := #[Operand.tmp 58, Operand.tmp 59, Operand.tmp 68], argTypes := #[9, 24, 3] }, type := 27, pos := "more.go:30", after := #[{ on := 0, ground := Ground.data }, { on := 1, ground := Ground.data }, { on := 10, ground := Ground.data }, { on := 0, ground := Ground.chain }], guard := none }) rfl (fun K hK => ?_) ?_
            ·
             go_simp
             go_at_call 12
             refine (HZ.out _ (by omega) _).mono ?_
             rintro e w5 ⟨rfl, hb5⟩
             replace hKB := KB.call hKB hb5
             replace hR := hKB.box
             clear hb5 hL
             refine hK.out _ _ (by trivial) (fun hHeld => ?_)
             clear hK K
             try simp only [Act.put, setIfInBounds_toArray, set_cons_zero, set_cons_succ]
             refine wpAnyH_take (i := 12) (oi := { dst := some 57, op := Op.move (Operand.tmp 69), type := 27, pos := "more.go:30", after := #[{ on := 11, ground := Ground.data }], guard := none }) (v := ?_) rfl (by kernel_rfl) (by kernel_rfl) (by kernel_rfl) (fun _ _ _ h => h) (Or.inl ⟨by rfl, ?_⟩) (by assumption) ?_
             rotate_left
             · (intro w hSw; (try dsimp only at hSw); go_simp; all_goals with_reducible rfl)
             try simp only [Act.put, setIfInBounds_toArray, set_cons_zero, set_cons_succ]
             refine wpAnyH_take (i := 13) (oi := { dst := some 70, op := Op.extract (Operand.tmp 57) 0, type := 9, pos := "more.go:30", after := #[{ on := 12, ground := Ground.data }], guard := none }) (v := ?_) rfl (by kernel_rfl) (by kernel_rfl) (by kernel_rfl) (fun _ _ _ h => h) (Or.inl ⟨by rfl, ?_⟩) (by assumption) ?_
             rotate_left
             · (intro w hSw; (try dsimp only at hSw); go_simp; all_goals with_reducible rfl)
             try simp only [Act.put, setIfInBounds_toArray, set_cons_zero, set_cons_succ]
             refine wpAnyH_take (i := 14) (oi := { dst := some 71, op := Op.extract (Operand.tmp 57) 1, type := 24, pos := "more.go:30", after := #[{ on := 12, ground := Ground.data }, { on := 17, ground := Ground.gcOnly Departure.lateStores }], guard := none }) (v := ?_) rfl (by kernel_rfl) (by kernel_rfl) (by kernel_rfl) (fun _ _ _ h => h) (Or.inl ⟨by rfl, ?_⟩) (by assumption) ?_
             rotate_left
             · (intro w hSw; (try dsimp only at hSw); go_simp; all_goals with_reducible rfl)
             try simp only [Act.put, setIfInBounds_toArray, set_cons_zero, set_cons_succ]
             refine wpAnyH_take (i := 15) (oi := { dst := some 72, op := Op.extract (Operand.tmp 57) 2, type := 26, pos := "more.go:30", after := #[{ on := 12, ground := Ground.data }, { on := 18, ground := Ground.gcOnly Departure.lateStores }], guard := none }) (v := ?_) rfl (by kernel_rfl) (by kernel_rfl) (by kernel_rfl) (fun _ _ _ h => h) (Or.inl ⟨by rfl, ?_⟩) (by assumption) ?_
             rotate_left
             · (intro w hSw; (try dsimp only at hSw); go_simp; all_goals with_reducible rfl)
             try simp only [Act.put, setIfInBounds_toArray, set_cons_zero, set_cons_succ]
             refine wpAnyH_take (i := 17) (oi := { dst := some 14, op := Op.assign (Operand.tmp 70), type := 9, pos := "more.go:30", after := #[{ on := 13, ground := Ground.data }, { on := 11, ground := Ground.chain }, { on := 0, ground := Ground.phase }, { on := 1, ground := Ground.phase }, { on := 2, ground := Ground.phase }, { on := 3, ground := Ground.phase }, { on := 4, ground := Ground.phase }, { on := 5, ground := Ground.phase }, { on := 6, ground := Ground.phase }, { on := 7, ground := Ground.phase }, { on := 8, ground := Ground.phase }, { on := 9, ground := Ground.phase }, { on := 10, ground := Ground.phase }, { on := 11, ground := Ground.phase }, { on := 12, ground := Ground.phase }, { on := 13, ground := Ground.phase }, { on := 14, ground := Ground.textOnly Departure.lateStores }, { on := 15, ground := Ground.textOnly Departure.lateStores }, { on := 16, ground := Ground.phase }], guard := none }) (v := ?_) rfl (by kernel_rfl) (by kernel_rfl) (by kernel_rfl) (fun _ _ _ h => h) (Or.inl ⟨by rfl, ?_⟩) (by assumption) ?_
             rotate_left
             · (intro w hSw; (try dsimp only at hSw); go_simp; all_goals with_reducible rfl)
             try simp only [Act.put, setIfInBounds_toArray, set_cons_zero, set_cons_succ]
             refine wpAnyH_ready (rs := [18]) (by kernel_rfl) (by simp) ?_
             refine AllReadyH.cons (o := { dst := none, op := Op.store 24 (Operand.tmp 15) (Operand.tmp 71), type := 0, pos := "more.go:30", after := #[{ on := 16, ground := Ground.data }, { on := 14, ground := Ground.data }, { on := 17, ground := Ground.chain }, { on := 0, ground := Ground.phase }, { on := 1, ground := Ground.phase }, { on := 2, ground := Ground.phase }, { on := 3, ground := Ground.phase }, { on := 4, ground := Ground.phase }, { on := 5, ground := Ground.phase }, { on := 6, ground := Ground.phase }, { on := 7, ground := Ground.phase }, { on := 8, ground := Ground.phase }, { on := 9, ground := Ground.phase }, { on := 10, ground := Ground.phase }, { on := 11, ground := Ground.phase }, { on := 12, ground := Ground.phase }, { on := 13, ground := Ground.phase }, { on := 14, ground := Ground.phase }, { on := 15, ground := Ground.textOnly Departure.lateStores }, { on := 16, ground := Ground.phase }, { on := 17, ground := Ground.phase }], guard := none }) rfl (fun K hK => ?_) ?_
             ·
              go_simp
              refine hK.out _ _ (by trivial) (fun hHeld => ?_)
              clear hK K
              try simp only [Act.put, setIfInBounds_toArray, set_cons_zero, set_cons_succ]
              refine wpAnyH_take (i := 19) (oi := { dst := some 16, op := Op.assign (Operand.tmp 72), type := 26, pos := "more.go:30", after := #[{ on := 15, ground := Ground.data }, { on := 18, ground := Ground.chain }, { on := 0, ground := Ground.phase }, { on := 1, ground := Ground.phase }, { on := 2, ground := Ground.phase }, { on := 3, ground := Ground.phase }, { on := 4, ground := Ground.phase }, { on := 5, ground := Ground.phase }, { on := 6, ground := Ground.phase }, { on := 7, ground := Ground.phase }, { on := 8, ground := Ground.phase }, { on := 9, ground := Ground.phase }, { on := 10, ground := Ground.phase }, { on := 11, ground := Ground.phase }, { on := 12, ground := Ground.phase }, { on := 13, ground := Ground.phase }, { on := 14, ground := Ground.phase }, { on := 15, ground := Ground.phase }, { on := 16, ground := Ground.phase }, { on := 17, ground := Ground.phase }, { on := 18, ground := Ground.phase }], guard := none }) (v := ?_) rfl (by kernel_rfl) (by kernel_rfl) (by kernel_rfl) (fun _ _ _ h => h) (Or.inl ⟨by rfl, ?_⟩) (by assumption) ?_
              rotate_left
              · (intro w hSw; (try dsimp only at hSw); go_simp; all_goals with_reducible rfl)
              try simp only [Act.put, setIfInBounds_toArray, set_cons_zero, set_cons_succ]
              refine wpAnyH_done (by kernel_rfl) ?_ _
              refine NoPanic.normal ?_
              go_wp2_with fail
              go_meet
              refine ⟨rfl, rfl, ?_⟩
              exact ⟨_, rfl, set6 hKB.bel hKB.le, res6 hR (.int .i64 0) (.int .i64 0) (.int .i64 0) (.int .i64 0) (.int .i64 0) (.slice none 0 0)⟩
             exact AllReadyH.nil
            exact AllReadyH.nil
           exact AllReadyH.nil
          exact AllReadyH.nil
         exact AllReadyH.nil
        exact AllReadyH.nil
      · refine wp_region_noPanic ?_
        refine wp_region_held_drew (S := fun _ => True) (by kernel_rfl) (by trivial) (fun hHeld => ?_)
        refine wpAnyH_take (i := 1) (oi := { dst := some 59, op := Op.build 24 #[], type := 24, pos := "more.go:30", after := #[], guard := none }) (v := ?_) rfl (by kernel_rfl) (by kernel_rfl) (by kernel_rfl) (fun _ _ _ h => h) (Or.inl ⟨by rfl, ?_⟩) (by assumption) ?_
        rotate_left
        · (intro w hSw; (try dsimp only at hSw); go_simp; all_goals with_reducible rfl)
        try simp only [Act.put, setIfInBounds_toArray, set_cons_zero, set_cons_succ]
        refine wpAnyH_take (i := 2) (oi := { dst := some 60, op := Op.move (Operand.tmp 5), type := 3, pos := "more.go:30", after := #[], guard := none }) (v := ?_) rfl (by kernel_rfl) (by kernel_rfl) (by kernel_rfl) (fun _ _ _ h => h) (Or.inl ⟨by rfl, ?_⟩) (by assumption) ?_
        rotate_left
        · (intro w hSw; (try dsimp only at hSw); go_simp; all_goals with_reducible rfl)
        try simp only [Act.put, setIfInBounds_toArray, set_cons_zero, set_cons_succ]
        refine wpAnyH_take (i := 3) (oi := { dst := some 61, op := Op.unOp UnOp.neg 3 (Operand.tmp 60), type := 3, pos := "more.go:30", after := #[{ on := 2, ground := Ground.data }], guard := none }) (v := ?_) rfl (by kernel_rfl) (by kernel_rfl) (by kernel_rfl) (fun _ _ _ h => h) (Or.inl ⟨by rfl, ?_⟩) (by assumption) ?_
        rotate_left
        · (intro w hSw; (try dsimp only at hSw); go_simp; all_goals with_reducible rfl)
        try simp only [Act.put, setIfInBounds_toArray, set_cons_zero, set_cons_succ]
        refine wpAnyH_take (i := 4) (oi := { dst := some 62, op := Op.move (Operand.tmp 5), type := 3, pos := "more.go:30", after := #[], guard := none }) (v := ?_) rfl (by kernel_rfl) (by kernel_rfl) (by kernel_rfl) (fun _ _ _ h => h) (Or.inl ⟨by rfl, ?_⟩) (by assumption) ?_
        rotate_left
        · (intro w hSw; (try dsimp only at hSw); go_simp; all_goals with_reducible rfl)
        try simp only [Act.put, setIfInBounds_toArray, set_cons_zero, set_cons_succ]
        refine wpAnyH_take (i := 5) (oi := { dst := some 63, op := Op.binOp BinOp.add 3 (Operand.const (Value.int IntKind.i64 96)) (Operand.tmp 62) 3, type := 3, pos := "more.go:30", after := #[{ on := 4, ground := Ground.data }], guard := none }) (v := ?_) rfl (by kernel_rfl) (by kernel_rfl) (by kernel_rfl) (fun _ _ _ h => h) (Or.inl ⟨by rfl, ?_⟩) (by assumption) ?_
        rotate_left
        · (intro w hSw; (try dsimp only at hSw); go_simp; all_goals with_reducible rfl)
        try simp only [Act.put, setIfInBounds_toArray, set_cons_zero, set_cons_succ]
        refine wpAnyH_take (i := 7) (oi := { dst := some 65, op := Op.move (Operand.tmp 0), type := 3, pos := "more.go:30", after := #[], guard := none }) (v := ?_) rfl (by kernel_rfl) (by kernel_rfl) (by kernel_rfl) (fun _ _ _ h => h) (Or.inl ⟨by rfl, ?_⟩) (by assumption) ?_
        rotate_left
        · (intro w hSw; (try dsimp only at hSw); go_simp; all_goals with_reducible rfl)
        try simp only [Act.put, setIfInBounds_toArray, set_cons_zero, set_cons_succ]
        refine wpAnyH_take (i := 8) (oi := { dst := some 66, op := Op.binOp BinOp.and 3 (Operand.tmp 65) (Operand.const (Value.int IntKind.i64 1)) 3, type := 3, pos := "more.go:30", after := #[{ on := 7, ground := Ground.data }], guard := none }) (v := ?_) rfl (by kernel_rfl) (by kernel_rfl) (by kernel_rfl) (fun _ _ _ h => h) (Or.inl ⟨by rfl, ?_⟩) (by assumption) ?_
        rotate_left
        · (intro w hSw; (try dsimp only at hSw); go_simp; all_goals with_reducible rfl)
        try simp only [Act.put, setIfInBounds_toArray, set_cons_zero, set_cons_succ]
        refine wpAnyH_ready (rs := [0, 6, 16]) (by kernel_rfl) (by simp) ?_
        refine AllReadyH.cons (o := { dst := some 58, op := Op.call { callee := Callee.value (Operand.func 18), args := #[], argTypes := #[] }, type := 9, pos := "more.go:30", after := #[], guard := none }) rfl (fun K hK => ?_) ?_
        ·
         go_simp
         go_at_call 18
         refine (C1.out _).mono ?_
         rintro e w4 ⟨rfl, hb4⟩
         have hK1 := K0.call (K0.drew hT) hb4
         clear hb4
         refine hK.out _ _ (by trivial) (fun hHeld => ?_)
         clear hK K
         try simp only [Act.put, setIfInBounds_toArray, set_cons_zero, set_cons_succ]
         refine wpAnyH_ready (rs := [6, 16]) (by kernel_rfl) (by simp) ?_
         refine AllReadyH.cons (o := { dst := some 64, op := Op.buildSlice 41 2 #[(0, Operand.tmp 61), (1, Operand.tmp 63)], type := 41, pos := "more.go:30", after := #[{ on := 3, ground := Ground.data }, { on := 5, ground := Ground.data }], guard := none }) rfl (fun K hK => ?_) ?_
         ·
          go_simp
          refine hK.out _ _ (by trivial) (fun hHeld => ?_)
          clear hK K
          try simp only [Act.put, setIfInBounds_toArray, set_cons_zero, set_cons_succ]
          refine wpAnyH_take (i := 9) (oi := { dst := some 67, op := Op.indexAddr 41 (Operand.tmp 64) (Operand.tmp 66), type := 0, pos := "more.go:30", after := #[{ on := 6, ground := Ground.data }, { on := 8, ground := Ground.data }], guard := none }) (v := ?_) rfl (by kernel_rfl) (by kernel_rfl) (by kernel_rfl) (fun _ _ _ h => h) (Or.inl ⟨by rfl, ?_⟩) (by assumption) ?_
          rotate_left
          · (intro w hSw; (try dsimp only at hSw); go_simp; all_goals with_reducible rfl)
          try simp only [Act.put, setIfInBounds_toArray, set_cons_zero, set_cons_succ]
          refine wpAnyH_ready (rs := [10, 16]) (by kernel_rfl) (by simp) ?_
          refine AllReadyH.cons (o := { dst := some 68, op := Op.load 3 (Operand.tmp 67), type := 3, pos := "more.go:30", after := #[{ on := 9, ground := Ground.data }], guard := none }) rfl (fun K hK => ?_) ?_
          ·
           go_simp
           refine hK.out _ _ (by trivial) (fun hHeld => ?_)
           clear hK K
           try simp only [Act.put, setIfInBounds_toArray, set_cons_zero, set_cons_succ]
           refine wpAnyH_ready (rs := [11, 16]) (by kernel_rfl) (by simp) ?_
           refine AllReadyH.cons (o := { dst := some 69, op := Op.call { callee := Callee.value (Operand.func 12), args := #[Operand.tmp 58, Operand.tmp 59, Operand.tmp 68], argTypes := #[9, 24, 3] }, type := 27, pos := "more.go:30", after := #[{ on := 0, ground := Ground.data }, { on := 1, ground := Ground.data }, { on := 10, ground := Ground.data }, { on := 0, ground := Ground.chain }], guard := none }) rfl (fun K hK => ?_) ?_
           ·
            go_simp
            go_at_call 12
            refine (HZ.out _ (by omega) _).mono ?_
            rintro e w5 ⟨rfl, hb5⟩
            replace hK1 := K0.call (K0.alloc hK1 _) hb5
            clear hb5
            refine hK.out _ _ (by trivial) (fun hHeld => ?_)
            clear hK K
            try simp only [Act.put, setIfInBounds_toArray, set_cons_zero, set_cons_succ]
            refine wpAnyH_take (i := 12) (oi := { dst := some 57, op := Op.move (Operand.tmp 69), type := 27, pos := "more.go:30", after := #[{ on := 11, ground := Ground.data }], guard := none }) (v := ?_) rfl (by kernel_rfl) (by kernel_rfl) (by kernel_rfl) (fun _ _ _ h => h) (Or.inl ⟨by rfl, ?_⟩) (by assumption) ?_
            rotate_left
            · (intro w hSw; (try dsimp only at hSw); go_simp; all_goals with_reducible rfl)
            try simp only [Act.put, setIfInBounds_toArray, set_cons_zero, set_cons_succ]
            refine wpAnyH_take (i := 13) (oi := { dst := some 70, op := Op.extract (Operand.tmp 57) 0, type := 9, pos := "more.go:30", after := #[{ on := 12, ground := Ground.data }], guard := none }) (v := ?_) rfl (by kernel_rfl) (by kernel_rfl) (by kernel_rfl) (fun _ _ _ h => h) (Or.inl ⟨by rfl, ?_⟩) (by assumption) ?_
            rotate_left
            · (intro w hSw; (try dsimp only at hSw); go_simp; all_goals with_reducible rfl)
            try simp only [Act.put, setIfInBounds_toArray, set_cons_zero, set_cons_succ]
            refine wpAnyH_take (i := 14) (oi := { dst := some 71, op := Op.extract (Operand.tmp 57) 1, type := 24, pos := "more.go:30", after := #[{ on := 12, ground := Ground.data }, { on := 17, ground := Ground.gcOnly Departure.lateStores }], guard := none }) (v := ?_) rfl (by kernel_rfl) (by kernel_rfl) (by kernel_rfl) (fun _ _ _ h => h) (Or.inl ⟨by rfl, ?_⟩) (by assumption) ?_
            rotate_left
            · (intro w hSw; (try dsimp only at hSw); go_simp; all_goals with_reducible rfl)
            try simp only [Act.put, setIfInBounds_toArray, set_cons_zero, set_cons_succ]
            refine wpAnyH_take (i := 15) (oi := { dst := some 72, op := Op.extract (Operand.tmp 57) 2, type := 26, pos := "more.go:30", after := #[{ on := 12, ground := Ground.data }, { on := 18, ground := Ground.gcOnly Departure.lateStores }], guard := none }) (v := ?_) rfl (by kernel_rfl) (by kernel_rfl) (by kernel_rfl) (fun _ _ _ h => h) (Or.inl ⟨by rfl, ?_⟩) (by assumption) ?_
            rotate_left
            · (intro w hSw; (try dsimp only at hSw); go_simp; all_goals with_reducible rfl)
            try simp only [Act.put, setIfInBounds_toArray, set_cons_zero, set_cons_succ]
            refine wpAnyH_ready (rs := [16]) (by kernel_rfl) (by simp) ?_
            refine AllReadyH.cons (o := { dst := some 15, op := Op.alloc 24, type := 0, pos := "more.go:30", after := #[], guard := none }) rfl (fun K hK => ?_) ?_
            ·
             go_simp
             refine hK.out _ _ (by trivial) (fun hHeld => ?_)
             clear hK K
             try simp only [Act.put, setIfInBounds_toArray, set_cons_zero, set_cons_succ]
             refine wpAnyH_take (i := 17) (oi := { dst := some 14, op := Op.assign (Operand.tmp 70), type := 9, pos := "more.go:30", after := #[{ on := 13, ground := Ground.data }, { on := 11, ground := Ground.chain }, { on := 0, ground := Ground.phase }, { on := 1, ground := Ground.phase }, { on := 2, ground := Ground.phase }, { on := 3, ground := Ground.phase }, { on := 4, ground := Ground.phase }, { on := 5, ground := Ground.phase }, { on := 6, ground := Ground.phase }, { on := 7, ground := Ground.phase }, { on := 8, ground := Ground.phase }, { on := 9, ground := Ground.phase }, { on := 10, ground := Ground.phase }, { on := 11, ground := Ground.phase }, { on := 12, ground := Ground.phase }, { on := 13, ground := Ground.phase }, { on := 14, ground := Ground.textOnly Departure.lateStores }, { on := 15, ground := Ground.textOnly Departure.lateStores }, { on := 16, ground := Ground.phase }], guard := none }) (v := ?_) rfl (by kernel_rfl) (by kernel_rfl) (by kernel_rfl) (fun _ _ _ h => h) (Or.inl ⟨by rfl, ?_⟩) (by assumption) ?_
             rotate_left
             · (intro w hSw; (try dsimp only at hSw); go_simp; all_goals with_reducible rfl)
             try simp only [Act.put, setIfInBounds_toArray, set_cons_zero, set_cons_succ]
             refine wpAnyH_ready (rs := [18]) (by kernel_rfl) (by simp) ?_
             refine AllReadyH.cons (o := { dst := none, op := Op.store 24 (Operand.tmp 15) (Operand.tmp 71), type := 0, pos := "more.go:30", after := #[{ on := 16, ground := Ground.data }, { on := 14, ground := Ground.data }, { on := 17, ground := Ground.chain }, { on := 0, ground := Ground.phase }, { on := 1, ground := Ground.phase }, { on := 2, ground := Ground.phase }, { on := 3, ground := Ground.phase }, { on := 4, ground := Ground.phase }, { on := 5, ground := Ground.phase }, { on := 6, ground := Ground.phase }, { on := 7, ground := Ground.phase }, { on := 8, ground := Ground.phase }, { on := 9, ground := Ground.phase }, { on := 10, ground := Ground.phase }, { on := 11, ground := Ground.phase }, { on := 12, ground := Ground.phase }, { on := 13, ground := Ground.phase }, { on := 14, ground := Ground.phase }, { on := 15, ground := Ground.textOnly Departure.lateStores }, { on := 16, ground := Ground.phase }, { on := 17, ground := Ground.phase }], guard := none }) rfl (fun K hK => ?_) ?_
             ·
              go_simp
              refine hK.out _ _ (by trivial) (fun hHeld => ?_)
              clear hK K
              try simp only [Act.put, setIfInBounds_toArray, set_cons_zero, set_cons_succ]
              refine wpAnyH_take (i := 19) (oi := { dst := some 16, op := Op.assign (Operand.tmp 72), type := 26, pos := "more.go:30", after := #[{ on := 15, ground := Ground.data }, { on := 18, ground := Ground.chain }, { on := 0, ground := Ground.phase }, { on := 1, ground := Ground.phase }, { on := 2, ground := Ground.phase }, { on := 3, ground := Ground.phase }, { on := 4, ground := Ground.phase }, { on := 5, ground := Ground.phase }, { on := 6, ground := Ground.phase }, { on := 7, ground := Ground.phase }, { on := 8, ground := Ground.phase }, { on := 9, ground := Ground.phase }, { on := 10, ground := Ground.phase }, { on := 11, ground := Ground.phase }, { on := 12, ground := Ground.phase }, { on := 13, ground := Ground.phase }, { on := 14, ground := Ground.phase }, { on := 15, ground := Ground.phase }, { on := 16, ground := Ground.phase }, { on := 17, ground := Ground.phase }, { on := 18, ground := Ground.phase }], guard := none }) (v := ?_) rfl (by kernel_rfl) (by kernel_rfl) (by kernel_rfl) (fun _ _ _ h => h) (Or.inl ⟨by rfl, ?_⟩) (by assumption) ?_
              rotate_left
              · (intro w hSw; (try dsimp only at hSw); go_simp; all_goals with_reducible rfl)
              try simp only [Act.put, setIfInBounds_toArray, set_cons_zero, set_cons_succ]
              refine wpAnyH_done (by kernel_rfl) ?_ _
              refine NoPanic.normal ?_
              go_wp2_with fail
              go_meet
              refine ⟨rfl, rfl, ?_⟩
              exact ⟨_, rfl, K0.alloc hK1 _, resM _ (.int .i64 0) (.int .i64 0) (.int .i64 0) (.int .i64 0) (.int .i64 0) (.slice none 0 0) 24⟩
             exact AllReadyH.nil
            exact AllReadyH.nil
           refine AllReadyH.cons (o := { dst := some 15, op := Op.alloc 24, type := 0, pos := "more.go:30", after := #[], guard := none }) rfl (fun K hK => ?_) ?_
           ·
            go_simp
            refine hK.out _ _ (by trivial) (fun hHeld => ?_)
            clear hK K
            try simp only [Act.put, setIfInBounds_toArray, set_cons_zero, set_cons_succ]
            refine wpAnyH_ready (rs := [11]) (by kernel_rfl) (by simp) ?_
            refine AllReadyH.cons (o := { dst := some 69, op := Op.call { callee := Callee.value (Operand.func 12), args := #[Operand.tmp 58, Operand.tmp 59, Operand.tmp 68], argTypes := #[9, 24, 3] }, type := 27, pos := "more.go:30", after := #[{ on := 0, ground := Ground.data }, { on := 1, ground := Ground.data }, { on := 10, ground := Ground.data }, { on := 0, ground := Ground.chain }], guard := none }) rfl (fun K hK => ?_) ?_
            ·
             go_simp
             go_at_call 12
             refine (HZ.out _ (by omega) _).mono ?_
             rintro e w5 ⟨rfl, hb5⟩
             have hKB := KB.call (KB.new (K0.alloc hK1 _)) hb5
             rw [size_al] at hKB
             have hR := hKB.box
             clear hb5
             refine hK.out _ _ (by trivial) (fun hHeld => ?_)
             clear hK K
             try simp only [Act.put, setIfInBounds_toArray, set_cons_zero, set_cons_succ]
             refine wpAnyH_take (i := 12) (oi := { dst := some 57, op := Op.move (Operand.tmp 69), type := 27, pos := "more.go:30", after := #[{ on := 11, ground := Ground.data }], guard := none }) (v := ?_) rfl (by kernel_rfl) (by kernel_rfl) (by kernel_rfl) (fun _ _ _ h => h) (Or.inl ⟨by rfl, ?_⟩) (by assumption) ?_
             rotate_left
             · (intro w hSw; (try dsimp only at hSw); go_simp; all_goals with_reducible rfl)
             try simp only [Act.put, setIfInBounds_toArray, set_cons_zero, set_cons_succ]
             refine wpAnyH_take (i := 13) (oi := { dst := some 70, op := Op.extract (Operand.tmp 57) 0, type := 9, pos := "more.go:30", after := #[{ on := 12, ground := Ground.data }], guard := none }) (v := ?_) rfl (by kernel_rfl) (by kernel_rfl) (by kernel_rfl) (fun _ _ _ h => h) (Or.inl ⟨by rfl, ?_⟩) (by assumption) ?_
             rotate_left
             · (intro w hSw; (try dsimp only at hSw); go_simp; all_goals with_reducible rfl)
             try simp only [Act.put, setIfInBounds_toArray, set_cons_zero, set_cons_succ]
             refine wpAnyH_take (i := 14) (oi := { dst := some 71, op := Op.extract (Operand.tmp 57) 1, type := 24, pos := "more.go:30", after := #[{ on := 12, ground := Ground.data }, { on := 17, ground := Ground.gcOnly Departure.lateStores }], guard := none }) (v := ?_) rfl (by kernel_rfl) (by kernel_rfl) (by kernel_rfl) (fun _ _ _ h => h) (Or.inl ⟨by rfl, ?_⟩) (by assumption) ?_
             rotate_left
             · (intro w hSw; (try dsimp only at hSw); go_simp; all_goals with_reducible rfl)
             try simp only [Act.put, setIfInBounds_toArray, set_cons_zero, set_cons_succ]
             refine wpAnyH_take (i := 15) (oi := { dst := some 72, op := Op.extract (Operand.tmp 57) 2, type := 26, pos := "more.go:30", after := #[{ on := 12, ground := Ground.data }, { on := 18, ground := Ground.gcOnly Departure.lateStores }], guard := none }) (v := ?_) rfl (by kernel_rfl) (by kernel_rfl) (by kernel_rfl) (fun _ _ _ h => h) (Or.inl ⟨by rfl, ?_⟩) (by assumption) ?_
             rotate_left
             · (intro w hSw; (try dsimp only at hSw); go_simp; all_goals with_reducible rfl)
             try simp only [Act.put, setIfInBounds_toArray, set_cons_zero, set_cons_succ]
             refine wpAnyH_take (i := 17) (oi := { dst := some 14, op := Op.assign (Operand.tmp 70), type := 9, pos := "more.go:30", after := #[{ on := 13, ground := Ground.data }, { on := 11, ground := Ground.chain }, { on := 0, ground := Ground.phase }, { on := 1, ground := Ground.phase }, { on := 2, ground := Ground.phase }, { on := 3, ground := Ground.phase }, { on := 4, ground := Ground.phase }, { on := 5, ground := Ground.phase }, { on := 6, ground := Ground.phase }, { on := 7, ground := Ground.phase }, { on := 8, ground := Ground.phase }, { on := 9, ground := Ground.phase }, { on := 10, ground := Ground.phase }, { on := 11, ground := Ground.phase }, { on := 12, ground := Ground.phase }, { on := 13, ground := Ground.phase }, { on := 14, ground := Ground.textOnly Departure.lateStores }, { on := 15, ground := Ground.textOnly Departure.lateStores }, { on := 16, ground := Ground.phase }], guard := none }) (v := ?_) rfl (by kernel_rfl) (by kernel_rfl) (by kernel_rfl) (fun _ _ _ h => h) (Or.inl ⟨by rfl, ?_⟩) (by assumption) ?_
             rotate_left
             · (intro w hSw; (try dsimp only at hSw); go_simp; all_goals with_reducible rfl)
             try simp only [Act.put, setIfInBounds_toArray, set_cons_zero, set_cons_succ]
             refine wpAnyH_ready (rs := [18]) (by kernel_rfl) (by simp) ?_
             refine AllReadyH.cons (o := { dst := none, op := Op.store 24 (Operand.tmp 15) (Operand.tmp 71), type := 0, pos := "more.go:30", after := #[{ on := 16, ground := Ground.data }, { on := 14, ground := Ground.data }, { on := 17, ground := Ground.chain }, { on := 0, ground := Ground.phase }, { on := 1, ground := Ground.phase }, { on := 2, ground := Ground.phase }, { on := 3, ground := Ground.phase }, { on := 4, ground := Ground.phase }, { on := 5, ground := Ground.phase }, { on := 6, ground := Ground.phase }, { on := 7, ground := Ground.phase }, { on := 8, ground := Ground.phase }, { on := 9, ground := Ground.phase }, { on := 10, ground := Ground.phase }, { on := 11, ground := Ground.phase }, { on := 12, ground := Ground.phase }, { on := 13, ground := Ground.phase }, { on := 14, ground := Ground.phase }, { on := 15, ground := Ground.textOnly Departure.lateStores }, { on := 16, ground := Ground.phase }, { on := 17, ground := Ground.phase }], guard := none }) rfl (fun K hK => ?_) ?_
             ·
              go_simp
              refine hK.out _ _ (by trivial) (fun hHeld => ?_)
              clear hK K
              try simp only [Act.put, setIfInBounds_toArray, set_cons_zero, set_cons_succ]
              refine wpAnyH_take (i := 19) (oi := { dst := some 16, op := Op.assign (Operand.tmp 72), type := 26, pos := "more.go:30", after := #[{ on := 15, ground := Ground.data }, { on := 18, ground := Ground.chain }, { on := 0, ground := Ground.phase }, { on := 1, ground := Ground.phase }, { on := 2, ground := Ground.phase }, { on := 3, ground := Ground.phase }, { on := 4, ground := Ground.phase }, { on := 5, ground := Ground.phase }, { on := 6, ground := Ground.phase }, { on := 7, ground := Ground.phase }, { on := 8, ground := Ground.phase }, { on := 9, ground := Ground.phase }, { on := 10, ground := Ground.phase }, { on := 11, ground := Ground.phase }, { on := 12, ground := Ground.phase }, { on := 13, ground := Ground.phase }, { on := 14, ground := Ground.phase }, { on := 15, ground := Ground.phase }, { on := 16, ground := Ground.phase }, { on := 17, ground := Ground.phase }, { on := 18, ground := Ground.phase }], guard := none }) (v := ?_) rfl (by kernel_rfl) (by kernel_rfl) (by kernel_rfl) (fun _ _ _ h => h) (Or.inl ⟨by rfl, ?_⟩) (by assumption) ?_
              rotate_left
              · (intro w hSw; (try dsimp only at hSw); go_simp; all_goals with_reducible rfl)
              try simp only [Act.put, setIfInBounds_toArray, set_cons_zero, set_cons_succ]
              refine wpAnyH_done (by kernel_rfl) ?_ _
              refine NoPanic.normal ?_
              go_wp2_with fail
              go_meet
              refine ⟨rfl, rfl, ?_⟩
              exact ⟨_, rfl, set6 hKB.bel hKB.le, res6 hR (.int .i64 0) (.int .i64 0) (.int .i64 0) (.int .i64 0) (.int .i64 0) (.slice none 0 0)⟩
             exact AllReadyH.nil
            exact AllReadyH.nil
           exact AllReadyH.nil
          refine AllReadyH.cons (o := { dst := some 15, op := Op.alloc 24, type := 0, pos := "more.go:30", after := #[], guard := none }) rfl (fun K hK => ?_) ?_
          ·
           go_simp
           refine hK.out _ _ (by trivial) (fun hHeld => ?_)
           clear hK K
           try simp only [Act.put, setIfInBounds_toArray, set_cons_zero, set_cons_succ]
           refine wpAnyH_ready (rs := [10]) (by kernel_rfl) (by simp) ?_
           refine AllReadyH.cons (o := { dst := some 68, op := Op.load 3 (Operand.tmp 67), type := 3, pos := "more.go:30", after := #[{ on := 9, ground := Ground.data }], guard := none }) rfl (fun K hK => ?_) ?_
           ·
            go_simp
            refine hK.out _ _ (by trivial) (fun hHeld => ?_)
            clear hK K
            try simp only [Act.put, setIfInBounds_toArray, set_cons_zero, set_cons_succ]
            refine wpAnyH_ready (rs := [11]) (by kernel_rfl) (by simp) ?_
            refine AllReadyH.cons (o := { dst := some 69, op := Op.call { callee := Callee.value (Operand.func 12), args := #[Operand.tmp 58, Operand.tmp 59, Operand.tmp 68], argTypes := #[9, 24, 3] }, type := 27, pos := "more.go:30", after := #[{ on := 0, ground := Ground.data }, { on := 1, ground := Ground.data }, { on := 10, ground := Ground.data }, { on := 0, ground := Ground.chain }], guard := none }) rfl (fun K hK => ?_) ?_
            ·
             go_simp
             go_at_call 12
             refine (HZ.out _ (by omega) _).mono ?_
             rintro e w5 ⟨rfl, hb5⟩
             have hKB := KB.call (KB.new (K0.alloc hK1 _)) hb5
             rw [size_al] at hKB
             have hR := hKB.box
             clear hb5
             refine hK.out _ _ (by trivial) (fun hHeld => ?_)
             clear hK K
             try simp only [Act.put, setIfInBounds_toArray, set_cons_zero, set_cons_succ]
             refine wpAnyH_take (i := 12) (oi := { dst := some 57, op := Op.move (Operand.tmp 69), type := 27, pos := "more.go:30", after := #[{ on := 11, ground := Ground.data }], guard := none }) (v := ?_) rfl (by kernel_rfl) (by kernel_rfl) (by kernel_rfl) (fun _ _ _ h => h) (Or.inl ⟨by rfl, ?_⟩) (by assumption) ?_
             rotate_left
             · (intro w hSw; (try dsimp only at hSw); go_simp; all_goals with_reducible rfl)
             try simp only [Act.put, setIfInBounds_toArray, set_cons_zero, set_cons_succ]
             refine wpAnyH_take (i := 13) (oi := { dst := some 70, op := Op.extract (Operand.tmp 57) 0, type := 9, pos := "more.go:30", after := #[{ on := 12, ground := Ground.data }], guard := none }) (v := ?_) rfl (by kernel_rfl) (by kernel_rfl) (by kernel_rfl) (fun _ _ _ h => h) (Or.inl ⟨by rfl, ?_⟩) (by assumption) ?_
             rotate_left
             · (intro w hSw; (try dsimp only at hSw); go_simp; all_goals with_reducible rfl)
             try simp only [Act.put, setIfInBounds_toArray, set_cons_zero, set_cons_succ]
             refine wpAnyH_take (i := 14) (oi := { dst := some 71, op := Op.extract (Operand.tmp 57) 1, type := 24, pos := "more.go:30", after := #[{ on := 12, ground := Ground.data }, { on := 17, ground := Ground.gcOnly Departure.lateStores }], guard := none }) (v := ?_) rfl (by kernel_rfl) (by kernel_rfl) (by kernel_rfl) (fun _ _ _ h => h) (Or.inl ⟨by rfl, ?_⟩) (by assumption) ?_
             rotate_left
             · (intro w hSw; (try dsimp only at hSw); go_simp; all_goals with_reducible rfl)
             try simp only [Act.put, setIfInBounds_toArray, set_cons_zero, set_cons_succ]
             refine wpAnyH_take (i := 15) (oi := { dst := some 72, op := Op.extract (Operand.tmp 57) 2, type := 26, pos := "more.go:30", after := #[{ on := 12, ground := Ground.data }, { on := 18, ground := Ground.gcOnly Departure.lateStores }], guard := none }) (v := ?_) rfl (by kernel_rfl) (by kernel_rfl) (by kernel_rfl) (fun _ _ _ h => h) (Or.inl ⟨by rfl, ?_⟩) (by assumption) ?_
             rotate_left
             · (intro w hSw; (try dsimp only at hSw); go_simp; all_goals with_reducible rfl)
             try simp only [Act.put, setIfInBounds_toArray, set_cons_zero, set_cons_succ]
             refine wpAnyH_take (i := 17) (oi := { dst := some 14, op := Op.assign (Operand.tmp 70), type := 9, pos := "more.go:30", after := #[{ on := 13, ground := Ground.data }, { on := 11, ground := Ground.chain }, { on := 0, ground := Ground.phase }, { on := 1, ground := Ground.phase }, { on := 2, ground := Ground.phase }, { on := 3, ground := Ground.phase }, { on := 4, ground := Ground.phase }, { on := 5, ground := Ground.phase }, { on := 6, ground := Ground.phase }, { on := 7, ground := Ground.phase }, { on := 8, ground := Ground.phase }, { on := 9, ground := Ground.phase }, { on := 10, ground := Ground.phase }, { on := 11, ground := Ground.phase }, { on := 12, ground := Ground.phase }, { on := 13, ground := Ground.phase }, { on := 14, ground := Ground.textOnly Departure.lateStores }, { on := 15, ground := Ground.textOnly Departure.lateStores }, { on := 16, ground := Ground.phase }], guard := none }) (v := ?_) rfl (by kernel_rfl) (by kernel_rfl) (by kernel_rfl) (fun _ _ _ h => h) (Or.inl ⟨by rfl, ?_⟩) (by assumption) ?_
             rotate_left
             · (intro w hSw; (try dsimp only at hSw); go_simp; all_goals with_reducible rfl)
             try simp only [Act.put, setIfInBounds_toArray, set_cons_zero, set_cons_succ]
             refine wpAnyH_ready (rs := [18]) (by kernel_rfl) (by simp) ?_
             refine AllReadyH.cons (o := { dst := none, op := Op.store 24 (Operand.tmp 15) (Operand.tmp 71), type := 0, pos := "more.go:30", after := #[{ on := 16, ground := Ground.data }, { on := 14, ground := Ground.data }, { on := 17, ground := Ground.chain }, { on := 0, ground := Ground.phase }, { on := 1, ground := Ground.phase }, { on := 2, ground := Ground.phase }, { on := 3, ground := Ground.phase }, { on := 4, ground := Ground.phase }, { on := 5, ground := Ground.phase }, { on := 6, ground := Ground.phase }, { on := 7, ground := Ground.phase }, { on := 8, ground := Ground.phase }, { on := 9, ground := Ground.phase }, { on := 10, ground := Ground.phase }, { on := 11, ground := Ground.phase }, { on := 12, ground := Ground.phase }, { on := 13, ground := Ground.phase }, { on := 14, ground := Ground.phase }, { on := 15, ground := Ground.textOnly Departure.lateStores }, { on := 16, ground := Ground.phase }, { on := 17, ground := Ground.phase }], guard := none }) rfl (fun K hK => ?_) ?_
             ·
              go_simp
              refine hK.out _ _ (by trivial) (fun hHeld => ?_)
              clear hK K
              try simp only [Act.put, setIfInBounds_toArray, set_cons_zero, set_cons_succ]
              refine wpAnyH_take (i := 19) (oi := { dst := some 16, op := Op.assign (Operand.tmp 72), type := 26, pos := "more.go:30", after := #[{ on := 15, ground := Ground.data }, { on := 18, ground := Ground.chain }, { on := 0, ground := Ground.phase }, { on := 1, ground := Ground.phase }, { on := 2, ground := Ground.phase }, { on := 3, ground := Ground.phase }, { on := 4, ground := Ground.phase }, { on := 5, ground := Ground.phase }, { on := 6, ground := Ground.phase }, { on := 7, ground := Ground.phase }, { on := 8, ground := Ground.phase }, { on := 9, ground := Ground.phase }, { on := 10, ground := Ground.phase }, { on := 11, ground := Ground.phase }, { on := 12, ground := Ground.phase }, { on := 13, ground := Ground.phase }, { on := 14, ground := Ground.phase }, { on := 15, ground := Ground.phase }, { on := 16, ground := Ground.phase }, { on := 17, ground := Ground.phase }, { on := 18, ground := Ground.phase }], guard := none }) (v := ?_) rfl (by kernel_rfl) (by kernel_rfl) (by kernel_rfl) (fun _ _ _ h => h) (Or.inl ⟨by rfl, ?_⟩) (by assumption) ?_
              rotate_left
              · (intro w hSw; (try dsimp only at hSw); go_simp; all_goals with_reducible rfl)
              try simp only [Act.put, setIfInBounds_toArray, set_cons_zero, set_cons_succ]
              refine wpAnyH_done (by kernel_rfl) ?_ _
              refine NoPanic.normal ?_
              go_wp2_with fail
              go_meet
              refine ⟨rfl, rfl, ?_⟩
              exact ⟨_, rfl, set6 hKB.bel hKB.le, res6 hR (.int .i64 0) (.int .i64 0) (.int .i64 0) (.int .i64 0) (.int .i64 0) (.slice none 0 0)⟩
             exact AllReadyH.nil
            exact AllReadyH.nil
           exact AllReadyH.nil
          exact AllReadyH.nil
         refine AllReadyH.cons (o := { dst := some 15, op := Op.alloc 24, type := 0, pos := "more.go:30", after := #[], guard := none }) rfl (fun K hK => ?_) ?_
         ·
          go_simp
          refine hK.out _ _ (by trivial) (fun hHeld => ?_)
          clear hK K
          try simp only [Act.put, setIfInBounds_toArray, set_cons_zero, set_cons_succ]
          refine wpAnyH_ready (rs := [6]) (by kernel_rfl) (by simp) ?_
          refine AllReadyH.cons (o := { dst := some 64, op := Op.buildSlice 41 2 #[(0, Operand.tmp 61), (1, Operand.tmp 63)], type := 41, pos := "more.go:30", after := #[{ on := 3, ground := Ground.data }, { on := 5, ground := Ground.data }], guard := none }) rfl (fun K hK => ?_) ?_
          ·
           go_simp
           refine hK.out _ _ (by trivial) (fun hHeld => ?_)
           clear hK K
           try simp only [Act.put, setIfInBounds_toArray, set_cons_zero, set_cons_succ]
           refine wpAnyH_take (i := 9) (oi := { dst := some 67, op := Op.indexAddr 41 (Operand.tmp 64) (Operand.tmp 66), type := 0, pos := "more.go:30", after := #[{ on := 6, ground := Ground.data }, { on := 8, ground := Ground.data }], guard := none }) (v := ?_) rfl (by kernel_rfl) (by kernel_rfl) (by kernel_rfl) (fun _ _ _ h => h) (Or.inl ⟨by rfl, ?_⟩) (by assumption) ?_
           rotate_left
           · (intro w hSw; (try dsimp only at hSw); go_simp; all_goals with_reducible rfl)
           try simp only [Act.put, setIfInBounds_toArray, set_cons_zero, set_cons_succ]
           refine wpAnyH_ready (rs := [10]) (by kernel_rfl) (by simp) ?_
           refine AllReadyH.cons (o := { dst := some 68, op := Op.load 3 (Operand.tmp 67), type := 3, pos := "more.go:30", after := #[{ on := 9, ground := Ground.data }], guard := none }) rfl (fun K hK => ?_) ?_
           ·
            go_simp
            refine hK.out _ _ (by trivial) (fun hHeld => ?_)
            clear hK K
            try simp only [Act.put, setIfInBounds_toArray, set_cons_zero, set_cons_succ]
            refine wpAnyH_ready (rs := [11]) (by kernel_rfl) (by simp) ?_
            refine AllReadyH.cons (o := { dst := some 69, op := Op.call { callee := Callee.value (Operand.func 12), args := #[Operand.tmp 58, Operand.tmp 59, Operand.tmp 68], argTypes := #[9, 24, 3] }, type := 27, pos := "more.go:30", after := #[{ on := 0, ground := Ground.data }, { on := 1, ground := Ground.data }, { on := 10, ground := Ground.data }, { on := 0, ground := Ground.chain }], guard := none }) rfl (fun K hK => ?_) ?_
            ·
             go_simp
             go_at_call 12
             refine (HZ.out _ (by omega) _).mono ?_
             rintro e w5 ⟨rfl, hb5⟩
             have hKB := KB.call (KB.alloc (KB.new hK1) _) hb5
             have hR := hKB.box
             clear hb5
             refine hK.out _ _ (by trivial) (fun hHeld => ?_)
             clear hK K
             try simp only [Act.put, setIfInBounds_toArray, set_cons_zero, set_cons_succ]
             refine wpAnyH_take (i := 12) (oi := { dst := some 57, op := Op.move (Operand.tmp 69), type := 27, pos := "more.go:30", after := #[{ on := 11, ground := Ground.data }], guard := none }) (v := ?_) rfl (by kernel_rfl) (by kernel_rfl) (by kernel_rfl) (fun _ _ _ h => h) (Or.inl ⟨by rfl, ?_⟩) (by assumption) ?_
             rotate_left
             · (intro w hSw; (try dsimp only at hSw); go_simp; all_goals with_reducible rfl)
             try simp only [Act.put, setIfInBounds_toArray, set_cons_zero, set_cons_succ]
             refine wpAnyH_take (i := 13) (oi := { dst := some 70, op := Op.extract (Operand.tmp 57) 0, type := 9, pos := "more.go:30", after := #[{ on := 12, ground := Ground.data }], guard := none }) (v := ?_) rfl (by kernel_rfl) (by kernel_rfl) (by kernel_rfl) (fun _ _ _ h => h) (Or.inl ⟨by rfl, ?_⟩) (by assumption) ?_
             rotate_left
             · (intro w hSw; (try dsimp only at hSw); go_simp; all_goals with_reducible rfl)
             try simp only [Act.put, setIfInBounds_toArray, set_cons_zero, set_cons_succ]
             refine wpAnyH_take (i := 14) (oi := { dst := some 71, op := Op.extract (Operand.tmp 57) 1, type := 24, pos := "more.go:30", after := #[{ on := 12, ground := Ground.data }, { on := 17, ground := Ground.gcOnly Departure.lateStores }], guard := none }) (v := ?_) rfl (by kernel_rfl) (by kernel_rfl) (by kernel_rfl) (fun _ _ _ h => h) (Or.inl ⟨by rfl, ?_⟩) (by assumption) ?_
             rotate_left
             · (intro w hSw; (try dsimp only at hSw); go_simp; all_goals with_reducible rfl)
             try simp only [Act.put, setIfInBounds_toArray, set_cons_zero, set_cons_succ]
             refine wpAnyH_take (i := 15) (oi := { dst := some 72, op := Op.extract (Operand.tmp 57) 2, type := 26, pos := "more.go:30", after := #[{ on := 12, ground := Ground.data }, { on := 18, ground := Ground.gcOnly Departure.lateStores }], guard := none }) (v := ?_) rfl (by kernel_rfl) (by kernel_rfl) (by kernel_rfl) (fun _ _ _ h => h) (Or.inl ⟨by rfl, ?_⟩) (by assumption) ?_
             rotate_left
             · (intro w hSw; (try dsimp only at hSw); go_simp; all_goals with_reducible rfl)
             try simp only [Act.put, setIfInBounds_toArray, set_cons_zero, set_cons_succ]
             refine wpAnyH_take (i := 17) (oi := { dst := some 14, op := Op.assign (Operand.tmp 70), type := 9, pos := "more.go:30", after := #[{ on := 13, ground := Ground.data }, { on := 11, ground := Ground.chain }, { on := 0, ground := Ground.phase }, { on := 1, ground := Ground.phase }, { on := 2, ground := Ground.phase }, { on := 3, ground := Ground.phase }, { on := 4, ground := Ground.phase }, { on := 5, ground := Ground.phase }, { on := 6, ground := Ground.phase }, { on := 7, ground := Ground.phase }, { on := 8, ground := Ground.phase }, { on := 9, ground := Ground.phase }, { on := 10, ground := Ground.phase }, { on := 11, ground := Ground.phase }, { on := 12, ground := Ground.phase }, { on := 13, ground := Ground.phase }, { on := 14, ground := Ground.textOnly Departure.lateStores }, { on := 15, ground := Ground.textOnly Departure.lateStores }, { on := 16, ground := Ground.phase }], guard := none }) (v := ?_) rfl (by kernel_rfl) (by kernel_rfl) (by kernel_rfl) (fun _ _ _ h => h) (Or.inl ⟨by rfl, ?_⟩) (by assumption) ?_
             rotate_left
             · (intro w hSw; (try dsimp only at hSw); go_simp; all_goals with_reducible rfl)
             try simp only [Act.put, setIfInBounds_toArray, set_cons_zero, set_cons_succ]
             refine wpAnyH_ready (rs := [18]) (by kernel_rfl) (by simp) ?_
             refine AllReadyH.cons (o := { dst := none, op := Op.store 24 (Operand.tmp 15) (Operand.tmp 71), type := 0, pos := "more.go:30", after := #[{ on := 16, ground := Ground.data }, { on := 14, ground := Ground.data }, { on := 17, ground := Ground.chain }, { on := 0, ground := Ground.phase }, { on := 1, ground := Ground.phase }, { on := 2, ground := Ground.phase }, { on := 3, ground := Ground.phase }, { on := 4, ground := Ground.phase }, { on := 5, ground := Ground.phase }, { on := 6, ground := Ground.phase }, { on := 7, ground := Ground.phase }, { on := 8, ground := Ground.phase }, { on := 9, ground := Ground.phase }, { on := 10, ground := Ground.phase }, { on := 11, ground := Ground.phase }, { on := 12, ground := Ground.phase }, { on := 13, ground := Ground.phase }, { on := 14, ground := Ground.phase }, { on := 15, ground := Ground.textOnly Departure.lateStores }, { on := 16, ground := Ground.phase }, { on := 17, ground := Ground.phase }], guard := none }) rfl (fun K hK => ?_) ?_
             ·
              go_simp
              refine hK.out _ _ (by trivial) (fun hHeld => ?_)
              clear hK K
              try simp only [Act.put, setIfInBounds_toArray, set_cons_zero, set_cons_succ]
              refine wpAnyH_take (i := 19) (oi := { dst := some 16, op := Op.assign (Operand.tmp 72), type := 26, pos := "more.go:30", after := #[{ on := 15, ground := Ground.data }, { on := 18, ground := Ground.chain }, { on := 0, ground := Ground.phase }, { on := 1, ground := Ground.phase }, { on := 2, ground := Ground.phase }, { on := 3, ground := Ground.phase }, { on := 4, ground := Ground.phase }, { on := 5, ground := Ground.phase }, { on := 6, ground := Ground.phase }, { on := 7, ground := Ground.phase }, { on := 8, ground := Ground.phase }, { on := 9, ground := Ground.phase }, { on := 10, ground := Ground.phase }, { on := 11, ground := Ground.phase }, { on := 12, ground := Ground.phase }, { on := 13, ground := Ground.phase }, { on := 14, ground := Ground.phase }, { on := 15, ground := Ground.phase }, { on := 16, ground := Ground.phase }, { on := 17, ground := Ground.phase }, { on := 18, ground := Ground.phase }], guard := none }) (v := ?_) rfl (by kernel_rfl) (by kernel_rfl) (by kernel_rfl) (fun _ _ _ h => h) (Or.inl ⟨by rfl, ?_⟩) (by assumption) ?_
              rotate_left
              · (intro w hSw; (try dsimp only at hSw); go_simp; all_goals with_reducible rfl)
              try simp only [Act.put, setIfInBounds_toArray, set_cons_zero, set_cons_succ]
              refine wpAnyH_done (by kernel_rfl) ?_ _
              refine NoPanic.normal ?_
              go_wp2_with fail
              go_meet
              refine ⟨rfl, rfl, ?_⟩
              exact ⟨_, rfl, set6 hKB.bel hKB.le, res6 hR (.int .i64 0) (.int .i64 0) (.int .i64 0) (.int .i64 0) (.int .i64 0) (.slice none 0 0)⟩
             exact AllReadyH.nil
            exact AllReadyH.nil
           exact AllReadyH.nil
          exact AllReadyH.nil
         exact AllReadyH.nil
        refine AllReadyH.cons (o := { dst := some 64, op := Op.buildSlice 41 2 #[(0, Operand.tmp 61), (1, Operand.tmp 63)], type := 41, pos := "more.go:30", after := #[{ on := 3, ground := Ground.data }, { on := 5, ground := Ground.data }], guard := none }) rfl (fun K hK => ?_) ?_
        ·
         go_simp
         refine hK.out _ _ (by trivial) (fun hHeld => ?_)
         clear hK K
         try simp only [Act.put, setIfInBounds_toArray, set_cons_zero, set_cons_succ]
         refine wpAnyH_take (i := 9) (oi := { dst := some 67, op := Op.indexAddr 41 (Operand.tmp 64) (Operand.tmp 66), type := 0, pos := "more.go:30", after := #[{ on := 6, ground := Ground.data }, { on := 8, ground := Ground.data }], guard := none }) (v := ?_) rfl (by kernel_rfl) (by kernel_rfl) (by kernel_rfl) (fun _ _ _ h => h) (Or.inl ⟨by rfl, ?_⟩) (by assumption) ?_
         rotate_left
         · (intro w hSw; (try dsimp only at hSw); go_simp; all_goals with_reducible rfl)
         try simp only [Act.put, setIfInBounds_toArray, set_cons_zero, set_cons_succ]
         refine wpAnyH_ready (rs := [0, 10, 16]) (by kernel_rfl) (by simp) ?_
         refine AllReadyH.cons (o := { dst := some 58, op := Op.call { callee := Callee.value (Operand.func 18), args := #[], argTypes := #[] }, type := 9, pos := "more.go:30", after := #[], guard := none }) rfl (fun K hK => ?_) ?_
         ·
          go_simp
          go_at_call 18
          refine (C1.out _).mono ?_
          rintro e w4 ⟨rfl, hb4⟩
          have hL := two_call (two_drew (two_new W3 _ _ _)) hb4
          have hK1 := K0.call (K0.drew (K0.alloc hT _)) hb4
          clear hb4
          refine hK.out _ _ (by trivial) (fun hHeld => ?_)
          clear hK K
          try simp only [Act.put, setIfInBounds_toArray, set_cons_zero, set_cons_succ]
          refine wpAnyH_ready (rs := [10, 16]) (by kernel_rfl) (by simp) ?_
          refine AllReadyH.cons (o := { dst := some 68, op := Op.load 3 (Operand.tmp 67), type := 3, pos := "more.go:30", after := #[{ on := 9, ground := Ground.data }], guard := none }) rfl (fun K hK => ?_) ?_
          ·
           go_simp
           refine hK.out _ _ (by trivial) (fun hHeld => ?_)
           clear hK K
           try simp only [Act.put, setIfInBounds_toArray, set_cons_zero, set_cons_succ]
           refine wpAnyH_ready (rs := [11, 16]) (by kernel_rfl) (by simp) ?_
           refine AllReadyH.cons (o := { dst := some 69, op := Op.call { callee := Callee.value (Operand.func 12), args := #[Operand.tmp 58, Operand.tmp 59, Operand.tmp 68], argTypes := #[9, 24, 3] }, type := 27, pos := "more.go:30", after := #[{ on := 0, ground := Ground.data }, { on := 1, ground := Ground.data }, { on := 10, ground := Ground.data }, { on := 0, ground := Ground.chain }], guard := none }) rfl (fun K hK => ?_) ?_
           ·
            go_simp
            go_at_call 12
            refine (HZ.out _ (by omega) _).mono ?_
            rintro e w5 ⟨rfl, hb5⟩
            replace hK1 := K0.call hK1 hb5
            clear hb5 hL
            refine hK.out _ _ (by trivial) (fun hHeld => ?_)
            clear hK K
            try simp only [Act.put, setIfInBounds_toArray, set_cons_zero, set_cons_succ]
            refine wpAnyH_take (i := 12) (oi := { dst := some 57, op := Op.move (Operand.tmp 69), type := 27, pos := "more.go:30", after := #[{ on := 11, ground := Ground.data }], guard := none }) (v := ?_) rfl (by kernel_rfl) (by kernel_rfl) (by kernel_rfl) (fun _ _ _ h => h) (Or.inl ⟨by rfl, ?_⟩) (by assumption) ?_
            rotate_left
            · (intro w hSw; (try dsimp only at hSw); go_simp; all_goals with_reducible rfl)
            try simp only [Act.put, setIfInBounds_toArray, set_cons_zero, set_cons_succ]
            refine wpAnyH_take (i := 13) (oi := { dst := some 70, op := Op.extract (Operand.tmp 57) 0, type := 9, pos := "more.go:30", after := #[{ on := 12, ground := Ground.data }], guard := none }) (v := ?_) rfl (by kernel_rfl) (by kernel_rfl) (by kernel_rfl) (fun _ _ _ h => h) (Or.inl ⟨by rfl, ?_⟩) (by assumption) ?_
            rotate_left
            · (intro w hSw; (try dsimp only at hSw); go_simp; all_goals with_reducible rfl)
            try simp only [Act.put, setIfInBounds_toArray, set_cons_zero, set_cons_succ]
            refine wpAnyH_take (i := 14) (oi := { dst := some 71, op := Op.extract (Operand.tmp 57) 1, type := 24, pos := "more.go:30", after := #[{ on := 12, ground := Ground.data }, { on := 17, ground := Ground.gcOnly Departure.lateStores }], guard := none }) (v := ?_) rfl (by kernel_rfl) (by kernel_rfl) (by kernel_rfl) (fun _ _ _ h => h) (Or.inl ⟨by rfl, ?_⟩) (by assumption) ?_
            rotate_left
            · (intro w hSw; (try dsimp only at hSw); go_simp; all_goals with_reducible rfl)
            try simp only [Act.put, setIfInBounds_toArray, set_cons_zero, set_cons_succ]
            refine wpAnyH_take (i := 15) (oi := { dst := some 72, op := Op.extract (Operand.tmp 57) 2, type := 26, pos := "more.go:30", after := #[{ on := 12, ground := Ground.data }, { on := 18, ground := Ground.gcOnly Departure.lateStores }], guard := none }) (v := ?_) rfl (by kernel_rfl) (by kernel_rfl) (by kernel_rfl) (fun _ _ _ h => h) (Or.inl ⟨by rfl, ?_⟩) (by assumption) ?_
            rotate_left
            · (intro w hSw; (try dsimp only at hSw); go_simp; all_goals with_reducible rfl)
            try simp only [Act.put, setIfInBounds_toArray, set_cons_zero, set_cons_succ]
            refine wpAnyH_ready (rs := [16]) (by kernel_rfl) (by simp) ?_
            refine AllReadyH.cons (o := { dst := some 15, op := Op.alloc 24, type := 0, pos := "more.go:30", after := #[], guard := none }) rfl (fun K hK => ?_) ?_
            ·
             go_simp
             refine hK.out _ _ (by trivial) (fun hHeld => ?_)
             clear hK K
             try simp only [Act.put, setIfInBounds_toArray, set_cons_zero, set_cons_succ]
             refine wpAnyH_take (i := 17) (oi := { dst := some 14, op := Op.assign (Operand.tmp 70), type := 9, pos := "more.go:30", after := #[{ on := 13, ground := Ground.data }, { on := 11, ground := Ground.chain }, { on := 0, ground := Ground.phase }, { on := 1, ground := Ground.phase }, { on := 2, ground := Ground.phase }, { on := 3, ground := Ground.phase }, { on := 4, ground := Ground.phase }, { on := 5, ground := Ground.phase }, { on := 6, ground := Ground.phase }, { on := 7, ground := Ground.phase }, { on := 8, ground := Ground.phase }, { on := 9, ground := Ground.phase }, { on := 10, ground := Ground.phase }, { on := 11, ground := Ground.phase }, { on := 12, ground := Ground.phase }, { on := 13, ground := Ground.phase }, { on := 14, ground := Ground.textOnly Departure.lateStores }, { on := 15, ground := Ground.textOnly Departure.lateStores }, { on := 16, ground := Ground.phase }], guard := none }) (v := ?_) rfl (by kernel_rfl) (by kernel_rfl) (by kernel_rfl) (fun _ _ _ h => h) (Or.inl ⟨by rfl, ?_⟩) (by assumption) ?_
             rotate_left
             · (intro w hSw; (try dsimp only at hSw); go_simp; all_goals with_reducible rfl)
             try simp only [Act.put, setIfInBounds_toArray, set_cons_zero, set_cons_succ]
             refine wpAnyH_ready (rs := [18]) (by kernel_rfl) (by simp) ?_
             refine AllReadyH.cons (o := { dst := none, op := Op.store 24 (Operand.tmp 15) (Operand.tmp 71), type := 0, pos := "more.go:30", after := #[{ on := 16, ground := Ground.data }, { on := 14, ground := Ground.data }, { on := 17, ground := Ground.chain }, { on := 0, ground := Ground.phase }, { on := 1, ground := Ground.phase }, { on := 2, ground := Ground.phase }, { on := 3, ground := Ground.phase }, { on := 4, ground := Ground.phase }, { on := 5, ground := Ground.phase }, { on := 6, ground := Ground.phase }, { on := 7, ground := Ground.phase }, { on := 8, ground := Ground.phase }, { on := 9, ground := Ground.phase }, { on := 10, ground := Ground.phase }, { on := 11, ground := Ground.phase }, { on := 12, ground := Ground.phase }, { on := 13, ground := Ground.phase }, { on := 14, ground := Ground.phase }, { on := 15, ground := Ground.textOnly Departure.lateStores }, { on := 16, ground := Ground.phase }, { on := 17, ground := Ground.phase }], guard := none }) rfl (fun K hK => ?_) ?_
             ·
              go_simp
              refine hK.out _ _ (by trivial) (fun hHeld => ?_)
              clear hK K
              try simp only [Act.put, setIfInBounds_toArray, set_cons_zero, set_cons_succ]
              refine wpAnyH_take (i := 19) (oi := { dst := some 16, op := Op.assign (Operand.tmp 72), type := 26, pos := "more.go:30", after := #[{ on := 15, ground := Ground.data }, { on := 18, ground := Ground.chain }, { on := 0, ground := Ground.phase }, { on := 1, ground := Ground.phase }, { on := 2, ground := Ground.phase }, { on := 3, ground := Ground.phase }, { on := 4, ground := Ground.phase }, { on := 5, ground := Ground.phase }, { on := 6, ground := Ground.phase }, { on := 7, ground := Ground.phase }, { on := 8, ground := Ground.phase }, { on := 9, ground := Ground.phase }, { on := 10, ground := Ground.phase }, { on := 11, ground := Ground.phase }, { on := 12, ground := Ground.phase }, { on := 13, ground := Ground.phase }, { on := 14, ground := Ground.phase }, { on := 15, ground := Ground.phase }, { on := 16, ground := Ground.phase }, { on := 17, ground := Ground.phase }, { on := 18, ground := Ground.phase }], guard := none }) (v := ?_) rfl (by kernel_rfl) (by kernel_rfl) (by kernel_rfl) (fun _ _ _ h => h) (Or.inl ⟨by rfl, ?_⟩) (by assumption) ?_
              rotate_left
              · (intro w hSw; (try dsimp only at hSw); go_simp; all_goals with_reducible rfl)
              try simp only [Act.put, setIfInBounds_toArray, set_cons_zero, set_cons_succ]
              refine wpAnyH_done (by kernel_rfl) ?_ _
              refine NoPanic.normal ?_
              go_wp2_with fail
              go_meet
              refine ⟨rfl, rfl, ?_⟩
              exact ⟨_, rfl, K0.alloc hK1 _, resM _ (.int .i64 0) (.int .i64 0) (.int .i64 0) (.int .i64 0) (.int .i64 0) (.slice none 0 0) 24⟩
             exact AllReadyH.nil
            exact AllReadyH.nil
           refine AllReadyH.cons (o := { dst := some 15, op := Op.alloc 24, type := 0, pos := "more.go:30", after := #[], guard := none }) rfl (fun K hK => ?_) ?_
           ·
            go_simp
            refine hK.out _ _ (by trivial) (fun hHeld => ?_)
            clear hK K
            try simp only [Act.put, setIfInBounds_toArray, set_cons_zero, set_cons_succ]
            refine wpAnyH_ready (rs := [11]) (by kernel_rfl) (by simp) ?_
            refine AllReadyH.cons (o := { dst := some 69, op := Op.call { callee := Callee.value (Operand.func 12), args := #[Operand.tmp 58, Operand.tmp 59, Operand.tmp 68], argTypes := #[9, 24, 3] }, type := 27, pos := "more.go:30", after := #[{ on := 0, ground := Ground.data }, { on := 1, ground := Ground.data }, { on := 10, ground := Ground.data }, { on := 0, ground := Ground.chain }], guard := none }) rfl (fun K hK => ?_) ?_
            ·
             go_simp
             go_at_call 12
             refine (HZ.out _ (by omega) _).mono ?_
             rintro e w5 ⟨rfl, hb5⟩
             have hKB := KB.call (KB.new hK1) hb5
             have hR := hKB.box
             clear hb5 hL
             refine hK.out _ _ (by trivial) (fun hHeld => ?_)
             clear hK K
             try simp only [Act.put, setIfInBounds_toArray, set_cons_zero, set_cons_succ]
             refine wpAnyH_take (i := 12) (oi := { dst := some 57, op := Op.move (Operand.tmp 69), type := 27, pos := "more.go:30", after := #[{ on := 11, ground := Ground.data }], guard := none }) (v := ?_) rfl (by kernel_rfl) (by kernel_rfl) (by kernel_rfl) (fun _ _ _ h => h) (Or.inl ⟨by rfl, ?_⟩) (by assumption) ?_
             rotate_left
             · (intro w hSw; (try dsimp only at hSw); go_simp; all_goals with_reducible rfl)
             try simp only [Act.put, setIfInBounds_toArray, set_cons_zero, set_cons_succ]
             refine wpAnyH_take (i := 13) (oi := { dst := some 70, op := Op.extract (Operand.tmp 57) 0, type := 9, pos := "more.go:30", after := #[{ on := 12, ground := Ground.data }], guard := none }) (v := ?_) rfl (by kernel_rfl) (by kernel_rfl) (by kernel_rfl) (fun _ _ _ h => h) (Or.inl ⟨by rfl, ?_⟩) (by assumption) ?_
             rotate_left
             · (intro w hSw; (try dsimp only at hSw); go_simp; all_goals with_reducible rfl)
             try simp only [Act.put, setIfInBounds_toArray, set_cons_zero, set_cons_succ]
             refine wpAnyH_take (i := 14) (oi := { dst := some 71, op := Op.extract (Operand.tmp 57) 1, type := 24, pos := "more.go:30", after := #[{ on := 12, ground := Ground.data }, { on := 17, ground := Ground.gcOnly Departure.lateStores }], guard := none }) (v := ?_) rfl (by kernel_rfl) (by kernel_rfl) (by kernel_rfl) (fun _ _ _ h => h) (Or.inl ⟨by rfl, ?_⟩) (by assumption) ?_
             rotate_left
             · (intro w hSw; (try dsimp only at hSw); go_simp; all_goals with_reducible rfl)
             try simp only [Act.put, setIfInBounds_toArray, set_cons_zero, set_cons_succ]
             refine wpAnyH_take (i := 15) (oi := { dst := some 72, op := Op.extract (Operand.tmp 57) 2, type := 26, pos := "more.go:30", after := #[{ on := 12, ground := Ground.data }, { on := 18, ground := Ground.gcOnly Departure.lateStores }], guard := none }) (v := ?_) rfl (by kernel_rfl) (by kernel_rfl) (by kernel_rfl) (fun _ _ _ h => h) (Or.inl ⟨by rfl, ?_⟩) (by assumption) ?_
             rotate_left
             · (intro w hSw; (try dsimp only at hSw); go_simp; all_goals with_reducible rfl)
             try simp only [Act.put, setIfInBounds_toArray, set_cons_zero, set_cons_succ]
             refine wpAnyH_take (i := 17) (oi := { dst := some 14, op := Op.assign (Operand.tmp 70), type := 9, pos := "more.go:30", after := #[{ on := 13, ground := Ground.data }, { on := 11, ground := Ground.chain }, { on := 0, ground := Ground.phase }, { on := 1, ground := Ground.phase }, { on := 2, ground := Ground.phase }, { on := 3, ground := Ground.phase }, { on := 4, ground := Ground.phase }, { on := 5, ground := Ground.phase }, { on := 6, ground := Ground.phase }, { on := 7, ground := Ground.phase }, { on := 8, ground := Ground.phase }, { on := 9, ground := Ground.phase }, { on := 10, ground := Ground.phase }, { on := 11, ground := Ground.phase }, { on := 12, ground := Ground.phase }, { on := 13, ground := Ground.phase }, { on := 14, ground := Ground.textOnly Departure.lateStores }, { on := 15, ground := Ground.textOnly Departure.lateStores }, { on := 16, ground := Ground.phase }], guard := none }) (v := ?_) rfl (by kernel_rfl) (by kernel_rfl) (by kernel_rfl) (fun _ _ _ h => h) (Or.inl ⟨by rfl, ?_⟩) (by assumption) ?_
             rotate_left
             · (intro w hSw; (try dsimp only at hSw); go_simp; all_goals with_reducible rfl)
             try simp only [Act.put, setIfInBounds_toArray, set_cons_zero, set_cons_succ]
             refine wpAnyH_ready (rs := [18]) (by kernel_rfl) (by simp) ?_
             refine AllReadyH.cons (o := { dst := none, op := Op.store 24 (Operand.tmp 15) (Operand.tmp 71), type := 0, pos := "more.go:30", after := #[{ on := 16, ground := Ground.data }, { on := 14, ground := Ground.data }, { on := 17, ground := Ground.chain }, { on := 0, ground := Ground.phase }, { on := 1, ground := Ground.phase }, { on := 2, ground := Ground.phase }, { on := 3, ground := Ground.phase }, { on := 4, ground := Ground.phase }, { on := 5, ground := Ground.phase }, { on := 6, ground := Ground.phase }, { on := 7, ground := Ground.phase }, { on := 8, ground := Ground.phase }, { on := 9, ground := Ground.phase }, { on := 10, ground := Ground.phase }, { on := 11, ground := Ground.phase }, { on := 12, ground := Ground.phase }, { on := 13, ground := Ground.phase }, { on := 14, ground := Ground.phase }, { on := 15, ground := Ground.textOnly Departure.lateStores }, { on := 16, ground := Ground.phase }, { on := 17, ground := Ground.phase }], guard := none }) rfl (fun K hK => ?_) ?_
             ·
              go_simp
              refine hK.out _ _ (by trivial) (fun hHeld => ?_)
              clear hK K
              try simp only [Act.put, setIfInBounds_toArray, set_cons_zero, set_cons_succ]
              refine wpAnyH_take (i := 19) (oi := { dst := some 16, op := Op.assign (Operand.tmp 72), type := 26, pos := "more.go:30", after := #[{ on := 15, ground := Ground.data }, { on := 18, ground := Ground.chain }, { on := 0, ground := Ground.phase }, { on := 1, ground := Ground.phase }, { on := 2, ground := Ground.phase }, { on := 3, ground := Ground.phase }, { on := 4, ground := Ground.phase }, { on := 5, ground := Ground.phase }, { on := 6, ground := Ground.phase }, { on := 7, ground := Ground.phase }, { on := 8, ground := Ground.phase }, { on := 9, ground := Ground.phase }, { on := 10, ground := Ground.phase }, { on := 11, ground := Ground.phase }, { on := 12, ground := Ground.phase }, { on := 13, ground := Ground.phase }, { on := 14, ground := Ground.phase }, { on := 15, ground := Ground.phase }, { on := 16, ground := Ground.phase }, { on := 17, ground := Ground.phase }, { on := 18, ground := Ground.phase }], guard := none }) (v := ?_) rfl (by kernel_rfl) (by kernel_rfl) (by kernel_rfl) (fun _ _ _ h => h) (Or.inl ⟨by rfl, ?_⟩) (by assumption) ?_
              rotate_left
              · (intro w hSw; (try dsimp only at hSw); go_simp; all_goals with_reducible rfl)
              try simp only [Act.put, setIfInBounds_toArray, set_cons_zero, set_cons_succ]
              refine wpAnyH_done (by kernel_rfl) ?_ _
              refine NoPanic.normal ?_
              go_wp2_with fail
              go_meet
              refine ⟨rfl, rfl, ?_⟩
              exact ⟨_, rfl, set6 hKB.bel hKB.le, res6 hR (.int .i64 0) (.int .i64 0) (.int .i64 0) (.int .i64 0) (.int .i64 0) (.slice none 0 0)⟩
             exact AllReadyH.nil
            exact AllReadyH.nil
           exact AllReadyH.nil
          refine AllReadyH.cons (o := { dst := some 15, op := Op.alloc 24, type := 0, pos := "more.go:30", after := #[], guard := none }) rfl (fun K hK => ?_) ?_
          ·
           go_simp
           refine hK.out _ _ (by trivial) (fun hHeld => ?_)
           clear hK K
           try simp only [Act.put, setIfInBounds_toArray, set_cons_zero, set_cons_succ]
           refine wpAnyH_ready (rs := [10]) (by kernel_rfl) (by simp) ?_
           refine AllReadyH.cons (o := { dst := some 68, op := Op.load 3 (Operand.tmp 67), type := 3, pos := "more.go:30", after := #[{ on := 9, ground := Ground.data }], guard := none }) rfl (fun K hK => ?_) ?_
           ·
            go_simp
            refine hK.out _ _ (by trivial) (fun hHeld => ?_)
            clear hK K
            try simp only [Act.put, setIfInBounds_toArray, set_cons_zero, set_cons_succ]
            refine wpAnyH_ready (rs := [11]) (by kernel_rfl) (by simp) ?_
            refine AllReadyH.cons (o := { dst := some 69, op := Op.call { callee := Callee.value (Operand.func 12), args := #[Operand.tmp 58, Operand.tmp 59, Operand.tmp 68], argTypes := #[9, 24, 3] }, type := 27, pos := "more.go:30", after := #[{ on := 0, ground := Ground.data }, { on := 1, ground := Ground.data }, { on := 10, ground := Ground.data }, { on := 0, ground := Ground.chain }], guard := none }) rfl (fun K hK => ?_) ?_
            ·
             go_simp
             go_at_call 12
             refine (HZ.out _ (by omega) _).mono ?_
             rintro e w5 ⟨rfl, hb5⟩
             have hKB := KB.call (KB.new hK1) hb5
             have hR := hKB.box
             clear hb5 hL
             refine hK.out _ _ (by trivial) (fun hHeld => ?_)
             clear hK K
             try simp only [Act.put, setIfInBounds_toArray, set_cons_zero, set_cons_succ]
             refine wpAnyH_take (i := 12) (oi := { dst := some 57, op := Op.move (Operand.tmp 69), type := 27, pos := "more.go:30", after := #[{ on := 11, ground := Ground.data }], guard := none }) (v := ?_) rfl (by kernel_rfl) (by kernel_rfl) (by kernel_rfl) (fun _ _ _ h => h) (Or.inl ⟨by rfl, ?_⟩) (by assumption) ?_
             rotate_left
             · (intro w hSw; (try dsimp only at hSw); go_simp; all_goals with_reducible rfl)
             try simp only [Act.put, setIfInBounds_toArray, set_cons_zero, set_cons_succ]
             refine wpAnyH_take (i := 13) (oi := { dst := some 70, op := Op.extract (Operand.tmp 57) 0, type := 9, pos := "more.go:30", after := #[{ on := 12, ground := Ground.data }], guard := none }) (v := ?_) rfl (by kernel_rfl) (by kernel_rfl) (by kernel_rfl) (fun _ _ _ h => h) (Or.inl ⟨by rfl, ?_⟩) (by assumption) ?_
             rotate_left
             · (intro w hSw; (try dsimp only at hSw); go_simp; all_goals with_reducible rfl)
             try simp only [Act.put, setIfInBounds_toArray, set_cons_zero, set_cons_succ]
             refine wpAnyH_take (i := 14) (oi := { dst := some 71, op := Op.extract (Operand.tmp 57) 1, type := 24, pos := "more.go:30", after := #[{ on := 12, ground := Ground.data }, { on := 17, ground := Ground.gcOnly Departure.lateStores }], guard := none }) (v := ?_) rfl (by kernel_rfl) (by kernel_rfl) (by kernel_rfl) (fun _ _ _ h => h) (Or.inl ⟨by rfl, ?_⟩) (by assumption) ?_
             rotate_left
             · (intro w hSw; (try dsimp only at hSw); go_simp; all_goals with_reducible rfl)
             try simp only [Act.put, setIfInBounds_toArray, set_cons_zero, set_cons_succ]
             refine wpAnyH_take (i := 15) (oi := { dst := some 72, op := Op.extract (Operand.tmp 57) 2, type := 26, pos := "more.go:30", after := #[{ on := 12, ground := Ground.data }, { on := 18, ground := Ground.gcOnly Departure.lateStores }], guard := none }) (v := ?_) rfl (by kernel_rfl) (by kernel_rfl) (by kernel_rfl) (fun _ _ _ h => h) (Or.inl ⟨by rfl, ?_⟩) (by assumption) ?_
             rotate_left
             · (intro w hSw; (try dsimp only at hSw); go_simp; all_goals with_reducible rfl)
             try simp only [Act.put, setIfInBounds_toArray, set_cons_zero, set_cons_succ]
             refine wpAnyH_take (i := 17) (oi := { dst := some 14, op := Op.assign (Operand.tmp 70), type := 9, pos := "more.go:30", after := #[{ on := 13, ground := Ground.data }, { on := 11, ground := Ground.chain }, { on := 0, ground := Ground.phase }, { on := 1, ground := Ground.phase }, { on := 2, ground := Ground.phase }, { on := 3, ground := Ground.phase }, { on := 4, ground := Ground.phase }, { on := 5, ground := Ground.phase }, { on := 6, ground := Ground.phase }, { on := 7, ground := Ground.phase }, { on := 8, ground := Ground.phase }, { on := 9, ground := Ground.phase }, { on := 10, ground := Ground.phase }, { on := 11, ground := Ground.phase }, { on := 12, ground := Ground.phase }, { on := 13, ground := Ground.phase }, { on := 14, ground := Ground.textOnly Departure.lateStores }, { on := 15, ground := Ground.textOnly Departure.lateStores }, { on := 16, ground := Ground.phase }], guard := none }) (v := ?_) rfl (by kernel_rfl) (by kernel_rfl) (by kernel_rfl) (fun _ _ _ h => h) (Or.inl ⟨by rfl, ?_⟩) (by assumption) ?_
             rotate_left
             · (intro w hSw; (try dsimp only at hSw); go_simp; all_goals with_reducible rfl)
             try simp only [Act.put, setIfInBounds_toArray, set_cons_zero, set_cons_succ]
             refine wpAnyH_ready (rs := [18]) (by kernel_rfl) (by simp) ?_
             refine AllReadyH.cons (o := { dst := none, op := Op.store 24 (Operand.tmp 15) (Operand.tmp 71), type := 0, pos := "more.go:30", after := #[{ on := 16, ground := Ground.data }, { on := 14, ground := Ground.data }, { on := 17, ground := Ground.chain }, { on := 0, ground := Ground.phase }, { on := 1, ground := Ground.phase }, { on := 2, ground := Ground.phase }, { on := 3, ground := Ground.phase }, { on := 4, ground := Ground.phase }, { on := 5, ground := Ground.phase }, { on := 6, ground := Ground.phase }, { on := 7, ground := Ground.phase }, { on := 8, ground := Ground.phase }, { on := 9, ground := Ground.phase }, { on := 10, ground := Ground.phase }, { on := 11, ground := Ground.phase }, { on := 12, ground := Ground.phase }, { on := 13, ground := Ground.phase }, { on := 14, ground := Ground.phase }, { on := 15, ground := Ground.textOnly Departure.lateStores }, { on := 16, ground := Ground.phase }, { on := 17, ground := Ground.phase }], guard := none }) rfl (fun K hK => ?_) ?_
             ·
              go_simp
              refine hK.out _ _ (by trivial) (fun hHeld => ?_)
              clear hK K
              try simp only [Act.put, setIfInBounds_toArray, set_cons_zero, set_cons_succ]
              refine wpAnyH_take (i := 19) (oi := { dst := some 16, op := Op.assign (Operand.tmp 72), type := 26, pos := "more.go:30", after := #[{ on := 15, ground := Ground.data }, { on := 18, ground := Ground.chain }, { on := 0, ground := Ground.phase }, { on := 1, ground := Ground.phase }, { on := 2, ground := Ground.phase }, { on := 3, ground := Ground.phase }, { on := 4, ground := Ground.phase }, { on := 5, ground := Ground.phase }, { on := 6, ground := Ground.phase }, { on := 7, ground := Ground.phase }, { on := 8, ground := Ground.phase }, { on := 9, ground := Ground.phase }, { on := 10, ground := Ground.phase }, { on := 11, ground := Ground.phase }, { on := 12, ground := Ground.phase }, { on := 13, ground := Ground.phase }, { on := 14, ground := Ground.phase }, { on := 15, ground := Ground.phase }, { on := 16, ground := Ground.phase }, { on := 17, ground := Ground.phase }, { on := 18, ground := Ground.phase }], guard := none }) (v := ?_) rfl (by kernel_rfl) (by kernel_rfl) (by kernel_rfl) (fun _ _ _ h => h) (Or.inl ⟨by rfl, ?_⟩) (by assumption) ?_
              rotate_left
              · (intro w hSw; (try dsimp only at hSw); go_simp; all_goals with_reducible rfl)
              try simp only [Act.put, setIfInBounds_toArray, set_cons_zero, set_cons_succ]
              refine wpAnyH_done (by kernel_rfl) ?_ _
              refine NoPanic.normal ?_
              go_wp2_with fail
              go_meet
              refine ⟨rfl, rfl, ?_⟩
              exact ⟨_, rfl, set6 hKB.bel hKB.le, res6 hR (.int .i64 0) (.int .i64 0) (.int .i64 0) (.int .i64 0) (.int .i64 0) (.slice none 0 0)⟩
             exact AllReadyH.nil
            exact AllReadyH.nil
           exact AllReadyH.nil
          exact AllReadyH.nil
         refine AllReadyH.cons (o := { dst := some 68, op := Op.load 3 (Operand.tmp 67), type := 3, pos := "more.go:30", after := #[{ on := 9, ground := Ground.data }], guard := none }) rfl (fun K hK => ?_) ?_
         ·
          go_simp
          refine hK.out _ _ (by trivial) (fun hHeld => ?_)
          clear hK K
          try simp only [Act.put, setIfInBounds_toArray, set_cons_zero, set_cons_succ]
          refine wpAnyH_ready (rs := [0, 16]) (by kernel_rfl) (by simp) ?_
          refine AllReadyH.cons (o := { dst := some 58, op := Op.call { callee := Callee.value (Operand.func 18), args := #[], argTypes := #[] }, type := 9, pos := "more.go:30", after := #[], guard := none }) rfl (fun K hK => ?_) ?_
          ·
           go_simp
           go_at_call 18
           refine (C1.out _).mono ?_
           rintro e w4 ⟨rfl, hb4⟩
           have hL := two_call (two_drew (two_new W3 _ _ _)) hb4
           have hK1 := K0.call (K0.drew (K0.alloc hT _)) hb4
           clear hb4
           refine hK.out _ _ (by trivial) (fun hHeld => ?_)
           clear hK K
           try simp only [Act.put, setIfInBounds_toArray, set_cons_zero, set_cons_succ]
           refine wpAnyH_ready (rs := [11, 16]) (by kernel_rfl) (by simp) ?_
           refine AllReadyH.cons (o := { dst := some 69, op := Op.call { callee := Callee.value (Operand.func 12), args := #[Operand.tmp 58, Operand.tmp 59, Operand.tmp 68], argTypes := #[9, 24, 3] }, type := 27, pos := "more.go:30", after := #[{ on := 0, ground := Ground.data }, { on := 1, ground := Ground.data }, { on := 10, ground := Ground.data }, { on := 0, ground := Ground.chain }], guard := none }) rfl (fun K hK => ?_) ?_
           ·
            go_simp
            go_at_call 12
            refine (HZ.out _ (by omega) _).mono ?_
            rintro e w5 ⟨rfl, hb5⟩
            replace hK1 := K0.call hK1 hb5
            clear hb5 hL
            refine hK.out _ _ (by trivial) (fun hHeld => ?_)
            clear hK K
            try simp only [Act.put, setIfInBounds_toArray, set_cons_zero, set_cons_succ]
            refine wpAnyH_take (i := 12) (oi := { dst := some 57, op := Op.move (Operand.tmp 69), type := 27, pos := "more.go:30", after := #[{ on := 11, ground := Ground.data }], guard := none }) (v := ?_) rfl (by kernel_rfl) (by kernel_rfl) (by kernel_rfl) (fun _ _ _ h => h) (Or.inl ⟨by rfl, ?_⟩) (by assumption) ?_
            rotate_left
            · (intro w hSw; (try dsimp only at hSw); go_simp; all_goals with_reducible rfl)
            try simp only [Act.put, setIfInBounds_toArray, set_cons_zero, set_cons_succ]
            refine wpAnyH_take (i := 13) (oi := { dst := some 70, op := Op.extract (Operand.tmp 57) 0, type := 9, pos := "more.go:30", after := #[{ on := 12, ground := Ground.data }], guard := none }) (v := ?_) rfl (by kernel_rfl) (by kernel_rfl) (by kernel_rfl) (fun _ _ _ h => h) (Or.inl ⟨by rfl, ?_⟩) (by assumption) ?_
            rotate_left
            · (intro w hSw; (try dsimp only at hSw); go_simp; all_goals with_reducible rfl)
            try simp only [Act.put, setIfInBounds_toArray, set_cons_zero, set_cons_succ]
            refine wpAnyH_take (i := 14) (oi := { dst := some 71, op := Op.extract (Operand.tmp 57) 1, type := 24, pos := "more.go:30", after := #[{ on := 12, ground := Ground.data }, { on := 17, ground := Ground.gcOnly Departure.lateStores }], guard := none }) (v := ?_) rfl (by kernel_rfl) (by kernel_rfl) (by kernel_rfl) (fun _ _ _ h => h) (Or.inl ⟨by rfl, ?_⟩) (by assumption) ?_
            rotate_left
            · (intro w hSw; (try dsimp only at hSw); go_simp; all_goals with_reducible rfl)
            try simp only [Act.put, setIfInBounds_toArray, set_cons_zero, set_cons_succ]
            refine wpAnyH_take (i := 15) (oi := { dst := some 72, op := Op.extract (Operand.tmp 57) 2, type := 26, pos := "more.go:30", after := #[{ on := 12, ground := Ground.data }, { on := 18, ground := Ground.gcOnly Departure.lateStores }], guard := none }) (v := ?_) rfl (by kernel_rfl) (by kernel_rfl) (by kernel_rfl) (fun _ _ _ h => h) (Or.inl ⟨by rfl, ?_⟩) (by assumption) ?_
            rotate_left
            · (intro w hSw; (try dsimp only at hSw); go_simp; all_goals with_reducible rfl)
            try simp only [Act.put, setIfInBounds_toArray, set_cons_zero, set_cons_succ]
            refine wpAnyH_ready (rs := [16]) (by kernel_rfl) (by simp) ?_
            refine AllReadyH.cons (o := { dst := some 15, op := Op.alloc 24, type := 0, pos := "more.go:30", after := #[], guard := none }) rfl (fun K hK => ?_) ?_
            ·
             go_simp
             refine hK.out _ _ (by trivial) (fun hHeld => ?_)
             clear hK K
             try simp only [Act.put, setIfInBounds_toArray, set_cons_zero, set_cons_succ]
             refine wpAnyH_take (i := 17) (oi := { dst := some 14, op := Op.assign (Operand.tmp 70), type := 9, pos := "more.go:30", after := #[{ on := 13, ground := Ground.data }, { on := 11, ground := Ground.chain }, { on := 0, ground := Ground.phase }, { on := 1, ground := Ground.phase }, { on := 2, ground := Ground.phase }, { on := 3, ground := Ground.phase }, { on := 4, ground := Ground.phase }, { on := 5, ground := Ground.phase }, { on := 6, ground := Ground.phase }, { on := 7, ground := Ground.phase }, { on := 8, ground := Ground.phase }, { on := 9, ground := Ground.phase }, { on := 10, ground := Ground.phase }, { on := 11, ground := Ground.phase }, { on := 12, ground := Ground.phase }, { on := 13, ground := Ground.phase }, { on := 14, ground := Ground.textOnly Departure.lateStores }, { on := 15, ground := Ground.textOnly Departure.lateStores }, { on := 16, ground := Ground.phase }], guard := none }) (v := ?_) rfl (by kernel_rfl) (by kernel_rfl) (by kernel_rfl) (fun _ _ _ h => h) (Or.inl ⟨by rfl, ?_⟩) (by assumption) ?_
             rotate_left
             · (intro w hSw; (try dsimp only at hSw); go_simp; all_goals with_reducible rfl)
             try simp only [Act.put, setIfInBounds_toArray, set_cons_zero, set_cons_succ]
             refine wpAnyH_ready (rs := [18]) (by kernel_rfl) (by simp) ?_
             refine AllReadyH.cons (o := { dst := none, op := Op.store 24 (Operand.tmp 15) (Operand.tmp 71), type := 0, pos := "more.go:30", after := #[{ on := 16, ground := Ground.data }, { on := 14, ground := Ground.data }, { on := 17, ground := Ground.chain }, { on := 0, ground := Ground.phase }, { on := 1, ground := Ground.phase }, { on := 2, ground := Ground.phase }, { on := 3, ground := Ground.phase }, { on := 4, ground := Ground.phase }, { on := 5, ground := Ground.phase }, { on := 6, ground := Ground.phase }, { on := 7, ground := Ground.phase }, { on := 8, ground := Ground.phase }, { on := 9, ground := Ground.phase }, { on := 10, ground := Ground.phase }, { on := 11, ground := Ground.phase }, { on := 12, ground := Ground.phase }, { on := 13, ground := Ground.phase }, { on := 14, ground := Ground.phase }, { on := 15, ground := Ground.textOnly Departure.lateStores }, { on := 16, ground := Ground.phase }, { on := 17, ground := Ground.phase }], guard := none }) rfl (fun K hK => ?_) ?_
             ·
              go_simp
              refine hK.out _ _ (by trivial) (fun hHeld => ?_)
              clear hK K
              try simp only [Act.put, setIfInBounds_toArray, set_cons_zero, set_cons_succ]
              refine wpAnyH_take (i := 19) (oi := { dst := some 16, op := Op.assign (Operand.tmp 72), type := 26, pos := "more.go:30", after := #[{ on := 15, ground := Ground.data }, { on := 18, ground := Ground.chain }, { on := 0, ground := Ground.phase }, { on := 1, ground := Ground.phase }, { on := 2, ground := Ground.phase }, { on := 3, ground := Ground.phase }, { on := 4, ground := Ground.phase }, { on := 5, ground := Ground.phase }, { on := 6, ground := Ground.phase }, { on := 7, ground := Ground.phase }, { on := 8, ground := Ground.phase }, { on := 9, ground := Ground.phase }, { on := 10, ground := Ground.phase }, { on := 11, ground := Ground.phase }, { on := 12, ground := Ground.phase }, { on := 13, ground := Ground.phase }, { on := 14, ground := Ground.phase }, { on := 15, ground := Ground.phase }, { on := 16, ground := Ground.phase }, { on := 17, ground := Ground.phase }, { on := 18, ground := Ground.phase }], guard := none }) (v := ?_) rfl (by kernel_rfl) (by kernel_rfl) (by kernel_rfl) (fun _ _ _ h => h) (Or.inl ⟨by rfl, ?_⟩) (by assumption) ?_
              rotate_left
              · (intro w hSw; (try dsimp only at hSw); go_simp; all_goals with_reducible rfl)
              try simp only [Act.put, setIfInBounds_toArray, set_cons_zero, set_cons_succ]
              refine wpAnyH_done (by kernel_rfl) ?_ _
              refine NoPanic.normal ?_
              go_wp2_with fail
              go_meet
              refine ⟨rfl, rfl, ?_⟩
              exact ⟨_, rfl, K0.alloc hK1 _, resM _ (.int .i64 0) (.int .i64 0) (.int .i64 0) (.int .i64 0) (.int .i64 0) (.slice none 0 0) 24⟩
             exact AllReadyH.nil
            exact AllReadyH.nil
           refine AllReadyH.cons (o := { dst := some 15, op := Op.alloc 24, type := 0, pos := "more.go:30", after := #[], guard := none }) rfl (fun K hK => ?_) ?_
           ·
            go_simp
            refine hK.out _ _ (by trivial) (fun hHeld => ?_)
            clear hK K
            try simp only [Act.put, setIfInBounds_toArray, set_cons_zero, set_cons_succ]
            refine wpAnyH_ready (rs := [11]) (by kernel_rfl) (by simp) ?_
            refine AllReadyH.cons (o := { dst := some 69, op := Op.call { callee := Callee.value (Operand.func 12), args := #[Operand.tmp 58, Operand.tmp 59, Operand.tmp 68], argTypes := #[9, 24, 3] }, type := 27, pos := "more.go:30", after := #[{ on := 0, ground := Ground.data }, { on := 1, ground := Ground.data }, { on := 10, ground := Ground.data }, { on := 0, ground := Ground.chain }], guard := none }) rfl (fun K hK => ?_) ?_
            ·
             go_simp
             go_at_call 12
             refine (HZ.out _ (by omega) _).mono ?_
             rintro e w5 ⟨rfl, hb5⟩
             have hKB := KB.call (KB.new hK1) hb5
             have hR := hKB.box
             clear hb5 hL
             refine hK.out _ _ (by trivial) (fun hHeld => ?_)
             clear hK K
             try simp only [Act.put, setIfInBounds_toArray, set_cons_zero, set_cons_succ]
             refine wpAnyH_take (i := 12) (oi := { dst := some 57, op := Op.move (Operand.tmp 69), type := 27, pos := "more.go:30", after := #[{ on := 11, ground := Ground.data }], guard := none }) (v := ?_) rfl (by kernel_rfl) (by kernel_rfl) (by kernel_rfl) (fun _ _ _ h => h) (Or.inl ⟨by rfl, ?_⟩) (by assumption) ?_
             rotate_left
             · (intro w hSw; (try dsimp only at hSw); go_simp; all_goals with_reducible rfl)
             try simp only [Act.put, setIfInBounds_toArray, set_cons_zero, set_cons_succ]
             refine wpAnyH_take (i := 13) (oi := { dst := some 70, op := Op.extract (Operand.tmp 57) 0, type := 9, pos := "more.go:30", after := #[{ on := 12, ground := Ground.data }], guard := none }) (v := ?_) rfl (by kernel_rfl) (by kernel_rfl) (by kernel_rfl) (fun _ _ _ h => h) (Or.inl ⟨by rfl, ?_⟩) (by assumption) ?_
             rotate_left
             · (intro w hSw; (try dsimp only at hSw); go_simp; all_goals with_reducible rfl)
             try simp only [Act.put, setIfInBounds_toArray, set_cons_zero, set_cons_succ]
             refine wpAnyH_take (i := 14) (oi := { dst := some 71, op := Op.extract (Operand.tmp 57) 1, type := 24, pos := "more.go:30", after := #[{ on := 12, ground := Ground.data }, { on := 17, ground := Ground.gcOnly Departure.lateStores }], guard := none }) (v := ?_) rfl (by kernel_rfl) (by kernel_rfl) (by kernel_rfl) (fun _ _ _ h => h) (Or.inl ⟨by rfl, ?_⟩) (by assumption) ?_
             rotate_left
             · (intro w hSw; (try dsimp only at hSw); go_simp; all_goals with_reducible rfl)
             try simp only [Act.put, setIfInBounds_toArray, set_cons_zero, set_cons_succ]
             refine wpAnyH_take (i := 15) (oi := { dst := some 72, op := Op.extract (Operand.tmp 57) 2, type := 26, pos := "more.go:30", after := #[{ on := 12, ground := Ground.data }, { on := 18, ground := Ground.gcOnly Departure.lateStores }], guard := none }) (v := ?_) rfl (by kernel_rfl) (by kernel_rfl) (by kernel_rfl) (fun _ _ _ h => h) (Or.inl ⟨by rfl, ?_⟩) (by assumption) ?_
             rotate_left
             · (intro w hSw; (try dsimp only at hSw); go_simp; all_goals with_reducible rfl)
             try simp only [Act.put, setIfInBounds_toArray, set_cons_zero, set_cons_succ]
             refine wpAnyH_take (i := 17) (oi := { dst := some 14, op := Op.assign (Operand.tmp 70), type := 9, pos := "more.go:30", after := #[{ on := 13, ground := Ground.data }, { on := 11, ground := Ground.chain }, { on := 0, ground := Ground.phase }, { on := 1, ground := Ground.phase }, { on := 2, ground := Ground.phase }, { on := 3, ground := Ground.phase }, { on := 4, ground := Ground.phase }, { on := 5, ground := Ground.phase }, { on := 6, ground := Ground.phase }, { on := 7, ground := Ground.phase }, { on := 8, ground := Ground.phase }, { on := 9, ground := Ground.phase }, { on := 10, ground := Ground.phase }, { on := 11, ground := Ground.phase }, { on := 12, ground := Ground.phase }, { on := 13, ground := Ground.phase }, { on := 14, ground := Ground.textOnly Departure.lateStores }, { on := 15, ground := Ground.textOnly Departure.lateStores }, { on := 16, ground := Ground.phase }], guard := none }) (v := ?_) rfl (by kernel_rfl) (by kernel_rfl) (by kernel_rfl) (fun _ _ _ h => h) (Or.inl ⟨by rfl, ?_⟩) (by assumption) ?_
             rotate_left
             · (intro w hSw; (try dsimp only at hSw); go_simp; all_goals with_reducible rfl)
             try simp only [Act.put, setIfInBounds_toArray, set_cons_zero, set_cons_succ]
             refine wpAnyH_ready (rs := [18]) (by kernel_rfl) (by simp) ?_
             refine AllReadyH.cons (o := { dst := none, op := Op.store 24 (Operand.tmp 15) (Operand.tmp 71), type := 0, pos := "more.go:30", after := #[{ on := 16, ground := Ground.data }, { on := 14, ground := Ground.data }, { on := 17, ground := Ground.chain }, { on := 0, ground := Ground.phase }, { on := 1, ground := Ground.phase }, { on := 2, ground := Ground.phase }, { on := 3, ground := Ground.phase }, { on := 4, ground := Ground.phase }, { on := 5, ground := Ground.phase }, { on := 6, ground := Ground.phase }, { on := 7, ground := Ground.phase }, { on := 8, ground := Ground.phase }, { on := 9, ground := Ground.phase }, { on := 10, ground := Ground.phase }, { on := 11, ground := Ground.phase }, { on := 12, ground := Ground.phase }, { on := 13, ground := Ground.phase }, { on := 14, ground := Ground.phase }, { on := 15, ground := Ground.textOnly Departure.lateStores }, { on := 16, ground := Ground.phase }, { on := 17, ground := Ground.phase }], guard := none }) rfl (fun K hK => ?_) ?_
             ·
              go_simp
              refine hK.out _ _ (by trivial) (fun hHeld => ?_)
              clear hK K
              try simp only [Act.put, setIfInBounds_toArray, set_cons_zero, set_cons_succ]
              refine wpAnyH_take (i := 19) (oi := { dst := some 16, op := Op.assign (Operand.tmp 72), type := 26, pos := "more.go:30", after := #[{ on := 15, ground := Ground.data }, { on := 18, ground := Ground.chain }, { on := 0, ground := Ground.phase }, { on := 1, ground := Ground.phase }, { on := 2, ground := Ground.phase }, { on := 3, ground := Ground.phase }, { on := 4, ground := Ground.phase }, { on := 5, ground := Ground.phase }, { on := 6, ground := Ground.phase }, { on := 7, ground := Ground.phase }, { on := 8, ground := Ground.phase }, { on := 9, ground := Ground.phase }, { on := 10, ground := Ground.phase }, { on := 11, ground := Ground.phase }, { on := 12, ground := Ground.phase }, { on := 13, ground := Ground.phase }, { on := 14, ground := Ground.phase }, { on := 15, ground := Ground.phase }, { on := 16, ground := Ground.phase }, { on := 17, ground := Ground.phase }, { on := 18, ground := Ground.phase }], guard := none }) (v := ?_) rfl (by kernel_rfl) (by kernel_rfl) (by kernel_rfl) (fun _ _ _ h => h) (Or.inl ⟨by rfl, ?_⟩) (by assumption) ?_
              rotate_left
              · (intro w hSw; (try dsimp only at hSw); go_simp; all_goals with_reducible rfl)
              try simp only [Act.put, setIfInBounds_toArray, set_cons_zero, set_cons_succ]
              refine wpAnyH_done (by kernel_rfl) ?_ _
              refine NoPanic.normal ?_
              go_wp2_with fail
              go_meet
              refine ⟨rfl, rfl, ?_⟩
              exact ⟨_, rfl, set6 hKB.bel hKB.le, res6 hR (.int .i64 0) (.int .i64 0) (.int .i64 0) (.int .i64 0) (.int .i64 0) (.slice none 0 0)⟩
             exact AllReadyH.nil
            exact AllReadyH.nil
           exact AllReadyH.nil
          refine AllReadyH.cons (o := { dst := some 15, op := Op.alloc 24, type := 0, pos := "more.go:30", after := #[], guard := none }) rfl (fun K hK => ?_) ?_
          ·
           go_simp
           refine hK.out _ _ (by trivial) (fun hHeld => ?_)
           clear hK K
           try simp only [Act.put, setIfInBounds_toArray, set_cons_zero, set_cons_succ]
           refine wpAnyH_ready (rs := [0]) (by kernel_rfl) (by simp) ?_
           refine AllReadyH.cons (o := { dst := some 58, op := Op.call { callee := Callee.value (Operand.func 18), args := #[], argTypes := #[] }, type := 9, pos := "more.go:30", after := #[], guard := none }) rfl (fun K hK => ?_) ?_
           ·
            go_simp
            go_at_call 18
            refine (C1.out _).mono ?_
            rintro e w4 ⟨rfl, hb4⟩
            have hL := two_call (two_drew (two_alloc (two_new W3 _ _ _) _)) hb4
            have hKB := KB.call (KB.drew (KB.new (K0.alloc hT _))) hb4
            rw [size_al] at hKB
            have hR := hKB.box
            clear hb4
            refine hK.out _ _ (by trivial) (fun hHeld => ?_)
            clear hK K
            try simp only [Act.put, setIfInBounds_toArray, set_cons_zero, set_cons_succ]
            refine wpAnyH_ready (rs := [11]) (by kernel_rfl) (by simp) ?_
            refine AllReadyH.cons (o := { dst := some 69, op := Op.call { callee := Callee.value (Operand.func 12), args := #[Operand.tmp 58, Operand.tmp 59, Operand.tmp 68], argTypes := #[9, 24, 3] }, type := 27, pos := "more.go:30", after := #[{ on := 0, ground := Ground.data }, { on := 1, ground := Ground.data }, { on := 10, ground := Ground.data }, { on := 0, ground := Ground.chain }], guard := none }) rfl (fun K hK => ?_) ?_
            ·
             go_simp
             go_at_call 12
             refine (HZ.out _ (by omega) _).mono ?_
             rintro e w5 ⟨rfl, hb5⟩
             replace hKB := KB.call hKB hb5
             replace hR := hKB.box
             clear hb5 hL
             refine hK.out _ _ (by trivial) (fun hHeld => ?_)
             clear hK K
             try simp only [Act.put, setIfInBounds_toArray, set_cons_zero, set_cons_succ]
             refine wpAnyH_take (i := 12) (oi := { dst := some 57, op := Op.move (Operand.tmp 69), type := 27, pos := "more.go:30", after := #[{ on := 11, ground := Ground.data }], guard := none }) (v := ?_) rfl (by kernel_rfl) (by kernel_rfl) (by kernel_rfl) (fun _ _ _ h => h) (Or.inl ⟨by rfl, ?_⟩) (by assumption) ?_
             rotate_left
             · (intro w hSw; (try dsimp only at hSw); go_simp; all_goals with_reducible rfl)
             try simp only [Act.put, setIfInBounds_toArray, set_cons_zero, set_cons_succ]
             refine wpAnyH_take (i := 13) (oi := { dst := some 70, op := Op.extract (Operand.tmp 57) 0, type := 9, pos := "more.go:30", after := #[{ on := 12, ground := Ground.data }], guard := none }) (v := ?_) rfl (by kernel_rfl) (by kernel_rfl) (by kernel_rfl) (fun _ _ _ h => h) (Or.inl ⟨by rfl, ?_⟩) (by assumption) ?_
             rotate_left
             · (intro w hSw; (try dsimp only at hSw); go_simp; all_goals with_reducible rfl)
             try simp only [Act.put, setIfInBounds_toArray, set_cons_zero, set_cons_succ]
             refine wpAnyH_take (i := 14) (oi := { dst := some 71, op := Op.extract (Operand.tmp 57) 1, type := 24, pos := "more.go:30", after := #[{ on := 12, ground := Ground.data }, { on := 17, ground := Ground.gcOnly Departure.lateStores }], guard := none }) (v := ?_) rfl (by kernel_rfl) (by kernel_rfl) (by kernel_rfl) (fun _ _ _ h => h) (Or.inl ⟨by rfl, ?_⟩) (by assumption) ?_
             rotate_left
             · (intro w hSw; (try dsimp only at hSw); go_simp; all_goals with_reducible rfl)
             try simp only [Act.put, setIfInBounds_toArray, set_cons_zero, set_cons_succ]
             refine wpAnyH_take (i := 15) (oi := { dst := some 72, op := Op.extract (Operand.tmp 57) 2, type := 26, pos := "more.go:30", after := #[{ on := 12, ground := Ground.data }, { on := 18, ground := Ground.gcOnly Departure.lateStores }], guard := none }) (v := ?_) rfl (by kernel_rfl) (by kernel_rfl) (by kernel_rfl) (fun _ _ _ h => h) (Or.inl ⟨by rfl, ?_⟩) (by assumption) ?_
             rotate_left
             · (intro w hSw; (try dsimp only at hSw); go_simp; all_goals with_reducible rfl)
             try simp only [Act.put, setIfInBounds_toArray, set_cons_zero, set_cons_succ]
             refine wpAnyH_take (i := 17) (oi := { dst := some 14, op := Op.assign (Operand.tmp 70), type := 9, pos := "more.go:30", after := #[{ on := 13, ground := Ground.data }, { on := 11, ground := Ground.chain }, { on := 0, ground := Ground.phase }, { on := 1, ground := Ground.phase }, { on := 2, ground := Ground.phase }, { on := 3, ground := Ground.phase }, { on := 4, ground := Ground.phase }, { on := 5, ground := Ground.phase }, { on := 6, ground := Ground.phase }, { on := 7, ground := Ground.phase }, { on := 8, ground := Ground.phase }, { on := 9, ground := Ground.phase }, { on := 10, ground := Ground.phase }, { on := 11, ground := Ground.phase }, { on := 12, ground := Ground.phase }, { on := 13, ground := Ground.phase }, { on := 14, ground := Ground.textOnly Departure.lateStores }, { on := 15, ground := Ground.textOnly Departure.lateStores }, { on := 16, ground := Ground.phase }], guard := none }) (v := ?_) rfl (by kernel_rfl) (by kernel_rfl) (by kernel_rfl) (fun _ _ _ h => h) (Or.inl ⟨by rfl, ?_⟩) (by assumption) ?_
             rotate_left
             · (intro w hSw; (try dsimp only at hSw); go_simp; all_goals with_reducible rfl)
             try simp only [Act.put, setIfInBounds_toArray, set_cons_zero, set_cons_succ]
             refine wpAnyH_ready (rs := [18]) (by kernel_rfl) (by simp) ?_
             refine AllReadyH.cons (o := { dst := none, op := Op.store 24 (Operand.tmp 15) (Operand.tmp 71), type := 0, pos := "more.go:30", after := #[{ on := 16, ground := Ground.data }, { on := 14, ground := Ground.data }, { on := 17, ground := Ground.chain }, { on := 0, ground := Ground.phase }, { on := 1, ground := Ground.phase }, { on := 2, ground := Ground.phase }, { on := 3, ground := Ground.phase }, { on := 4, ground := Ground.phase }, { on := 5, ground := Ground.phase }, { on := 6, ground := Ground.phase }, { on := 7, ground := Ground.phase }, { on := 8, ground := Ground.phase }, { on := 9, ground := Ground.phase }, { on := 10, ground := Ground.phase }, { on := 11, ground := Ground.phase }, { on := 12, ground := Ground.phase }, { on := 13, ground := Ground.phase }, { on := 14, ground := Ground.phase }, { on := 15, ground := Ground.textOnly Departure.lateStores }, { on := 16, ground := Ground.phase }, { on := 17, ground := Ground.phase }], guard := none }) rfl (fun K hK => ?_) ?_
             ·
              go_simp
              refine hK.out _ _ (by trivial) (fun hHeld => ?_)
              clear hK K
              try simp only [Act.put, setIfInBounds_toArray, set_cons_zero, set_cons_succ]
              refine wpAnyH_take (i := 19) (oi := { dst := some 16, op := Op.assign (Operand.tmp 72), type := 26, pos := "more.go:30", after := #[{ on := 15, ground := Ground.data }, { on := 18, ground := Ground.chain }, { on := 0, ground := Ground.phase }, { on := 1, ground := Ground.phase }, { on := 2, ground := Ground.phase }, { on := 3, ground := Ground.phase }, { on := 4, ground := Ground.phase }, { on := 5, ground := Ground.phase }, { on := 6, ground := Ground.phase }, { on := 7, ground := Ground.phase }, { on := 8, ground := Ground.phase }, { on := 9, ground := Ground.phase }, { on := 10, ground := Ground.phase }, { on := 11, ground := Ground.phase }, { on := 12, ground := Ground.phase }, { on := 13, ground := Ground.phase }, { on := 14, ground := Ground.phase }, { on := 15, ground := Ground.phase }, { on := 16, ground := Ground.phase }, { on := 17, ground := Ground.phase }, { on := 18, ground := Ground.phase }], guard := none }) (v := ?_) rfl (by kernel_rfl) (by kernel_rfl) (by kernel_rfl) (fun _ _ _ h => h) (Or.inl ⟨by rfl, ?_⟩) (by assumption) ?_
              rotate_left
              · (intro w hSw; (try dsimp only at hSw); go_simp; all_goals with_reducible rfl)
              try simp only [Act.put, setIfInBounds_toArray, set_cons_zero, set_cons_succ]
              refine wpAnyH_done (by kernel_rfl) ?_ _
              refine NoPanic.normal ?_
              go_wp2_with fail
              go_meet
              refine ⟨rfl, rfl, ?_⟩
              exact ⟨_, rfl, set6 hKB.bel hKB.le, res6 hR (.int .i64 0) (.int .i64 0) (.int .i64 0) (.int .i64 0) (.int .i64 0) (.slice none 0 0)⟩
             exact AllReadyH.nil
            exact AllReadyH.nil
           exact AllReadyH.nil
          exact AllReadyH.nil
         refine AllReadyH.cons (o := { dst := some 15, op := Op.alloc 24, type := 0, pos := "more.go:30", after := #[], guard := none }) rfl (fun K hK => ?_) ?_
         ·
          go_simp
          refine hK.out _ _ (by trivial) (fun hHeld => ?_)
          clear hK K
          try simp only [Act.put, setIfInBounds_toArray, set_cons_zero, set_cons_succ]
          refine wpAnyH_ready (rs := [0, 10]) (by kernel_rfl) (by simp) ?_
          refine AllReadyH.cons (o := { dst := some 58, op := Op.call { callee := Callee.value (Operand.func 18), args := #[], argTypes := #[] }, type := 9, pos := "more.go:30", after := #[], guard := none }) rfl (fun K hK => ?_) ?_
          ·
           go_simp
           go_at_call 18
           refine (C1.out _).mono ?_
           rintro e w4 ⟨rfl, hb4⟩
           have hL := two_call (two_drew (two_alloc (two_new W3 _ _ _) _)) hb4
           have hKB := KB.call (KB.drew (KB.new (K0.alloc hT _))) hb4
           rw [size_al] at hKB
           have hR := hKB.box
           clear hb4
           refine hK.out _ _ (by trivial) (fun hHeld => ?_)
           clear hK K
           try simp only [Act.put, setIfInBounds_toArray, set_cons_zero, set_cons_succ]
           refine wpAnyH_ready (rs := [10]) (by kernel_rfl) (by simp) ?_
           refine AllReadyH.cons (o := { dst := some 68, op := Op.load 3 (Operand.tmp 67), type := 3, pos := "more.go:30", after := #[{ on := 9, ground := Ground.data }], guard := none }) rfl (fun K hK => ?_) ?_
           ·
            go_simp
            refine hK.out _ _ (by trivial) (fun hHeld => ?_)
            clear hK K
            try simp only [Act.put, setIfInBounds_toArray, set_cons_zero, set_cons_succ]
            refine wpAnyH_ready (rs := [11]) (by kernel_rfl) (by simp) ?_
            refine AllReadyH.cons (o := { dst := some 69, op := Op.call { callee := Callee.value (Operand.func 12), args := #[Operand.tmp 58, Operand.tmp 59, Operand.tmp 68], argTypes := #[9, 24, 3] }, type := 27, pos := "more.go:30", after := #[{ on := 0, ground := Ground.data }, { on := 1, ground := Ground.data }, { on := 10, ground := Ground.data }, { on := 0, ground := Ground.chain }], guard := none }) rfl (fun K hK => ?_) ?_
            ·
             go_simp
             go_at_call 12
             refine (HZ.out _ (by omega) _).mono ?_
             rintro e w5 ⟨rfl, hb5⟩
             replace hKB := KB.call hKB hb5
             replace hR := hKB.box
             clear hb5 hL
             refine hK.out _ _ (by trivial) (fun hHeld => ?_)
             clear hK K
             try simp only [Act.put, setIfInBounds_toArray, set_cons_zero, set_cons_succ]
             refine wpAnyH_take (i := 12) (oi := { dst := some 57, op := Op.move (Operand.tmp 69), type := 27, pos := "more.go:30", after := #[{ on := 11, ground := Ground.data }], guard := none }) (v := ?_) rfl (by kernel_rfl) (by kernel_rfl) (by kernel_rfl) (fun _ _ _ h => h) (Or.inl ⟨by rfl, ?_⟩) (by assumption) ?_
             rotate_left
             · (intro w hSw; (try dsimp only at hSw); go_simp; all_goals with_reducible rfl)
             try simp only [Act.put, setIfInBounds_toArray, set_cons_zero, set_cons_succ]
             refine wpAnyH_take (i := 13) (oi := { dst := some 70, op := Op.extract (Operand.tmp 57) 0, type := 9, pos := "more.go:30", after := #[{ on := 12, ground := Ground.data }], guard := none }) (v := ?_) rfl (by kernel_rfl) (by kernel_rfl) (by kernel_rfl) (fun _ _ _ h => h) (Or.inl ⟨by rfl, ?_⟩) (by assumption) ?_
             rotate_left
             · (intro w hSw; (try dsimp only at hSw); go_simp; all_goals with_reducible rfl)
             try simp only [Act.put, setIfInBounds_toArray, set_cons_zero, set_cons_succ]
             refine wpAnyH_take (i := 14) (oi := { dst := some 71, op := Op.extract (Operand.tmp 57) 1, type := 24, pos := "more.go:30", after := #[{ on := 12, ground := Ground.data }, { on := 17, ground := Ground.gcOnly Departure.lateStores }], guard := none }) (v := ?_) rfl (by kernel_rfl) (by kernel_rfl) (by kernel_rfl) (fun _ _ _ h => h) (Or.inl ⟨by rfl, ?_⟩) (by assumption) ?_
             rotate_left
             · (intro w hSw; (try dsimp only at hSw); go_simp; all_goals with_reducible rfl)
             try simp only [Act.put, setIfInBounds_toArray, set_cons_zero, set_cons_succ]
             refine wpAnyH_take (i := 15) (oi := { dst := some 72, op := Op.extract (Operand.tmp 57) 2, type := 26, pos := "more.go:30", after := #[{ on := 12, ground := Ground.data }, { on := 18, ground := Ground.gcOnly Departure.lateStores }], guard := none }) (v := ?_) rfl (by kernel_rfl) (by kernel_rfl) (by kernel_rfl) (fun _ _ _ h => h) (Or.inl ⟨by rfl, ?_⟩) (by assumption) ?_
             rotate_left
             · (intro w hSw; (try dsimp only at hSw); go_simp; all_goals with_reducible rfl)
             try simp only [Act.put, setIfInBounds_toArray, set_cons_zero, set_cons_succ]
             refine wpAnyH_take (i := 17) (oi := { dst := some 14, op := Op.assign (Operand.tmp 70), type := 9, pos := "more.go:30", after := #[{ on := 13, ground := Ground.data }, { on := 11, ground := Ground.chain }, { on := 0, ground := Ground.phase }, { on := 1, ground := Ground.phase }, { on := 2, ground := Ground.phase }, { on := 3, ground := Ground.phase }, { on := 4, ground := Ground.phase }, { on := 5, ground := Ground.phase }, { on := 6, ground := Ground.phase }, { on := 7, ground := Ground.phase }, { on := 8, ground := Ground.phase }, { on := 9, ground := Ground.phase }, { on := 10, ground := Ground.phase }, { on := 11, ground := Ground.phase }, { on := 12, ground := Ground.phase }, { on := 13, ground := Ground.phase }, { on := 14, ground := Ground.textOnly Departure.lateStores }, { on := 15, ground := Ground.textOnly Departure.lateStores }, { on := 16, ground := Ground.phase }], guard := none }) (v := ?_) rfl (by kernel_rfl) (by kernel_rfl) (by kernel_rfl) (fun _ _ _ h => h) (Or.inl ⟨by rfl, ?_⟩) (by assumption) ?_
             rotate_left
             · (intro w hSw; (try dsimp only at hSw); go_simp; all_goals with_reducible rfl)
             try simp only [Act.put, setIfInBounds_toArray, set_cons_zero, set_cons_succ]
             refine wpAnyH_ready (rs := [18]) (by kernel_rfl) (by simp) ?_
             refine AllReadyH.cons (o := { dst := none, op := Op.store 24 (Operand.tmp 15) (Operand.tmp 71), type := 0, pos := "more.go:30", after := #[{ on := 16, ground := Ground.data }, { on := 14, ground := Ground.data }, { on := 17, ground := Ground.chain }, { on := 0, ground := Ground.phase }, { on := 1, ground := Ground.phase }, { on := 2, ground := Ground.phase }, { on := 3, ground := Ground.phase }, { on := 4, ground := Ground.phase }, { on := 5, ground := Ground.phase }, { on := 6, ground := Ground.phase }, { on := 7, ground := Ground.phase }, { on := 8, ground := Ground.phase }, { on := 9, ground := Ground.phase }, { on := 10, ground := Ground.phase }, { on := 11, ground := Ground.phase }, { on := 12, ground := Ground.phase }, { on := 13, ground := Ground.phase }, { on := 14, ground := Ground.phase }, { on := 15, ground := Ground.textOnly Departure.lateStores }, { on := 16, ground := Ground.phase }, { on := 17, ground := Ground.phase }], guard := none }) rfl (fun K hK => ?_) ?_
             ·
              go_simp
              refine hK.out _ _ (by trivial) (fun hHeld => ?_)
              clear hK K
              try simp only [Act.put, setIfInBounds_toArray, set_cons_zero, set_cons_succ]
              refine wpAnyH_take (i := 19) (oi := { dst := some 16, op := Op.assign (Operand.tmp 72), type := 26, pos := "more.go:30", after := #[{ on := 15, ground := Ground.data }, { on := 18, ground := Ground.chain }, { on := 0, ground := Ground.phase }, { on := 1, ground := Ground.phase }, { on := 2, ground := Ground.phase }, { on := 3, ground := Ground.phase }, { on := 4, ground := Ground.phase }, { on := 5, ground := Ground.phase }, { on := 6, ground := Ground.phase }, { on := 7, ground := Ground.phase }, { on := 8, ground := Ground.phase }, { on := 9, ground := Ground.phase }, { on := 10, ground := Ground.phase }, { on := 11, ground := Ground.phase }, { on := 12, ground := Ground.phase }, { on := 13, ground := Ground.phase }, { on := 14, ground := Ground.phase }, { on := 15, ground := Ground.phase }, { on := 16, ground := Ground.phase }, { on := 17, ground := Ground.phase }, { on := 18, ground := Ground.phase }], guard := none }) (v := ?_) rfl (by kernel_rfl) (by kernel_rfl) (by kernel_rfl) (fun _ _ _ h => h) (Or.inl ⟨by rfl, ?_⟩) (by assumption) ?_
              rotate_left
              · (intro w hSw; (try dsimp only at hSw); go_simp; all_goals with_reducible rfl)
              try simp only [Act.put, setIfInBounds_toArray, set_cons_zero, set_cons_succ]
              refine wpAnyH_done (by kernel_rfl) ?_ _
              refine NoPanic.normal ?_
              go_wp2_with fail
              go_meet
              refine ⟨rfl, rfl, ?_⟩
              exact ⟨_, rfl, set6 hKB.bel hKB.le, res6 hR (.int .i64 0) (.int .i64 0) (.int .i64 0) (.int .i64 0) (.int .i64 0) (.slice none 0 0)⟩
             exact AllReadyH.nil
            exact AllReadyH.nil
           exact AllReadyH.nil
          refine AllReadyH.cons (o := { dst := some 68, op := Op.load 3 (Operand.tmp 67), type := 3, pos := "more.go:30", after := #[{ on := 9, ground := Ground.data }], guard := none }) rfl (fun K hK => ?_) ?_
          ·
           go_simp
           refine hK.out _ _ (by trivial) (fun hHeld => ?_)
           clear hK K
           try simp only [Act.put, setIfInBounds_toArray, set_cons_zero, set_cons_succ]
           refine wpAnyH_ready (rs := [0]) (by kernel_rfl) (by simp) ?_
           refine AllReadyH.cons (o := { dst := some 58, op := Op.call { callee := Callee.value (Operand.func 18), args := #[], argTypes := #[] }, type := 9, pos := "more.go:30", after := #[], guard := none }) rfl (fun K hK => ?_) ?_
           ·
            go_simp
            go_at_call 18
            refine (C1.out _).mono ?_
            rintro e w4 ⟨rfl, hb4⟩
            have hL := two_call (two_drew (two_alloc (two_new W3 _ _ _) _)) hb4
            have hKB := KB.call (KB.drew (KB.new (K0.alloc hT _))) hb4
            rw [size_al] at hKB
            have hR := hKB.box
            clear hb4
            refine hK.out _ _ (by trivial) (fun hHeld => ?_)
            clear hK K
            try simp only [Act.put, setIfInBounds_toArray, set_cons_zero, set_cons_succ]
            refine wpAnyH_ready (rs := [11]) (by kernel_rfl) (by simp) ?_
            refine AllReadyH.cons (o := { dst := some 69, op := Op.call { callee := Callee.value (Operand.func 12), args := #[Operand.tmp 58, Operand.tmp 59, Operand.tmp 68], argTypes := #[9, 24, 3] }, type := 27, pos := "more.go:30", after := #[{ on := 0, ground := Ground.data }, { on := 1, ground := Ground.data }, { on := 10, ground := Ground.data }, { on := 0, ground := Ground.chain }], guard := none }) rfl (fun K hK => ?_) ?_
            ·
             go_simp
             go_at_call 12
             refine (HZ.out _ (by omega) _).mono ?_
             rintro e w5 ⟨rfl, hb5⟩
             replace hKB := KB.call hKB hb5
             replace hR := hKB.box
             clear hb5 hL
             refine hK.out _ _ (by trivial) (fun hHeld => ?_)
             clear hK K
             try simp only [Act.put, setIfInBounds_toArray, set_cons_zero, set_cons_succ]
             refine wpAnyH_take (i := 12) (oi := { dst := some 57, op := Op.move (Operand.tmp 69), type := 27, pos := "more.go:30", after := #[{ on := 11, ground := Ground.data }], guard := none }) (v := ?_) rfl (by kernel_rfl) (by kernel_rfl) (by kernel_rfl) (fun _ _ _ h => h) (Or.inl ⟨by rfl, ?_⟩) (by assumption) ?_
             rotate_left
             · (intro w hSw; (try dsimp only at hSw); go_simp; all_goals with_reducible rfl)
             try simp only [Act.put, setIfInBounds_toArray, set_cons_zero, set_cons_succ]
             refine wpAnyH_take (i := 13) (oi := { dst := some 70, op := Op.extract (Operand.tmp 57) 0, type := 9, pos := "more.go:30", after := #[{ on := 12, ground := Ground.data }], guard := none }) (v := ?_) rfl (by kernel_rfl) (by kernel_rfl) (by kernel_rfl) (fun _ _ _ h => h) (Or.inl ⟨by rfl, ?_⟩) (by assumption) ?_
             rotate_left
             · (intro w hSw; (try dsimp only at hSw); go_simp; all_goals with_reducible rfl)
             try simp only [Act.put, setIfInBounds_toArray, set_cons_zero, set_cons_succ]
             refine wpAnyH_take (i := 14) (oi := { dst := some 71, op := Op.extract (Operand.tmp 57) 1, type := 24, pos := "more.go:30", after := #[{ on := 12, ground := Ground.data }, { on := 17, ground := Ground.gcOnly Departure.lateStores }], guard := none }) (v := ?_) rfl (by kernel_rfl) (by kernel_rfl) (by kernel_rfl) (fun _ _ _ h => h) (Or.inl ⟨by rfl, ?_⟩) (by assumption) ?_
             rotate_left
             · (intro w hSw; (try dsimp only at hSw); go_simp; all_goals with_reducible rfl)
             try simp only [Act.put, setIfInBounds_toArray, set_cons_zero, set_cons_succ]
             refine wpAnyH_take (i := 15) (oi := { dst := some 72, op := Op.extract (Operand.tmp 57) 2, type := 26, pos := "more.go:30", after := #[{ on := 12, ground := Ground.data }, { on := 18, ground := Ground.gcOnly Departure.lateStores }], guard := none }) (v := ?_) rfl (by kernel_rfl) (by kernel_rfl) (by kernel_rfl) (fun _ _ _ h => h) (Or.inl ⟨by rfl, ?_⟩) (by assumption) ?_
             rotate_left
             · (intro w hSw; (try dsimp only at hSw); go_simp; all_goals with_reducible rfl)
             try simp only [Act.put, setIfInBounds_toArray, set_cons_zero, set_cons_succ]
             refine wpAnyH_take (i := 17) (oi := { dst := some 14, op := Op.assign (Operand.tmp 70), type := 9, pos := "more.go:30", after := #[{ on := 13, ground := Ground.data }, { on := 11, ground := Ground.chain }, { on := 0, ground := Ground.phase }, { on := 1, ground := Ground.phase }, { on := 2, ground := Ground.phase }, { on := 3, ground := Ground.phase }, { on := 4, ground := Ground.phase }, { on := 5, ground := Ground.phase }, { on := 6, ground := Ground.phase }, { on := 7, ground := Ground.phase }, { on := 8, ground := Ground.phase }, { on := 9, ground := Ground.phase }, { on := 10, ground := Ground.phase }, { on := 11, ground := Ground.phase }, { on := 12, ground := Ground.phase }, { on := 13, ground := Ground.phase }, { on := 14, ground := Ground.textOnly Departure.lateStores }, { on := 15, ground := Ground.textOnly Departure.lateStores }, { on := 16, ground := Ground.phase }], guard := none }) (v := ?_) rfl (by kernel_rfl) (by kernel_rfl) (by kernel_rfl) (fun _ _ _ h => h) (Or.inl ⟨by rfl, ?_⟩) (by assumption) ?_
             rotate_left
             · (intro w hSw; (try dsimp only at hSw); go_simp; all_goals with_reducible rfl)
             try simp only [Act.put, setIfInBounds_toArray, set_cons_zero, set_cons_succ]
             refine wpAnyH_ready (rs := [18]) (by kernel_rfl) (by simp) ?_
             refine AllReadyH.cons (o := { dst := none, op := Op.store 24 (Operand.tmp 15) (Operand.tmp 71), type := 0, pos := "more.go:30", after := #[{ on := 16, ground := Ground.data }, { on := 14, ground := Ground.data }, { on := 17, ground := Ground.chain }, { on := 0, ground := Ground.phase }, { on := 1, ground := Ground.phase }, { on := 2, ground := Ground.phase }, { on := 3, ground := Ground.phase }, { on := 4, ground := Ground.phase }, { on := 5, ground := Ground.phase }, { on := 6, ground := Ground.phase }, { on := 7, ground := Ground.phase }, { on := 8, ground := Ground.phase }, { on := 9, ground := Ground.phase }, { on := 10, ground := Ground.phase }, { on := 11, ground := Ground.phase }, { on := 12, ground := Ground.phase }, { on := 13, ground := Ground.phase }, { on := 14, ground := Ground.phase }, { on := 15, ground := Ground.textOnly Departure.lateStores }, { on := 16, ground := Ground.phase }, { on := 17, ground := Ground.phase }], guard := none }) rfl (fun K hK => ?_) ?_
             ·
              go_simp
              refine hK.out _ _ (by trivial) (fun hHeld => ?_)
              clear hK K
              try simp only [Act.put, setIfInBounds_toArray, set_cons_zero, set_cons_succ]
              refine wpAnyH_take (i := 19) (oi := { dst := some 16, op := Op.assign (Operand.tmp 72), type := 26, pos := "more.go:30", after := #[{ on := 15, ground := Ground.data }, { on := 18, ground := Ground.chain }, { on := 0, ground := Ground.phase }, { on := 1, ground := Ground.phase }, { on := 2, ground := Ground.phase }, { on := 3, ground := Ground.phase }, { on := 4, ground := Ground.phase }, { on := 5, ground := Ground.phase }, { on := 6, ground := Ground.phase }, { on := 7, ground := Ground.phase }, { on := 8, ground := Ground.phase }, { on := 9, ground := Ground.phase }, { on := 10, ground := Ground.phase }, { on := 11, ground := Ground.phase }, { on := 12, ground := Ground.phase }, { on := 13, ground := Ground.phase }, { on := 14, ground := Ground.phase }, { on := 15, ground := Ground.phase }, { on := 16, ground := Ground.phase }, { on := 17, ground := Ground.phase }, { on := 18, ground := Ground.phase }], guard := none }) (v := ?_) rfl (by kernel_rfl) (by kernel_rfl) (by kernel_rfl) (fun _ _ _ h => h) (Or.inl ⟨by rfl, ?_⟩) (by assumption) ?_
              rotate_left
              · (intro w hSw; (try dsimp only at hSw); go_simp; all_goals with_reducible rfl)
              try simp only [Act.put, setIfInBounds_toArray, set_cons_zero, set_cons_succ]
              refine wpAnyH_done (by kernel_rfl) ?_ _
              refine NoPanic.normal ?_
              go_wp2_with fail
              go_meet
              refine ⟨rfl, rfl, ?_⟩
              exact ⟨_, rfl, set6 hKB.bel hKB.le, res6 hR (.int .i64 0) (.int .i64 0) (.int .i64 0) (.int .i64 0) (.int .i64 0) (.slice none 0 0)⟩
             exact AllReadyH.nil
            exact AllReadyH.nil
           exact AllReadyH.nil
          exact AllReadyH.nil
         exact AllReadyH.nil
        refine AllReadyH.cons (o := { dst := some 15, op := Op.alloc 24, type := 0, pos := "more.go:30", after := #[], guard := none }) rfl (fun K hK => ?_) ?_
        ·
         go_simp
         refine hK.out _ _ (by trivial) (fun hHeld => ?_)
         clear hK K
         try simp only [Act.put, setIfInBounds_toArray, set_cons_zero, set_cons_succ]
         refine wpAnyH_ready (rs := [0, 6]) (by kernel_rfl) (by simp) ?_
         refine AllReadyH.cons (o := { dst := some 58, op := Op.call { callee := Callee.value (Operand.func 18), args := #[], argTypes := #[] }, type := 9, pos := "more.go:30", after := #[], guard := none }) rfl (fun K hK => ?_) ?_
         ·
          go_simp
          go_at_call 18
          refine (C1.out _).mono ?_
          rintro e w4 ⟨rfl, hb4⟩
          have hKB := KB.call (KB.drew (KB.new hT)) hb4
          have hR := hKB.box
          clear hb4
          refine hK.out _ _ (by trivial) (fun hHeld => ?_)
          clear hK K
          try simp only [Act.put, setIfInBounds_toArray, set_cons_zero, set_cons_succ]
          refine wpAnyH_ready (rs := [6]) (by kernel_rfl) (by simp) ?_
          refine AllReadyH.cons (o := { dst := some 64, op := Op.buildSlice 41 2 #[(0, Operand.tmp 61), (1, Operand.tmp 63)], type := 41, pos := "more.go:30", after := #[{ on := 3, ground := Ground.data }, { on := 5, ground := Ground.data }], guard := none }) rfl (fun K hK => ?_) ?_
          ·
           go_simp
           refine hK.out _ _ (by trivial) (fun hHeld => ?_)
           clear hK K
           try simp only [Act.put, setIfInBounds_toArray, set_cons_zero, set_cons_succ]
           refine wpAnyH_take (i := 9) (oi := { dst := some 67, op := Op.indexAddr 41 (Operand.tmp 64) (Operand.tmp 66), type := 0, pos := "more.go:30", after := #[{ on := 6, ground := Ground.data }, { on := 8, ground := Ground.data }], guard := none }) (v := ?_) rfl (by kernel_rfl) (by kernel_rfl) (by kernel_rfl) (fun _ _ _ h => h) (Or.inl ⟨by rfl, ?_⟩) (by assumption) ?_
           rotate_left
           · (intro w hSw; (try dsimp only at hSw); go_simp; all_goals with_reducible rfl)
           try simp only [Act.put, setIfInBounds_toArray, set_cons_zero, set_cons_succ]
           refine wpAnyH_ready (rs := [10]) (by kernel_rfl) (by simp) ?_
           refine AllReadyH.cons (o := { dst := some 68, op := Op.load 3 (Operand.tmp 67), type := 3, pos := "more.go:30", after := #[{ on := 9, ground := Ground.data }], guard := none }) rfl (fun K hK => ?_) ?_
           ·
            go_simp
            refine hK.out _ _ (by trivial) (fun hHeld => ?_)
            clear hK K
            try simp only [Act.put, setIfInBounds_toArray, set_cons_zero, set_cons_succ]
            refine wpAnyH_ready (rs := [11]) (by kernel_rfl) (by simp) ?_
            refine AllReadyH.cons (o := { dst := some 69, op := Op.call { callee := Callee.value (Operand.func 12), args := #[Operand.tmp 58, Operand.tmp 59, Operand.tmp 68], argTypes := #[9, 24, 3] }, type := 27, pos := "more.go:30", after := #[{ on := 0, ground := Ground.data }, { on := 1, ground := Ground.data }, { on := 10, ground := Ground.data }, { on := 0, ground := Ground.chain }], guard := none }) rfl (fun K hK => ?_) ?_
            ·
             go_simp
             go_at_call 12
             refine (HZ.out _ (by omega) _).mono ?_
             rintro e w5 ⟨rfl, hb5⟩
             replace hKB := KB.call (KB.alloc hKB _) hb5
             replace hR := hKB.box
             clear hb5
             refine hK.out _ _ (by trivial) (fun hHeld => ?_)
             clear hK K
             try simp only [Act.put, setIfInBounds_toArray, set_cons_zero, set_cons_succ]
             refine wpAnyH_take (i := 12) (oi := { dst := some 57, op := Op.move (Operand.tmp 69), type := 27, pos := "more.go:30", after := #[{ on := 11, ground := Ground.data }], guard := none }) (v := ?_) rfl (by kernel_rfl) (by kernel_rfl) (by kernel_rfl) (fun _ _ _ h => h) (Or.inl ⟨by rfl, ?_⟩) (by assumption) ?_
             rotate_left
             · (intro w hSw; (try dsimp only at hSw); go_simp; all_goals with_reducible rfl)
             try simp only [Act.put, setIfInBounds_toArray, set_cons_zero, set_cons_succ]
             refine wpAnyH_take (i := 13) (oi := { dst := some 70, op := Op.extract (Operand.tmp 57) 0, type := 9, pos := "more.go:30", after := #[{ on := 12, ground := Ground.data }], guard := none }) (v := ?_) rfl (by kernel_rfl) (by kernel_rfl) (by kernel_rfl) (fun _ _ _ h => h) (Or.inl ⟨by rfl, ?_⟩) (by assumption) ?_
             rotate_left
             · (intro w hSw; (try dsimp only at hSw); go_simp; all_goals with_reducible rfl)
             try simp only [Act.put, setIfInBounds_toArray, set_cons_zero, set_cons_succ]
             refine wpAnyH_take (i := 14) (oi := { dst := some 71, op := Op.extract (Operand.tmp 57) 1, type := 24, pos := "more.go:30", after := #[{ on := 12, ground := Ground.data }, { on := 17, ground := Ground.gcOnly Departure.lateStores }], guard := none }) (v := ?_) rfl (by kernel_rfl) (by kernel_rfl) (by kernel_rfl) (fun _ _ _ h => h) (Or.inl ⟨by rfl, ?_⟩) (by assumption) ?_
             rotate_left
             · (intro w hSw; (try dsimp only at hSw); go_simp; all_goals with_reducible rfl)
             try simp only [Act.put, setIfInBounds_toArray, set_cons_zero, set_cons_succ]
             refine wpAnyH_take (i := 15) (oi := { dst := some 72, op := Op.extract (Operand.tmp 57) 2, type := 26, pos := "more.go:30", after := #[{ on := 12, ground := Ground.data }, { on := 18, ground := Ground.gcOnly Departure.lateStores }], guard := none }) (v := ?_) rfl (by kernel_rfl) (by kernel_rfl) (by kernel_rfl) (fun _ _ _ h => h) (Or.inl ⟨by rfl, ?_⟩) (by assumption) ?_
             rotate_left
             · (intro w hSw; (try dsimp only at hSw); go_simp; all_goals with_reducible rfl)
             try simp only [Act.put, setIfInBounds_toArray, set_cons_zero, set_cons_succ]
             refine wpAnyH_take (i := 17) (oi := { dst := some 14, op := Op.assign (Operand.tmp 70), type := 9, pos := "more.go:30", after := #[{ on := 13, ground := Ground.data }, { on := 11, ground := Ground.chain }, { on := 0, ground := Ground.phase }, { on := 1, ground := Ground.phase }, { on := 2, ground := Ground.phase }, { on := 3, ground := Ground.phase }, { on := 4, ground := Ground.phase }, { on := 5, ground := Ground.phase }, { on := 6, ground := Ground.phase }, { on := 7, ground := Ground.phase }, { on := 8, ground := Ground.phase }, { on := 9, ground := Ground.phase }, { on := 10, ground := Ground.phase }, { on := 11, ground := Ground.phase }, { on := 12, ground := Ground.phase }, { on := 13, ground := Ground.phase }, { on := 14, ground := Ground.textOnly Departure.lateStores }, { on := 15, ground := Ground.textOnly Departure.lateStores }, { on := 16, ground := Ground.phase }], guard := none }) (v := ?_) rfl (by kernel_rfl) (by kernel_rfl) (by kernel_rfl) (fun _ _ _ h => h) (Or.inl ⟨by rfl, ?_⟩) (by assumption) ?_
             rotate_left
             · (intro w hSw; (try dsimp only at hSw); go_simp; all_goals with_reducible rfl)
             try simp only [Act.put, setIfInBounds_toArray, set_cons_zero, set_cons_succ]
             refine wpAnyH_ready (rs := [18]) (by kernel_rfl) (by simp) ?_
             refine AllReadyH.cons (o := { dst := none, op := Op.store 24 (Operand.tmp 15) (Operand.tmp 71), type := 0, pos := "more.go:30", after := #[{ on := 16, ground := Ground.data }, { on := 14, ground := Ground.data }, { on := 17, ground := Ground.chain }, { on := 0, ground := Ground.phase }, { on := 1, ground := Ground.phase }, { on := 2, ground := Ground.phase }, { on := 3, ground := Ground.phase }, { on := 4, ground := Ground.phase }, { on := 5, ground := Ground.phase }, { on := 6, ground := Ground.phase }, { on := 7, ground := Ground.phase }, { on := 8, ground := Ground.phase }, { on := 9, ground := Ground.phase }, { on := 10, ground := Ground.phase }, { on := 11, ground := Ground.phase }, { on := 12, ground := Ground.phase }, { on := 13, ground := Ground.phase }, { on := 14, ground := Ground.phase }, { on := 15, ground := Ground.textOnly Departure.lateStores }, { on := 16, ground := Ground.phase }, { on := 17, ground := Ground.phase }], guard := none }) rfl (fun K hK => ?_) ?_
             ·
              go_simp
              refine hK.out _ _ (by trivial) (fun hHeld => ?_)
              clear hK K
              try simp only [Act.put, setIfInBounds_toArray, set_cons_zero, set_cons_succ]
              refine wpAnyH_take (i := 19) (oi := { dst := some 16, op := Op.assign (Operand.tmp 72), type := 26, pos := "more.go:30", after := #[{ on := 15, ground := Ground.data }, { on := 18, ground := Ground.chain }, { on := 0, ground := Ground.phase }, { on := 1, ground := Ground.phase }, { on := 2, ground := Ground.phase }, { on := 3, ground := Ground.phase }, { on := 4, ground := Ground.phase }, { on := 5, ground := Ground.phase }, { on := 6, ground := Ground.phase }, { on := 7, ground := Ground.phase }, { on := 8, ground := Ground.phase }, { on := 9, ground := Ground.phase }, { on := 10, ground := Ground.phase }, { on := 11, ground := Ground.phase }, { on := 12, ground := Ground.phase }, { on := 13, ground := Ground.phase }, { on := 14, ground := Ground.phase }, { on := 15, ground := Ground.phase }, { on := 16, ground := Ground.phase }, { on := 17, ground := Ground.phase }, { on := 18, ground := Ground.phase }], guard := none }) (v := ?_) rfl (by kernel_rfl) (by kernel_rfl) (by kernel_rfl) (fun _ _ _ h => h) (Or.inl ⟨by rfl, ?_⟩) (by assumption) ?_
              rotate_left
              · (intro w hSw; (try dsimp only at hSw); go_simp; all_goals with_reducible rfl)
              try simp only [Act.put, setIfInBounds_toArray, set_cons_zero, set_cons_succ]
              refine wpAnyH_done (by kernel_rfl) ?_ _
              refine NoPanic.normal ?_
              go_wp2_with fail
              go_meet
              refine ⟨rfl, rfl, ?_⟩
              exact ⟨_, rfl, set6 hKB.bel hKB.le, res6 hR (.int .i64 0) (.int .i64 0) (.int .i64 0) (.int .i64 0) (.int .i64 0) (.slice none 0 0)⟩
             exact AllReadyH.nil
            exact AllReadyH.nil
           exact AllReadyH.nil
          exact AllReadyH.nil
         refine AllReadyH.cons (o := { dst := some 64, op := Op.buildSlice 41 2 #[(0, Operand.tmp 61), (1, Operand.tmp 63)], type := 41, pos := "more.go:30", after := #[{ on := 3, ground := Ground.data }, { on := 5, ground := Ground.data }], guard := none }) rfl (fun K hK => ?_) ?_
         ·
          go_simp
          refine hK.out _ _ (by trivial) (fun hHeld => ?_)
          clear hK K
          try simp only [Act.put, setIfInBounds_toArray, set_cons_zero, set_cons_succ]
          refine wpAnyH_take (i := 9) (oi := { dst := some 67, op := Op.indexAddr 41 (Operand.tmp 64) (Operand.tmp 66), type := 0, pos := "more.go:30", after := #[{ on := 6, ground := Ground.data }, { on := 8, ground := Ground.data }], guard := none }) (v := ?_) rfl (by kernel_rfl) (by kernel_rfl) (by kernel_rfl) (fun _ _ _ h => h) (Or.inl ⟨by rfl, ?_⟩) (by assumption) ?_
          rotate_left
          · (intro w hSw; (try dsimp only at hSw); go_simp; all_goals with_reducible rfl)
          try simp only [Act.put, setIfInBounds_toArray, set_cons_zero, set_cons_succ]
          refine wpAnyH_ready (rs := [0, 10]) (by kernel_rfl) (by simp) ?_
          refine AllReadyH.cons (o := { dst := some 58, op := Op.call { callee := Callee.value (Operand.func 18), args := #[], argTypes := #[] }, type := 9, pos := "more.go:30", after := #[], guard := none }) rfl (fun K hK => ?_) ?_
          ·
           go_simp
           go_at_call 18
           refine (C1.out _).mono ?_
           rintro e w4 ⟨rfl, hb4⟩
           have hL := two_call (two_drew (two_new (W3.alloc _) _ _ _)) hb4
           rw [size_al] at hL
           have hKB := KB.call (KB.drew (KB.alloc (KB.new hT) _)) hb4
           have hR := hKB.box
           clear hb4
           refine hK.out _ _ (by trivial) (fun hHeld => ?_)
           clear hK K
           try simp only [Act.put, setIfInBounds_toArray, set_cons_zero, set_cons_succ]
           refine wpAnyH_ready (rs := [10]) (by kernel_rfl) (by simp) ?_
           refine AllReadyH.cons (o := { dst := some 68, op := Op.load 3 (Operand.tmp 67), type := 3, pos := "more.go:30", after := #[{ on := 9, ground := Ground.data }], guard := none }) rfl (fun K hK => ?_) ?_
           ·
            go_simp
            refine hK.out _ _ (by trivial) (fun hHeld => ?_)
            clear hK K
            try simp only [Act.put, setIfInBounds_toArray, set_cons_zero, set_cons_succ]
            refine wpAnyH_ready (rs := [11]) (by kernel_rfl) (by simp) ?_
            refine AllReadyH.cons (o := { dst := some 69, op := Op.call { callee := Callee.value (Operand.func 12), args := #[Operand.tmp 58, Operand.tmp 59, Operand.tmp 68], argTypes := #[9, 24, 3] }, type := 27, pos := "more.go:30", after := #[{ on := 0, ground := Ground.data }, { on := 1, ground := Ground.data }, { on := 10, ground := Ground.data }, { on := 0, ground := Ground.chain }], guard := none }) rfl (fun K hK => ?_) ?_
            ·
             go_simp
             go_at_call 12
             refine (HZ.out _ (by omega) _).mono ?_
             rintro e w5 ⟨rfl, hb5⟩
             replace hKB := KB.call hKB hb5
             replace hR := hKB.box
             clear hb5 hL
             refine hK.out _ _ (by trivial) (fun hHeld => ?_)
             clear hK K
             try simp only [Act.put, setIfInBounds_toArray, set_cons_zero, set_cons_succ]
             refine wpAnyH_take (i := 12) (oi := { dst := some 57, op := Op.move (Operand.tmp 69), type := 27, pos := "more.go:30", after := #[{ on := 11, ground := Ground.data }], guard := none }) (v := ?_) rfl (by kernel_rfl) (by kernel_rfl) (by kernel_rfl) (fun _ _ _ h => h) (Or.inl ⟨by rfl, ?_⟩) (by assumption) ?_
             rotate_left
             · (intro w hSw; (try dsimp only at hSw); go_simp; all_goals with_reducible rfl)
             try simp only [Act.put, setIfInBounds_toArray, set_cons_zero, set_cons_succ]
             refine wpAnyH_take (i := 13) (oi := { dst := some 70, op := Op.extract (Operand.tmp 57) 0, type := 9, pos := "more.go:30", after := #[{ on := 12, ground := Ground.data }], guard := none }) (v := ?_) rfl (by kernel_rfl) (by kernel_rfl) (by kernel_rfl) (fun _ _ _ h => h) (Or.inl ⟨by rfl, ?_⟩) (by assumption) ?_
             rotate_left
             · (intro w hSw; (try dsimp only at hSw); go_simp; all_goals with_reducible rfl)
             try simp only [Act.put, setIfInBounds_toArray, set_cons_zero, set_cons_succ]
             refine wpAnyH_take (i := 14) (oi := { dst := some 71, op := Op.extract (Operand.tmp 57) 1, type := 24, pos := "more.go:30", after := #[{ on := 12, ground := Ground.data }, { on := 17, ground := Ground.gcOnly Departure.lateStores }], guard := none }) (v := ?_) rfl (by kernel_rfl) (by kernel_rfl) (by kernel_rfl) (fun _ _ _ h => h) (Or.inl ⟨by rfl, ?_⟩) (by assumption) ?_
             rotate_left
             · (intro w hSw; (try dsimp only at hSw); go_simp; all_goals with_reducible rfl)
             try simp only [Act.put, setIfInBounds_toArray, set_cons_zero, set_cons_succ]
             refine wpAnyH_take (i := 15) (oi := { dst := some 72, op := Op.extract (Operand.tmp 57) 2, type := 26, pos := "more.go:30", after := #[{ on := 12, ground := Ground.data }, { on := 18, ground := Ground.gcOnly Departure.lateStores }], guard := none }) (v := ?_) rfl (by kernel_rfl) (by kernel_rfl) (by kernel_rfl) (fun _ _ _ h => h) (Or.inl ⟨by rfl, ?_⟩) (by assumption) ?_
             rotate_left
             · (intro w hSw; (try dsimp only at hSw); go_simp; all_goals with_reducible rfl)
             try simp only [Act.put, setIfInBounds_toArray, set_cons_zero, set_cons_succ]
             refine wpAnyH_take (i := 17) (oi := { dst := some 14, op := Op.assign (Operand.tmp 70), type := 9, pos := "more.go:30", after := #[{ on := 13, ground := Ground.data }, { on := 11, ground := Ground.chain }, { on := 0, ground := Ground.phase }, { on := 1, ground := Ground.phase }, { on := 2, ground := Ground.phase }, { on := 3, ground := Ground.phase }, { on := 4, ground := Ground.phase }, { on := 5, ground := Ground.phase }, { on := 6, ground := Ground.phase }, { on := 7, ground := Ground.phase }, { on := 8, ground := Ground.phase }, { on := 9, ground := Ground.phase }, { on := 10, ground := Ground.phase }, { on := 11, ground := Ground.phase }, { on := 12, ground := Ground.phase }, { on := 13, ground := Ground.phase }, { on := 14, ground := Ground.textOnly Departure.lateStores }, { on := 15, ground := Ground.textOnly Departure.lateStores }, { on := 16, ground := Ground.phase }], guard := none }) (v := ?_) rfl (by kernel_rfl) (by kernel_rfl) (by kernel_rfl) (fun _ _ _ h => h) (Or.inl ⟨by rfl, ?_⟩) (by assumption) ?_
             rotate_left
             · (intro w hSw; (try dsimp only at hSw); go_simp; all_goals with_reducible rfl)
             try simp only [Act.put, setIfInBounds_toArray, set_cons_zero, set_cons_succ]
             refine wpAnyH_ready (rs := [18]) (by kernel_rfl) (by simp) ?_
             refine AllReadyH.cons (o := { dst := none, op := Op.store 24 (Operand.tmp 15) (Operand.tmp 71), type := 0, pos := "more.go:30", after := #[{ on := 16, ground := Ground.data }, { on := 14, ground := Ground.data }, { on := 17, ground := Ground.chain }, { on := 0, ground := Ground.phase }, { on := 1, ground := Ground.phase }, { on := 2, ground := Ground.phase }, { on := 3, ground := Ground.phase }, { on := 4, ground := Ground.phase }, { on := 5, ground := Ground.phase }, { on := 6, ground := Ground.phase }, { on := 7, ground := Ground.phase }, { on := 8, ground := Ground.phase }, { on := 9, ground := Ground.phase }, { on := 10, ground := Ground.phase }, { on := 11, ground := Ground.phase }, { on := 12, ground := Ground.phase }, { on := 13, ground := Ground.phase }, { on := 14, ground := Ground.phase }, { on := 15, ground := Ground.textOnly Departure.lateStores }, { on := 16, ground := Ground.phase }, { on := 17, ground := Ground.phase }], guard := none }) rfl (fun K hK => ?_) ?_
             ·
              go_simp
              refine hK.out _ _ (by trivial) (fun hHeld => ?_)
              clear hK K
              try simp only [Act.put, setIfInBounds_toArray, set_cons_zero, set_cons_succ]
              refine wpAnyH_take (i := 19) (oi := { dst := some 16, op := Op.assign (Operand.tmp 72), type := 26, pos := "more.go:30", after := #[{ on := 15, ground := Ground.data }, { on := 18, ground := Ground.chain }, { on := 0, ground := Ground.phase }, { on := 1, ground := Ground.phase }, { on := 2, ground := Ground.phase }, { on := 3, ground := Ground.phase }, { on := 4, ground := Ground.phase }, { on := 5, ground := Ground.phase }, { on := 6, ground := Ground.phase }, { on := 7, ground := Ground.phase }, { on := 8, ground := Ground.phase }, { on := 9, ground := Ground.phase }, { on := 10, ground := Ground.phase }, { on := 11, ground := Ground.phase }, { on := 12, ground := Ground.phase }, { on := 13, ground := Ground.phase }, { on := 14, ground := Ground.phase }, { on := 15, ground := Ground.phase }, { on := 16, ground := Ground.phase }, { on := 17, ground := Ground.phase }, { on := 18, ground := Ground.phase }], guard := none }) (v := ?_) rfl (by kernel_rfl) (by kernel_rfl) (by kernel_rfl) (fun _ _ _ h => h) (Or.inl ⟨by rfl, ?_⟩) (by assumption) ?_
              rotate_left
              · (intro w hSw; (try dsimp only at hSw); go_simp; all_goals with_reducible rfl)
              try simp only [Act.put, setIfInBounds_toArray, set_cons_zero, set_cons_succ]
              refine wpAnyH_done (by kernel_rfl) ?_ _
              refine NoPanic.normal ?_
              go_wp2_with fail
              go_meet
              refine ⟨rfl, rfl, ?_⟩
              exact ⟨_, rfl, set6 hKB.bel hKB.le, res6 hR (.int .i64 0) (.int .i64 0) (.int .i64 0) (.int .i64 0) (.int .i64 0) (.slice none 0 0)⟩
             exact AllReadyH.nil
            exact AllReadyH.nil
           exact AllReadyH.nil
          refine AllReadyH.cons (o := { dst := some 68, op := Op.load 3 (Operand.tmp 67), type := 3, pos := "more.go:30", after := #[{ on := 9, ground := Ground.data }], guard := none }) rfl (fun K hK => ?_) ?_
          ·
           go_simp
           refine hK.out _ _ (by trivial) (fun hHeld => ?_)
           clear hK K
           try simp only [Act.put, setIfInBounds_toArray, set_cons_zero, set_cons_succ]
           refine wpAnyH_ready (rs := [0]) (by kernel_rfl) (by simp) ?_
           refine AllReadyH.cons (o := { dst := some 58, op := Op.call { callee := Callee.value (Operand.func 18), args := #[], argTypes := #[] }, type := 9, pos := "more.go:30", after := #[], guard := none }) rfl (fun K hK => ?_) ?_
           ·
            go_simp
            go_at_call 18
            refine (C1.out _).mono ?_
            rintro e w4 ⟨rfl, hb4⟩
            have hL := two_call (two_drew (two_new (W3.alloc _) _ _ _)) hb4
            rw [size_al] at hL
            have hKB := KB.call (KB.drew (KB.alloc (KB.new hT) _)) hb4
            have hR := hKB.box
            clear hb4
            refine hK.out _ _ (by trivial) (fun hHeld => ?_)
            clear hK K
            try simp only [Act.put, setIfInBounds_toArray, set_cons_zero, set_cons_succ]
            refine wpAnyH_ready (rs := [11]) (by kernel_rfl) (by simp) ?_
            refine AllReadyH.cons (o := { dst := some 69, op := Op.call { callee := Callee.value (Operand.func 12), args := #[Operand.tmp 58, Operand.tmp 59, Operand.tmp 68], argTypes := #[9, 24, 3] }, type := 27, pos := "more.go:30", after := #[{ on := 0, ground := Ground.data }, { on := 1, ground := Ground.data }, { on := 10, ground := Ground.data }, { on := 0, ground := Ground.chain }], guard := none }) rfl (fun K hK => ?_) ?_
            ·
             go_simp
             go_at_call 12
             refine (HZ.out _ (by omega) _).mono ?_
             rintro e w5 ⟨rfl, hb5⟩
             replace hKB := KB.call hKB hb5
             replace hR := hKB.box
             clear hb5 hL
             refine hK.out _ _ (by trivial) (fun hHeld => ?_)
             clear hK K
             try simp only [Act.put, setIfInBounds_toArray, set_cons_zero, set_cons_succ]
             refine wpAnyH_take (i := 12) (oi := { dst := some 57, op := Op.move (Operand.tmp 69), type := 27, pos := "more.go:30", after := #[{ on := 11, ground := Ground.data }], guard := none }) (v := ?_) rfl (by kernel_rfl) (by kernel_rfl) (by kernel_rfl) (fun _ _ _ h => h) (Or.inl ⟨by rfl, ?_⟩) (by assumption) ?_
             rotate_left
             · (intro w hSw; (try dsimp only at hSw); go_simp; all_goals with_reducible rfl)
             try simp only [Act.put, setIfInBounds_toArray, set_cons_zero, set_cons_succ]
             refine wpAnyH_take (i := 13) (oi := { dst := some 70, op := Op.extract (Operand.tmp 57) 0, type := 9, pos := "more.go:30", after := #[{ on := 12, ground := Ground.data }], guard := none }) (v := ?_) rfl (by kernel_rfl) (by kernel_rfl) (by kernel_rfl) (fun _ _ _ h => h) (Or.inl ⟨by rfl, ?_⟩) (by assumption) ?_
             rotate_left
             · (intro w hSw; (try dsimp only at hSw); go_simp; all_goals with_reducible rfl)
             try simp only [Act.put, setIfInBounds_toArray, set_cons_zero, set_cons_succ]
             refine wpAnyH_take (i := 14) (oi := { dst := some 71, op := Op.extract (Operand.tmp 57) 1, type := 24, pos := "more.go:30", after := #[{ on := 12, ground := Ground.data }, { on := 17, ground := Ground.gcOnly Departure.lateStores }], guard := none }) (v := ?_) rfl (by kernel_rfl) (by kernel_rfl) (by kernel_rfl) (fun _ _ _ h => h) (Or.inl ⟨by rfl, ?_⟩) (by assumption) ?_
             rotate_left
             · (intro w hSw; (try dsimp only at hSw); go_simp; all_goals with_reducible rfl)
             try simp only [Act.put, setIfInBounds_toArray, set_cons_zero, set_cons_succ]
             refine wpAnyH_take (i := 15) (oi := { dst := some 72, op := Op.extract (Operand.tmp 57) 2, type := 26, pos := "more.go:30", after := #[{ on := 12, ground := Ground.data }, { on := 18, ground := Ground.gcOnly Departure.lateStores }], guard := none }) (v := ?_) rfl (by kernel_rfl) (by kernel_rfl) (by kernel_rfl) (fun _ _ _ h => h) (Or.inl ⟨by rfl, ?_⟩) (by assumption) ?_
             rotate_left
             · (intro w hSw; (try dsimp only at hSw); go_simp; all_goals with_reducible rfl)
             try simp only [Act.put, setIfInBounds_toArray, set_cons_zero, set_cons_succ]
             refine wpAnyH_take (i := 17) (oi := { dst := some 14, op := Op.assign (Operand.tmp 70), type := 9, pos := "more.go:30", after := #[{ on := 13, ground := Ground.data }, { on := 11, ground := Ground.chain }, { on := 0, ground := Ground.phase }, { on := 1, ground := Ground.phase }, { on := 2, ground := Ground.phase }, { on := 3, ground := Ground.phase }, { on := 4, ground := Ground.phase }, { on := 5, ground := Ground.phase }, { on := 6, ground := Ground.phase }, { on := 7, ground := Ground.phase }, { on := 8, ground := Ground.phase }, { on := 9, ground := Ground.phase }, { on := 10, ground := Ground.phase }, { on := 11, ground := Ground.phase }, { on := 12, ground := Ground.phase }, { on := 13, ground := Ground.phase }, { on := 14, ground := Ground.textOnly Departure.lateStores }, { on := 15, ground := Ground.textOnly Departure.lateStores }, { on := 16, ground := Ground.phase }], guard := none }) (v := ?_) rfl (by kernel_rfl) (by kernel_rfl) (by kernel_rfl) (fun _ _ _ h => h) (Or.inl ⟨by rfl, ?_⟩) (by assumption) ?_
             rotate_left
             · (intro w hSw; (try dsimp only at hSw); go_simp; all_goals with_reducible rfl)
             try simp only [Act.put, setIfInBounds_toArray, set_cons_zero, set_cons_succ]
             refine wpAnyH_ready (rs := [18]) (by kernel_rfl) (by simp) ?_
             refine AllReadyH.cons (o := { dst := none, op := Op.store 24 (Operand.tmp 15) (Operand.tmp 71), type := 0, pos := "more.go:30", after := #[{ on := 16, ground := Ground.data }, { on := 14, ground := Ground.data }, { on := 17, ground := Ground.chain }, { on := 0, ground := Ground.phase }, { on := 1, ground := Ground.phase }, { on := 2, ground := Ground.phase }, { on := 3, ground := Ground.phase }, { on := 4, ground := Ground.phase }, { on := 5, ground := Ground.phase }, { on := 6, ground := Ground.phase }, { on := 7, ground := Ground.phase }, { on := 8, ground := Ground.phase }, { on := 9, ground := Ground.phase }, { on := 10, ground := Ground.phase }, { on := 11, ground := Ground.phase }, { on := 12, ground := Ground.phase }, { on := 13, ground := Ground.phase }, { on := 14, ground := Ground.phase }, { on := 15, ground := Ground.textOnly Departure.lateStores }, { on := 16, ground := Ground.phase }, { on := 17, ground := Ground.phase }], guard := none }) rfl (fun K hK => ?_) ?_
             ·
              go_simp
              refine hK.out _ _ (by trivial) (fun hHeld => ?_)
              clear hK K
              try simp only [Act.put, setIfInBounds_toArray, set_cons_zero, set_cons_succ]
              refine wpAnyH_take (i := 19) (oi := { dst := some 16, op := Op.assign (Operand.tmp 72), type := 26, pos := "more.go:30", after := #[{ on := 15, ground := Ground.data }, { on := 18, ground := Ground.chain }, { on := 0, ground := Ground.phase }, { on := 1, ground := Ground.phase }, { on := 2, ground := Ground.phase }, { on := 3, ground := Ground.phase }, { on := 4, ground := Ground.phase }, { on := 5, ground := Ground.phase }, { on := 6, ground := Ground.phase }, { on := 7, ground := Ground.phase }, { on := 8, ground := Ground.phase }, { on := 9, ground := Ground.phase }, { on := 10, ground := Ground.phase }, { on := 11, ground := Ground.phase }, { on := 12, ground := Ground.phase }, { on := 13, ground := Ground.phase }, { on := 14, ground := Ground.phase }, { on := 15, ground := Ground.phase }, { on := 16, ground := Ground.phase }, { on := 17, ground := Ground.phase }, { on := 18, ground := Ground.phase }], guard := none }) (v := ?_) rfl (by kernel_rfl) (by kernel_rfl) (by kernel_rfl) (fun _ _ _ h => h) (Or.inl ⟨by rfl, ?_⟩) (by assumption) ?_
              rotate_left
              · (intro w hSw; (try dsimp only at hSw); go_simp; all_goals with_reducible rfl)
              try simp only [Act.put, setIfInBounds_toArray, set_cons_zero, set_cons_succ]
              refine wpAnyH_done (by kernel_rfl) ?_ _
              refine NoPanic.normal ?_
              go_wp2_with fail
              go_meet
              refine ⟨rfl, rfl, ?_⟩
              exact ⟨_, rfl, set6 hKB.bel hKB.le, res6 hR (.int .i64 0) (.int .i64 0) (.int .i64 0) (.int .i64 0) (.int .i64 0) (.slice none 0 0)⟩
             exact AllReadyH.nil
            exact AllReadyH.nil
           exact AllReadyH.nil
          exact AllReadyH.nil
         exact AllReadyH.nil
        exact AllReadyH.nil
    case rest =>
      clear hT
      obtain ⟨rfl, rfl, G, rfl, hb, hC⟩ := hcut
      replace hB := Bytes.thenB hB hb
      replace hP := resB hP hb
      replace hQ := resB hQ hb
      replace hJ := hJ.below hb
      clear hb HZ q1 q2
      go_wp2_with fail
      refine (C5.out _ _ hJ).mono ?_; rintro e u5 ⟨rfl, hb⟩; replace hB := thenB hB hb; replace hQ := resB hQ hb; replace hC := resB hC hb; clear hb hP hJ C5
      go_wp2_with (go_at_call 15; refine (num_any _ _).mono ?_; rintro e w' ⟨rfl, rfl⟩)
      refine (same_bare _ _ _ _ _ _).mono ?_; rintro e u6 ⟨rfl, hb⟩; replace hB := thenB hB hb; replace hC := resB hC hb; clear hb hQ
      go_wp2_with (go_at_call 15; refine (num_any _ _).mono ?_; rintro e w' ⟨rfl, rfl⟩)
      refine (same_bare _ _ _ _ _ _).mono ?_; rintro e u7 ⟨rfl, hb⟩; replace hB := thenB hB hb; clear hb hC
      go_wp2_with (go_at_call 15; refine (num_any _ _).mono ?_; rintro e w' ⟨rfl, rfl⟩)
      go_ret
      exact ⟨rfl, hB⟩

set_option maxRecDepth 100000 in
theorem lifted (os : Os) (started : os.Started) (H : Type) (enc : TypeId × Value → H) :
    ReturnsInHanded {} Try.checked os 4 .any (Rows.tickFormsSpec.pre6 enc Try.prog Try.f4 Rows.tickFormsRow.domain false) (Rows.tickFormsSpec.post enc Try.prog Try.f4 false true false false) := by
  refine returnsInHanded_of_change (C := Try.checked) own started (by kernel_rfl) Try.func4
    (ChangeSpec.witness6 (enc := enc) (C := Try.checked) false ⟨#[], #[.int .i64 0, .int .i64 0], []⟩ 8 (by kernel_rfl) (by kernel_rfl) (by kernel_rfl) (by kernel_rfl)) ?_
  intro W base args ds gs before hval0 hW hcnd _
  have hval : ∀ (j : Nat) t v, Try.f4.params[j]? = some t → args[j]? = some v → Value.okWide Try.prog W .any base t v := hval0
  have hW' := hW
  obtain ⟨p, q, hA0, hV, rfl, hfz, hnd⟩ := hW
  have hA : DataW.TrodAll enc Try.prog W 0 (fun _ => true) true Try.f4.params.toList args.toList ds p := hA0
  rw [Try.params4] at hA hval
  obtain ⟨v0, vs0, d0, ds0, p0, q0, hargs, rfl, rfl, h0, r0⟩ := trodAll_cons hA
  obtain ⟨v1, vs1, d1, ds1, p1, q1, rfl, rfl, rfl, h1, r1⟩ := trodAll_cons r0
  obtain ⟨rfl, rfl, rfl⟩ := trodAll_nil r1
  obtain rfl : args = #[v0, v1] := by cases args; simp_all
  obtain ⟨rfl, rfl⟩ := trodVars_none hV
  obtain ⟨a0, rfl, rfl, rfl, w0⟩ := open_int Try.underlying3 (hval 0 3 v0 rfl rfl) h0
  obtain ⟨a1, rfl, rfl, rfl, w1⟩ := open_int Try.underlying3 (hval 1 3 v1 rfl rfl) h1
  clear hA0 hval0
  refine (walk a0 a1 w0 w1 W).mono fun e W' ⟨he, bel⟩ => ?_
  subst he
  exact ⟨_, rfl, _, _, _, [], _, [], hW', (trodAll_cons_mk (shut_bool Try.underlying4 _) trodAll_mk0), (trodAll_cons_mk (shut_int Try.underlying3 w0) (trodAll_cons_mk (shut_int Try.underlying3 w1) trodAll_mk0)), rfl, bel.frame _, fun h => by cases h⟩

theorem over : Rows.tickFormsRow.holds Try.pinned (OpenSpec.ofChange Rows.tickFormsSpec) :=
  OpenClaim.holds_of_wide 4 Try.f4 rfl rfl rfl rfl rfl rfl rfl ⟨rfl, rfl, rfl, rfl, rfl⟩ rfl rfl rfl rfl rfl (by kernel_rfl) Try.func4 (by kernel_rfl)
    (of_decide_eq_true (by kernel_rfl)) (by unfold Func.isWrapper; first | (rw [if_pos (by decide +kernel)]; kernel_rfl) | (rw [if_neg (by decide +kernel)]; exact ⟨rfl, rfl⟩))
    (fun os started H enc _ => lifted os started H enc)

theorem proved : Rows.TickFormsSaid :=
  over
#print axioms proved
end Go.Proofs.Ytmbgdidelbkdgaa.tickForms
