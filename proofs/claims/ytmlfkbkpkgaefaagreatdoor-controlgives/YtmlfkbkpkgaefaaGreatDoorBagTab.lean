/- What may be asked when, on plain numbers: which requests hang on the state, and which are always allowed. -/
import Derived.Test.YtmlfkbkpkgaefaaGreatDoorBagAns
import Derived.Test.YtmlfkbkpkgaefaaGreatDoorBagSet
import Derived.Test.YtmlfkbkpkgaefaaGreatDoorBagNor
import Derived.Test.YtmlfkbkpkgaefaaGreatDoorTie
import Derived.ProofKit
import Derived.OpenShut
import Derived.Below
import Derived.LaidLaws
import Derived.MakeChecks
import Derived.Laws.StructEq
import Derived.Deep.Cut
namespace Go.Proofs.YtmlfkbkpkgaefaaGreatDoor.Tab

/-- The table's rows: a state and a request. -/
def tabL : List (Int × Int) := [(0, 1), (3, 1), (0, 2), (6, 2), (7, 4), (0, 6), (3, 6), (6, 6)]
/-- Is it one of the table's first rows? -/
def inTo (s c : Int) (n : Nat) : Bool := (tabL.take n).any fun x => x.1 == s && x.2 == c
def liB (s c : Int) : Bool := inTo s c 8
def alB (c : Int) : Bool := decide (c = 3 ∨ c = 5)
/-- Are both numbers what they should be? -/
def tokB (s c : Int) : Bool := decide ((0 ≤ s ∧ s ≤ 7) ∧ 0 ≤ c ∧ c ≤ 6)
/-- May it be asked? -/
def tabB (s c : Int) : Bool := tokB s c && (alB c || liB s c)
def errT (b : Bool) : Int := if b then 0 else 1500
theorem errT_t : errT true = 0 := rfl
theorem errT_f : errT false = 1500 := rfl
theorem tok_parts {s c : Int} : tokB s c = true ↔ (0 ≤ s ∧ s ≤ 7) ∧ 0 ≤ c ∧ c ≤ 6 := by unfold tokB; exact decide_eq_true_iff
theorem tok_no {s c : Int} (h : ¬ ((0 ≤ s ∧ s ≤ 7) ∧ 0 ≤ c ∧ c ≤ 6)) : tokB s c = false := decide_eq_false h
theorem tab_no {s c : Int} (h : tokB s c = false) : tabB s c = false := by unfold tabB; rw [h]; rfl
theorem inTo_zero (s c : Int) : inTo s c 0 = false := rfl
theorem inTo_succ {s c : Int} {n : Nat} {a b : Int} (h : tabL[n]? = some (a, b)) : inTo s c (n + 1) = (inTo s c n || (a == s && b == c)) := by
  unfold inTo
  rw [List.take_add_one, h, List.any_append]
  simp
/-- A row that is met early is met. -/
theorem inTo_mono {s c : Int} {n : Nat} (h : inTo s c n = true) : liB s c = true := by
  unfold inTo at h
  unfold liB inTo
  rw [List.any_eq_true] at h ⊢
  obtain ⟨x, hx, hp⟩ := h
  refine ⟨x, ?_, hp⟩
  rw [List.take_of_length_le (show tabL.length ≤ 8 from Nat.le_refl 8)]
  exact List.mem_of_mem_take hx
/-- The eight states, the seven requests. -/
theorem states {s : Int} (h1 : 0 ≤ s) (h2 : s ≤ 7) : s = 0 ∨ s = 1 ∨ s = 2 ∨ s = 3 ∨ s = 4 ∨ s = 5 ∨ s = 6 ∨ s = 7 := by omega
theorem codes {c : Int} (h1 : 0 ≤ c) (h2 : c ≤ 6) : c = 0 ∨ c = 1 ∨ c = 2 ∨ c = 3 ∨ c = 4 ∨ c = 5 ∨ c = 6 := by omega
end Go.Proofs.YtmlfkbkpkgaefaaGreatDoor.Tab

/- What package table's variable holds: the row's condition gives its sixteen cells; they stay behind every call told by Below. -/
namespace Go.Proofs.YtmlfkbkpkgaefaaGreatDoor.TabLaid
open Go.Proofs.YtmlfkbkpkgaefaaGreatDoor Go.RowKit Go.Proofs.YtmlfkbkpkgaefaaGreatDoor.Tab

/-- A listed variable's own reading. -/
theorem of_vars {P : Program} {w : World} : ∀ {l : List (String × DataW Unit)} {ps : List MemPlace}, DataW.LaidVars P w l ps → ∀ {n : String} {d : DataW Unit}, (n, d) ∈ l → ∃ g t cs fuel p, P.globalNamed n = some g ∧ (P.globals[g]?).map (·.type) = some t ∧ w.var? P n = some cs ∧ DataW.trod (fun _ => ()) P w 0 (fun _ => true) false fuel t cs.toList = some (d, p)
  | [], _, _, _, _, hm => by cases hm
  | (n', d') :: r, ps, ⟨g, t, cs, fuel, p, q, h1, h2, h3, h4, h5, _⟩, n, d, hm => by
    rcases List.mem_cons.1 hm with e | e
    · cases e
      exact ⟨g, t, cs, fuel, p, h1, h2, h3, h4⟩
    · exact of_vars h5 e
/-- The sixteen cells. -/
def tabV : Array Value := #[.int .i64 0, .int .i64 1, .int .i64 3, .int .i64 1, .int .i64 0, .int .i64 2, .int .i64 6, .int .i64 2, .int .i64 7, .int .i64 4, .int .i64 0, .int .i64 6, .int .i64 3, .int .i64 6, .int .i64 6, .int .i64 6]
def TabAt (w : World) : Prop := ∀ i x, tabV[i]? = some x → w.cell? ⟨0, i, none⟩ = some x
theorem TabAt.below {w w' : World} (h : TabAt w) (hb : Below w.heap.size w w') : TabAt w' := by
  intro i x hx
  have h1 := h i x hx
  rw [hb.cell (p := ⟨0, i, none⟩) (World.block_lt_of_cell? _ (a := ⟨0, i, none⟩) h1)]
  exact h1
theorem cells43 : Tryz.prog.cellsOf 128 = 2 := by kernel_rfl
theorem cells44 : Tryz.prog.cellsOf 139 = 16 := by kernel_rfl
theorem cells3 : Tryz.prog.cellsOf 3 = 1 := by kernel_rfl
theorem gTab : Tryz.prog.globalNamed "skiff/table.allowed" = some 0 := by kernel_rfl
theorem gTabType : (Tryz.prog.globals[0]?).map (·.type) = some 139 := by kernel_rfl
/-- Two cells that read as a pair of numbers. -/
theorem pair_of {w : World} {m : Nat} {c d : Value} {x : DataW Unit × List MemPlace} {a b : Int} (h : DataW.trod (fun _ => ()) Tryz.prog w 0 (fun _ => true) false m 128 [c, d] = some x) (hx : x.1 = .agg [.lit (.int .i64 a), .lit (.int .i64 b)]) : c = .int .i64 a ∧ d = .int .i64 b := by
  obtain ⟨y0, y1, n, rfl, _, h0, h1⟩ := ChangeShapes.trod_struct2 Tryz.underlying128 h
  simp only [cells3] at h0 h1
  obtain ⟨k0, e0, f0, _⟩ := DataW.trod_int Tryz.underlying3 h0
  obtain ⟨k1, e1, f1, _⟩ := DataW.trod_int Tryz.underlying3 h1
  subst f0 f1
  simp at hx e0 e1
  obtain ⟨rfl, rfl⟩ := hx
  exact ⟨e0, e1⟩
theorem tab_of_laid {W : World} {l : List (String × DataW Unit)} (h : laidMetH Tryz.prog l W) (hp : (l.all fun x => x.2.handleName?.isNone) = true) (hm : ("skiff/table.allowed", Rows.laid_skiff_table_allowed) ∈ l) : TabAt W := by
  rw [MakeChecks.laidMetH_plain _ _ _ hp] at h
  obtain ⟨ps, hv, _, _⟩ := h
  obtain ⟨g, t, cs, fuel, p, hg, ht, hvar, hd⟩ := of_vars hv hm
  obtain rfl := Option.some.inj (gTab.symm.trans hg)
  obtain rfl := Option.some.inj (gTabType.symm.trans ht)
  obtain ⟨xs, m, _, hx, hlen, hn, hel⟩ := DataW.trod_array Tryz.underlying139 hd
  rw [cells44] at hlen
  simp only [cells43] at hel
  obtain ⟨l⟩ := cs
  have hxs := congrArg Prod.fst hx
  simp only [Rows.laid_skiff_table_allowed, DataW.agg.injEq] at hxs
  match xs, hn, hxs, hel with
  | [x0, x1, x2, x3, x4, x5, x6, x7], _, hxs, hel =>
  match l, hlen with
  | [c0, c1, c2, c3, c4, c5, c6, c7, c8, c9, c10, c11, c12, c13, c14, c15], _ =>
    simp only [List.map_cons, List.map_nil, List.cons.injEq, and_true] at hxs
    obtain ⟨e0, e1, e2, e3, e4, e5, e6, e7⟩ := hxs
    obtain ⟨rfl, rfl⟩ := pair_of (c := c0) (d := c1) (hel 0 (by decide)) e0.symm
    obtain ⟨rfl, rfl⟩ := pair_of (c := c2) (d := c3) (hel 1 (by decide)) e1.symm
    obtain ⟨rfl, rfl⟩ := pair_of (c := c4) (d := c5) (hel 2 (by decide)) e2.symm
    obtain ⟨rfl, rfl⟩ := pair_of (c := c6) (d := c7) (hel 3 (by decide)) e3.symm
    obtain ⟨rfl, rfl⟩ := pair_of (c := c8) (d := c9) (hel 4 (by decide)) e4.symm
    obtain ⟨rfl, rfl⟩ := pair_of (c := c10) (d := c11) (hel 5 (by decide)) e5.symm
    obtain ⟨rfl, rfl⟩ := pair_of (c := c12) (d := c13) (hel 6 (by decide)) e6.symm
    obtain ⟨rfl, rfl⟩ := pair_of (c := c14) (d := c15) (hel 7 (by decide)) e7.symm
    intro i x hx
    rw [World.var?_cell gTab hvar i]
    exact hx
end Go.Proofs.YtmlfkbkpkgaefaaGreatDoor.TabLaid

/- The contracts of package table: each call returns what the plain functions give, whatever its arguments, where the table's variable holds its rows; of what was there nothing has turned. -/
namespace Go.Proofs.YtmlfkbkpkgaefaaGreatDoor.TabWalk
open Go.Proofs.YtmlfkbkpkgaefaaGreatDoor Go.RowKit Go.Proofs.YtmlfkbkpkgaefaaGreatDoor.Bytes Go.Proofs.YtmlfkbkpkgaefaaGreatDoor.NorWalk Go.Proofs.YtmlfkbkpkgaefaaGreatDoor.Tab Go.Proofs.YtmlfkbkpkgaefaaGreatDoor.TabLaid

theorem always_any (c : Int) (w : World) : Calls Tryz.prog 84 #[.int .i64 c] w fun e w' => e = .returned (.bool (alB c)) ∧ w' = w := by
  go_enter Tryz.func84, Tryz.ntmps84
  go_wp2
  all_goals
    go_ret
    exact ⟨ret_bool (by unfold alB; rw [Bool.eq_iff_iff]; simp; try omega), rfl⟩
/-- A struct of two cells in a block of its own. -/
theorem box2M (w : World) (x y : Value) (e : TypeId) : w.heap.size < (w.alloc (.cells #[x, y] e)).heap.size ∧ (w.alloc (.cells #[x, y] e)).cell? ⟨w.heap.size, 0, none⟩ = some x ∧ (w.alloc (.cells #[x, y] e)).cell? ⟨w.heap.size, 1, none⟩ = some y :=
  ⟨by simp, by rw [World.cell?_alloc_at _ e _ _ rfl]; rfl, by rw [World.cell?_alloc_at _ e _ _ rfl]; rfl⟩
theorem box2B {w w' : World} {B : Nat} {x y : Value} (h : B < w.heap.size ∧ w.cell? ⟨B, 0, none⟩ = some x ∧ w.cell? ⟨B, 1, none⟩ = some y) (hb : Below w.heap.size w w') : B < w'.heap.size ∧ w'.cell? ⟨B, 0, none⟩ = some x ∧ w'.cell? ⟨B, 1, none⟩ = some y :=
  ⟨Nat.lt_of_lt_of_le h.1 hb.size, by rw [hb.cell (p := ⟨B, 0, none⟩) h.1]; exact h.2.1, by rw [hb.cell (p := ⟨B, 1, none⟩) h.1]; exact h.2.2⟩
/-- The table, read at one of its rows. -/
theorem idx (n : Nat) (hn : n < 8) : ∃ a b, tabL[n]? = some (a, b) ∧ ∀ w, (Instr.index 139 (.agg #[.int .i64 0, .int .i64 1, .int .i64 3, .int .i64 1, .int .i64 0, .int .i64 2, .int .i64 6, .int .i64 2, .int .i64 7, .int .i64 4, .int .i64 0, .int .i64 6, .int .i64 3, .int .i64 6, .int .i64 6, .int .i64 6]) (.int .i64 (n : Int))).run Tryz.prog w = .ok (.agg #[.int .i64 a, .int .i64 b]) w := by
  rcases (by omega : n = 0 ∨ n = 1 ∨ n = 2 ∨ n = 3 ∨ n = 4 ∨ n = 5 ∨ n = 6 ∨ n = 7) with rfl | rfl | rfl | rfl | rfl | rfl | rfl | rfl
  · exact ⟨0, 1, rfl, fun w => by kernel_rfl⟩
  · exact ⟨3, 1, rfl, fun w => by kernel_rfl⟩
  · exact ⟨0, 2, rfl, fun w => by kernel_rfl⟩
  · exact ⟨6, 2, rfl, fun w => by kernel_rfl⟩
  · exact ⟨7, 4, rfl, fun w => by kernel_rfl⟩
  · exact ⟨0, 6, rfl, fun w => by kernel_rfl⟩
  · exact ⟨3, 6, rfl, fun w => by kernel_rfl⟩
  · exact ⟨6, 6, rfl, fun w => by kernel_rfl⟩
set_option maxRecDepth 100000 in
set_option maxHeartbeats 4000000 in
theorem listed_any (s c : Int) (w : World) (hT : TabAt w) : Calls Tryz.prog 85 #[.agg #[.int .i64 s, .int .i64 c]] w fun e w' => e = .returned (.bool (liB s c)) ∧ Below w.heap.size w w' := by
  have hB := (Below.refl w.heap.size w).alloc (Nat.le_refl _) (.cells #[.int .i64 s, .int .i64 c] 128)
  have hT1 := hT.below hB
  have hX := box2M w (.int .i64 s) (.int .i64 c) 128
  have c0 : (w.alloc (.cells #[.int .i64 s, .int .i64 c] 128)).cell? ⟨0, 0, none⟩ = some (.int .i64 0) := hT1 0 _ rfl
  have c1 : (w.alloc (.cells #[.int .i64 s, .int .i64 c] 128)).cell? ⟨0, 1, none⟩ = some (.int .i64 1) := hT1 1 _ rfl
  have c2 : (w.alloc (.cells #[.int .i64 s, .int .i64 c] 128)).cell? ⟨0, 2, none⟩ = some (.int .i64 3) := hT1 2 _ rfl
  have c3 : (w.alloc (.cells #[.int .i64 s, .int .i64 c] 128)).cell? ⟨0, 3, none⟩ = some (.int .i64 1) := hT1 3 _ rfl
  have c4 : (w.alloc (.cells #[.int .i64 s, .int .i64 c] 128)).cell? ⟨0, 4, none⟩ = some (.int .i64 0) := hT1 4 _ rfl
  have c5 : (w.alloc (.cells #[.int .i64 s, .int .i64 c] 128)).cell? ⟨0, 5, none⟩ = some (.int .i64 2) := hT1 5 _ rfl
  have c6 : (w.alloc (.cells #[.int .i64 s, .int .i64 c] 128)).cell? ⟨0, 6, none⟩ = some (.int .i64 6) := hT1 6 _ rfl
  have c7 : (w.alloc (.cells #[.int .i64 s, .int .i64 c] 128)).cell? ⟨0, 7, none⟩ = some (.int .i64 2) := hT1 7 _ rfl
  have c8 : (w.alloc (.cells #[.int .i64 s, .int .i64 c] 128)).cell? ⟨0, 8, none⟩ = some (.int .i64 7) := hT1 8 _ rfl
  have c9 : (w.alloc (.cells #[.int .i64 s, .int .i64 c] 128)).cell? ⟨0, 9, none⟩ = some (.int .i64 4) := hT1 9 _ rfl
  have c10 : (w.alloc (.cells #[.int .i64 s, .int .i64 c] 128)).cell? ⟨0, 10, none⟩ = some (.int .i64 0) := hT1 10 _ rfl
  have c11 : (w.alloc (.cells #[.int .i64 s, .int .i64 c] 128)).cell? ⟨0, 11, none⟩ = some (.int .i64 6) := hT1 11 _ rfl
  have c12 : (w.alloc (.cells #[.int .i64 s, .int .i64 c] 128)).cell? ⟨0, 12, none⟩ = some (.int .i64 3) := hT1 12 _ rfl
  have c13 : (w.alloc (.cells #[.int .i64 s, .int .i64 c] 128)).cell? ⟨0, 13, none⟩ = some (.int .i64 6) := hT1 13 _ rfl
  have c14 : (w.alloc (.cells #[.int .i64 s, .int .i64 c] 128)).cell? ⟨0, 14, none⟩ = some (.int .i64 6) := hT1 14 _ rfl
  have c15 : (w.alloc (.cells #[.int .i64 s, .int .i64 c] 128)).cell? ⟨0, 15, none⟩ = some (.int .i64 6) := hT1 15 _ rfl
  go_enter Tryz.func85, Tryz.ntmps85
  go_upto_region 2 with fail
  clear c0 c1 c2 c3 c4 c5 c6 c7 c8 c9 c10 c11 c12 c13 c14 c15 hT hT1
  have HI := hide idx
  generalize Value.agg #[.int .i64 0, .int .i64 1, .int .i64 3, .int .i64 1, .int .i64 0, .int .i64 2, .int .i64 6, .int .i64 2, .int .i64 7, .int .i64 4, .int .i64 0, .int .i64 6, .int .i64 3, .int .i64 6, .int .i64 6, .int .i64 6] = T at *
  go_loopw [6] (fun x wr => ∃ n : Nat, n ≤ 8 ∧ x = .int .i64 (n : Int) ∧ Hid (inTo s c n = false) ∧ (w.heap.size < wr.heap.size ∧ wr.cell? ⟨w.heap.size, 0, none⟩ = some (.int .i64 s) ∧ wr.cell? ⟨w.heap.size, 1, none⟩ = some (.int .i64 c)) ∧ Below w.heap.size w wr) (fun x _ => 8 - (intOf x).toNat)
  case atStart => exact ⟨0, by omega, rfl, inTo_zero s c, hX, hB⟩
  case round =>
    clear hX hB
    obtain ⟨n, hn, rfl, HN, hX, hB⟩ := hrel
    by_cases hlt : n < 8
    · obtain ⟨a, b, hr, hI⟩ := HI.out n hlt
      have HS := hide (inTo_succ (s := s) (c := c) hr)
      have hl : (n : Int) < 8 := by omega
      clear hr HI hn hlt
      have hs : w.heap.size ≤ wr.heap.size := hB.size
      have hX2 := box2B hX ((Below.refl _ wr).alloc (Nat.le_refl _) (.cells #[.int .i64 a, .int .i64 b] 128))
      have hB2 := hB.alloc hs (.cells #[.int .i64 a, .int .i64 b] 128)
      have hc : (a = s ∧ b = c) ∨ ((a = s ∧ ¬ b = c) ∨ ¬ a = s) := by omega
      rcases hc with ⟨rfl, rfl⟩ | hc
      · have HL : Hid (liB a b = true) := inTo_mono (n := n + 1) (by rw [HS.out]; simp)
        go_wp2
        go_ret
        exact ⟨ret_bool HL.out.symm, hB2⟩
      · have HL : Hid (inTo s c (n + 1) = false) := by
          show inTo s c (n + 1) = false
          rw [HS.out, HN.out]
          rcases hc with ⟨h1, h2⟩ | h1
          · simp [h2]
          · simp [h1]
        have HQ : Hid ((n : Int) < 8) := hl
        rcases hc with ⟨rfl, h2⟩ | h1
        all_goals
          clear HN HS
          go_wp2
          have hq := HQ.out
          exact ⟨⟨n + 1, by omega, by go_num, HL, hX2, hB2⟩, by simp [intOf]; omega⟩
    · obtain rfl : n = 8 := by omega
      clear hn hlt HI
      go_wp2
      go_ret
      exact ⟨ret_bool (HN.out : liB s c = false).symm, hB⟩
theorem build_2 (n : Int) (w : World) : (Instr.build 52 #[(2, .int .i64 n)]).run Tryz.prog w = .ok (.agg #[.int .i64 0, .int .i64 0, .int .i64 n]) w := run_build w 52 _ _ (by kernel_rfl)
theorem build_0 (n : Int) (w : World) : (Instr.build 42 #[(0, .int .i64 n)]).run Tryz.prog w = .ok (.agg #[.int .i64 n, .int .i64 0, .int .i64 0]) w := run_build w 42 _ _ (by kernel_rfl)
theorem build_a (s c : Int) (w : World) : (Instr.build 128 #[(0, .int .i64 s), (1, .int .i64 c)]).run Tryz.prog w = .ok (.agg #[.int .i64 s, .int .i64 c]) w := run_build w 128 _ _ (by kernel_rfl)
theorem tok_ways (s c : Int) : (Ans.ansB 0 0 s = false ∧ tokB s c = false) ∨ (Ans.ansB 0 0 s = true ∧ Sup.supB c 0 0 = false ∧ tokB s c = false) ∨ (Ans.ansB 0 0 s = true ∧ Sup.supB c 0 0 = true ∧ tokB s c = true) := by
  unfold Ans.ansB Sup.supB tokB
  simp only [decide_eq_true_eq, decide_eq_false_iff_not]
  omega
set_option maxRecDepth 100000 in
set_option maxHeartbeats 4000000 in
theorem allowed_any (s c : Int) (w : World) (hT : TabAt w) : Calls Tryz.prog 55 #[.int .i64 s, .int .i64 c] w fun e w' => e = .returned (.tuple #[.bool (tabB s c), .int .i64 (errT (tokB s c))]) ∧ Below w.heap.size w w' := by
  have b1 := build_2
  have b2 := build_0
  have b3 := build_a
  have hB := Below.refl w.heap.size w
  have C1 := hide fun w => AnsWalk.amay_any 0 0 s w
  have C2 := hide fun w => SetWalk.smay_any c 0 0 w
  have C3 := hide fun w => always_any c w
  have C4 := hide fun w h => listed_any s c w h
  have HT := hide hT
  rcases tok_ways s c with ⟨h1, h3⟩ | ⟨h1, h2, h3⟩ | ⟨h1, h2, h3⟩
  · rw [tab_no h3, h3, errT_f]
    rw [h1] at C1
    clear C2 C3 C4 HT hT h1 h3
    go_enter Tryz.func55, Tryz.ntmps55
    go_wp2_with (go_at_call 50; refine (C1.out _).mono ?_; rintro e w' ⟨rfl, hb⟩; replace hB := hB.trans (hb.mono hB.size); clear hb)
    go_ret2
    exact ⟨rfl, hB⟩
  · rw [tab_no h3, h3, errT_f]
    rw [h1] at C1
    rw [h2] at C2
    clear C3 C4 HT hT h1 h2 h3
    go_enter Tryz.func55, Tryz.ntmps55
    go_wp2_with (first | (go_at_call 50; refine (C1.out _).mono ?_; rintro e w' ⟨rfl, hb⟩; replace hB := hB.trans (hb.mono hB.size); clear hb) | (go_at_call 83; refine (C2.out _).mono ?_; rintro e w' ⟨rfl, hb⟩; replace hB := hB.trans (hb.mono hB.size); clear hb))
    go_ret2
    exact ⟨rfl, hB⟩
  · have HP : Hid (tabB s c = (alB c || liB s c)) := by show tabB s c = _; unfold tabB; rw [h3]; rfl
    rw [h3, errT_t, HP.out]
    rw [h1] at C1
    rw [h2] at C2
    clear hT h1 h2 h3 HP
    generalize alB c = A at *
    generalize liB s c = L at *
    cases A
    all_goals
      go_enter Tryz.func55, Tryz.ntmps55
      go_wp2_with (first | (go_at_call 50; refine (C1.out _).mono ?_; rintro e w' ⟨rfl, hb⟩; replace hB := hB.trans (hb.mono hB.size); clear hb) | (go_at_call 83; refine (C2.out _).mono ?_; rintro e w' ⟨rfl, hb⟩; replace hB := hB.trans (hb.mono hB.size); clear hb) | (go_at_call 84; refine (C3.out _).mono ?_; rintro e w' ⟨rfl, rfl⟩) | (go_at_call 85; refine (C4.out _ (HT.out.below hB)).mono ?_; rintro e w' ⟨rfl, hb⟩; replace hB := hB.trans (hb.mono hB.size); clear hb))
      go_ret2
      exact ⟨rfl, hB⟩
end Go.Proofs.YtmlfkbkpkgaefaaGreatDoor.TabWalk
