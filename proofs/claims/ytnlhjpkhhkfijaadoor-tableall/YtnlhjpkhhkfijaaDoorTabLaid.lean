/- What package table's variable holds: the row's condition gives its sixteen cells; they stay behind every call told by Below. -/
import Derived.Test.YtnlhjpkhhkfijaaDoorTabMath
import Derived.Test.YtnlhjpkhhkfijaaDoorBytes
import Derived.Test.YtnlhjpkhhkfijaaDoorTie
import Derived.ProofKit
import Derived.OpenShut
import Derived.Below
import Derived.LaidLaws
import Derived.MakeChecks
namespace Go.Proofs.YtnlhjpkhhkfijaaDoor.TabLaid
open Go.Proofs.YtnlhjpkhhkfijaaDoor Go.RowKit Go.Proofs.YtnlhjpkhhkfijaaDoor.Tab

/-- A listed variable's own reading. -/
theorem of_vars {P : Program} {w : World} : ∀ {l : List (String × DataW Unit)} {ps : List MemPlace}, DataW.LaidVars P w l ps → ∀ {n : String} {d : DataW Unit}, (n, d) ∈ l → ∃ g t cs fuel p, P.globalNamed n = some g ∧ (P.globals[g]?).map (·.type) = some t ∧ w.var? P n = some cs ∧ DataW.trod (fun _ => ()) P w 0 (fun _ => true) false fuel t cs.toList = some (d, p)
  | [], _, _, _, _, hm => by cases hm
  | (n', d') :: r, ps, ⟨g, t, cs, fuel, p, q, h1, h2, h3, h4, h5, _⟩, n, d, hm => by
    rcases List.mem_cons.1 hm with e | e
    · cases e
      exact ⟨g, t, cs, fuel, p, h1, h2, h3, h4⟩
    · exact of_vars h5 e
/-- The sixteen cells. -/
def tabV : Array Value := #[.int .i64 0, .int .i64 1, .int .i64 3, .int .i64 1, .int .i64 0, .int .i64 2, .int .i64 6, .int .i64 2, .int .i64 7, .int .i64 4, .int .i64 0, .int .i64 6, .int .i64 3, .int .i64 6, .int .i64 6, .int .i64 6]
def TabAt (w : World) : Prop := ∀ i x, tabV[i]? = some x → w.cell? ⟨0, i, none⟩ = some x
theorem TabAt.below {w w' : World} (h : TabAt w) (hb : Below w.heap.size w w') : TabAt w' := by
  intro i x hx
  have h1 := h i x hx
  rw [hb.cell (p := ⟨0, i, none⟩) (World.block_lt_of_cell? _ (a := ⟨0, i, none⟩) h1)]
  exact h1
theorem cells43 : Tryd.prog.cellsOf 43 = 2 := by kernel_rfl
theorem cells44 : Tryd.prog.cellsOf 44 = 16 := by kernel_rfl
theorem cells3 : Tryd.prog.cellsOf 3 = 1 := by kernel_rfl
theorem gTab : Tryd.prog.globalNamed "skiff/table.allowed" = some 0 := by kernel_rfl
theorem gTabType : (Tryd.prog.globals[0]?).map (·.type) = some 44 := by kernel_rfl
/-- Two cells that read as a pair of numbers. -/
theorem pair_of {w : World} {m : Nat} {c d : Value} {x : DataW Unit × List MemPlace} {a b : Int} (h : DataW.trod (fun _ => ()) Tryd.prog w 0 (fun _ => true) false m 43 [c, d] = some x) (hx : x.1 = .agg [.lit (.int .i64 a), .lit (.int .i64 b)]) : c = .int .i64 a ∧ d = .int .i64 b := by
  obtain ⟨y0, y1, n, rfl, _, h0, h1⟩ := ChangeShapes.trod_struct2 Tryd.underlying43 h
  simp only [cells3] at h0 h1
  obtain ⟨k0, e0, f0, _⟩ := DataW.trod_int Tryd.underlying3 h0
  obtain ⟨k1, e1, f1, _⟩ := DataW.trod_int Tryd.underlying3 h1
  subst f0 f1
  simp at hx e0 e1
  obtain ⟨rfl, rfl⟩ := hx
  exact ⟨e0, e1⟩
theorem tab_of_laid {W : World} {l : List (String × DataW Unit)} (h : laidMetH Tryd.prog l W) (hp : (l.all fun x => x.2.handleName?.isNone) = true) (hm : ("skiff/table.allowed", Rows.laid_skiff_table_allowed) ∈ l) : TabAt W := by
  rw [MakeChecks.laidMetH_plain _ _ _ hp] at h
  obtain ⟨ps, hv, _, _⟩ := h
  obtain ⟨g, t, cs, fuel, p, hg, ht, hvar, hd⟩ := of_vars hv hm
  obtain rfl := Option.some.inj (gTab.symm.trans hg)
  obtain rfl := Option.some.inj (gTabType.symm.trans ht)
  obtain ⟨xs, m, _, hx, hlen, hn, hel⟩ := DataW.trod_array Tryd.underlying44 hd
  rw [cells44] at hlen
  simp only [cells43] at hel
  obtain ⟨l⟩ := cs
  have hxs := congrArg Prod.fst hx
  simp only [Rows.laid_skiff_table_allowed, DataW.agg.injEq] at hxs
  match xs, hn, hxs, hel with
  | [x0, x1, x2, x3, x4, x5, x6, x7], _, hxs, hel =>
  match l, hlen with
  | [c0, c1, c2, c3, c4, c5, c6, c7, c8, c9, c10, c11, c12, c13, c14, c15], _ =>
    simp only [List.map_cons, List.map_nil, List.cons.injEq, and_true] at hxs
    obtain ⟨e0, e1, e2, e3, e4, e5, e6, e7⟩ := hxs
    obtain ⟨rfl, rfl⟩ := pair_of (c := c0) (d := c1) (hel 0 (by decide)) e0.symm
    obtain ⟨rfl, rfl⟩ := pair_of (c := c2) (d := c3) (hel 1 (by decide)) e1.symm
    obtain ⟨rfl, rfl⟩ := pair_of (c := c4) (d := c5) (hel 2 (by decide)) e2.symm
    obtain ⟨rfl, rfl⟩ := pair_of (c := c6) (d := c7) (hel 3 (by decide)) e3.symm
    obtain ⟨rfl, rfl⟩ := pair_of (c := c8) (d := c9) (hel 4 (by decide)) e4.symm
    obtain ⟨rfl, rfl⟩ := pair_of (c := c10) (d := c11) (hel 5 (by decide)) e5.symm
    obtain ⟨rfl, rfl⟩ := pair_of (c := c12) (d := c13) (hel 6 (by decide)) e6.symm
    obtain ⟨rfl, rfl⟩ := pair_of (c := c14) (d := c15) (hel 7 (by decide)) e7.symm
    intro i x hx
    rw [World.var?_cell gTab hvar i]
    exact hx
end Go.Proofs.YtnlhjpkhhkfijaaDoor.TabLaid
