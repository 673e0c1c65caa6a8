/- Steps in memory: a row of them that a call has made or reads, three cells a step; a text copied into a row of bytes. No program is named here. -/
import Derived.Test.YthpoefaipmcceaaOpsMath
import Derived.Test.YthpoefaipmcceaaBytes
import Derived.Laws.IdiomCopy
import Derived.Deep.AppendLies
namespace Go.Proofs.Ythpoefaipmcceaa.OpsRow
open Go.Proofs.Ythpoefaipmcceaa Go.RowKit Go.Proofs.Ythpoefaipmcceaa.Bytes Go.Proofs.Ythpoefaipmcceaa.Ops

def byteCells (l : List UInt8) : List Value := l.map fun b => .int .u8 (b.toNat : Int)
theorem length_byteCells (l : List UInt8) : (byteCells l).length = l.length := by simp [byteCells]
theorem get_byteCells (l : List UInt8) (j : Nat) (h : j < l.length) (h' : j < (byteCells l).length) : (byteCells l)[j] = .int .u8 (l[j].toNat : Int) := by simp [byteCells]

theorem Row.setCells {w : World} {B : Nat} {l : List UInt8} (h : Row w B l) (m : List UInt8) (hm : m.length ≤ l.length) : Row (w.setCells B 0 (byteCells m)) B (m ++ l.drop m.length) := by
  have hl : (m ++ l.drop m.length).length = l.length := by rw [List.length_append, List.length_drop]; omega
  refine ⟨fun j hj => ?_, fun j hj => ?_⟩
  · rw [hl] at hj
    by_cases e : j < m.length
    · have := World.cell?_setCells_in B (byteCells m) 0 w (fun i hi => by rw [Nat.zero_add, h.cell i (by rw [length_byteCells] at hi; omega)]; rfl) j (by rw [length_byteCells]; exact e)
      rw [Nat.zero_add] at this
      rw [this, get_byteCells m j e, List.getElem_append_left e]
    · rw [World.cell?_setCells_out B (byteCells m) 0 w _ (fun _ _ => Or.inr (by rw [length_byteCells]; show 0 + m.length ≤ j; omega)), h.cell j hj, List.getElem_append_right (by omega), List.getElem_drop]
      simp only [show m.length + (j - m.length) = j from by omega]
  · rw [hl] at hj
    rw [World.frozen?_setCells]
    exact h.free j hj
theorem below_setCells {B b : Nat} {a : World} (hb : B ≤ b) : ∀ (vs : List Value) (o : Nat) (w : World), Below B a w → Below B a (w.setCells b o vs)
  | [], _, _, h => h
  | v :: r, o, _, h => below_setCells hb r (o + 1) _ (h.setCell (p := ⟨b, o, none⟩) hb v)
theorem size_setCells (b : Nat) : ∀ (vs : List Value) (o : Nat) (w : World), (w.setCells b o vs).heap.size = w.heap.size
  | [], _, _ => rfl
  | v :: r, o, w => by
    show ((w.setCell ⟨b, o, none⟩ v).setCells b (o + 1) r).heap.size = _
    rw [size_setCells b r (o + 1) _]
    simp [World.setCell]

/-- 'copy(b, s)', b a row of bytes, s a text. -/
theorem run_copy_text {P : Program} {w : World} {B : Nat} {l : List UInt8} (hr : Row w B l) (dT sT ty e : TypeId) (n cap : Nat) (s : ByteArray) (hn : n = l.length) (hu : P.underlying dT = some (.slice e)) (hs : (P.info? e).map (·.size) = some 1) :
    (Builtin.copy_ #[dT, sT] ty #[.slice (some ⟨B, 0, none⟩) n cap, .string s]).run P w = .ok (goInt (s.data.toList.take n).length) (w.setCells B 0 (byteCells (s.data.toList.take n))) := by
  have hsz : s.data.toList.length = s.size := by rw [Array.length_toList]; rfl
  have hlen : (s.data.toList.take n).length = Nat.min s.size n := by
    rw [List.length_take, hsz]
    show min n s.size = min s.size n
    omega
  have hmin : Nat.min s.size n ≤ n := Nat.min_le_right _ _
  have hst := run_storeCells_cells (P := P) B 0 (byteCells (s.data.toList.take n)) 0 w
    (fun j hj => by rw [length_byteCells, hlen] at hj; simp only [Nat.zero_add]; rw [hr.cell j (by omega)]; rfl)
    (fun j hj => by rw [length_byteCells, hlen] at hj; simp only [Nat.zero_add]; exact hr.free j (by omega))
    (fun v hv => by unfold byteCells at hv; rw [List.mem_map] at hv; obtain ⟨b, _, rfl⟩ := hv; rfl)
  have hcells : List.take (s.size.min n) (List.map (fun b : UInt8 => Value.int .u8 (b.toNat : Int)) s.data.toList) = byteCells (s.data.toList.take n) := by
    unfold byteCells
    rw [← List.map_take]
    congr 1
    by_cases h : s.size ≤ n
    · rw [show Nat.min s.size n = s.size from Nat.min_eq_left h, List.take_of_length_le (by omega), List.take_of_length_le (by omega)]
    · rw [show Nat.min s.size n = n from Nat.min_eq_right (by omega)]
  cases hq : P.info? e with
  | none => simp [hq] at hs
  | some i =>
    have hmn : min n s.size = s.size.min n := by show min n s.size = min s.size n; omega
    simp only [Nat.zero_add] at hst
    simp [Builtin.copy_, run_underlying hu, Builtin.lenOf, Builtin.firstCells, sizeOf, typeInfo, hq]
    rw [hcells, hst, hmn]
    rfl

def cells (o : FOp) : List Value := [.bool o.er, .int .i64 o.pl, .string o.tx]
def flat (l : List FOp) : List Value := l.flatMap cells
theorem flat_append (a b : List FOp) : flat (a ++ b) = flat a ++ flat b := by unfold flat; rw [List.flatMap_append]
theorem length_flat (l : List FOp) : (flat l).length = l.length * 3 := by
  induction l with
  | nil => rfl
  | cons o l ih =>
    show (cells o ++ flat l).length = _
    rw [List.length_append, ih]
    show 3 + l.length * 3 = (l.length + 1) * 3
    omega
theorem flat_get : ∀ (l : List FOp) (i j : Nat) (h : i < l.length), j < 3 → (flat l)[i * 3 + j]? = (cells l[i])[j]?
  | o :: l, 0, j, _, hj => by
    show (cells o ++ flat l)[0 * 3 + j]? = _
    rw [Nat.zero_mul, Nat.zero_add, List.getElem?_append_left (by show j < 3; exact hj)]
    rfl
  | o :: l, i + 1, j, h, hj => by
    show (cells o ++ flat l)[(i + 1) * 3 + j]? = _
    rw [List.getElem?_append_right (by show 3 ≤ _; omega), show (i + 1) * 3 + j - (cells o).length = i * 3 + j from by show _ - 3 = _; omega, flat_get l i j (by simpa using h) hj]
    rfl
theorem flat_oneCell (l : List FOp) : ∀ u ∈ flat l, u.oneCell' = true := by
  intro u hu
  unfold flat at hu
  rw [List.mem_flatMap] at hu
  obtain ⟨o, _, ho⟩ := hu
  unfold cells at ho
  simp at ho
  rcases ho with rfl | rfl | rfl <;> rfl

/-- The steps l lie in block g, from its first cell on. -/
structure OpsIn (w : World) (g : Nat) (l : List FOp) : Prop where
  er : ∀ i (h : i < l.length), w.cell? ⟨g, i * 3, none⟩ = some (.bool l[i].er)
  pl : ∀ i (h : i < l.length), w.cell? ⟨g, i * 3 + 1, none⟩ = some (.int .i64 l[i].pl)
  tx : ∀ i (h : i < l.length), w.cell? ⟨g, i * 3 + 2, none⟩ = some (.string l[i].tx)
/-- The value v is a slice of the steps l. -/
def IsOps (w : World) (v : Value) (l : List FOp) : Prop := ∃ a cap, v = .slice a l.length cap ∧ (l = [] ∨ ∃ g, a = some ⟨g, 0, none⟩ ∧ g < w.heap.size ∧ OpsIn w g l)
theorem OpsIn.below {w w' : World} {g : Nat} {l : List FOp} (h : OpsIn w g l) {B : Nat} (hb : Below B w w') (hg : g < B) : OpsIn w' g l :=
  ⟨fun i hi => by rw [hb.cell (p := ⟨g, i * 3, none⟩) hg]; exact h.er i hi, fun i hi => by rw [hb.cell (p := ⟨g, i * 3 + 1, none⟩) hg]; exact h.pl i hi, fun i hi => by rw [hb.cell (p := ⟨g, i * 3 + 2, none⟩) hg]; exact h.tx i hi⟩
theorem IsOps.below {w w' : World} {v : Value} {l : List FOp} (h : IsOps w v l) (hb : Below w.heap.size w w') : IsOps w' v l := by
  obtain ⟨a, cap, rfl, h⟩ := h
  refine ⟨a, cap, rfl, ?_⟩
  rcases h with h | ⟨g, rfl, hg, ho⟩
  · exact .inl h
  · exact .inr ⟨g, rfl, Nat.lt_of_lt_of_le hg hb.size, ho.below hb hg⟩
theorem owns_in {w : World} {base : Nat} {e : TypeId} {g cap n : Nat} {l : List FOp} (h : w.ownsRow base e 3 (.slice (some ⟨g, 0, none⟩) n cap) n (flat l)) : n = l.length ∧ g < w.heap.size ∧ OpsIn w g l := by
  have hn : n = l.length := by have := h.1; rw [length_flat] at this; omega
  subst hn
  refine ⟨rfl, (h.lt g rfl).2, ?_, ?_, ?_⟩
  · intro i hi
    have := h.cellAt (i * 3) (by omega)
    rw [this]
    exact flat_get l i 0 hi (by omega)
  · intro i hi
    have := h.cellAt (i * 3 + 1) (by omega)
    rw [this]
    exact flat_get l i 1 hi (by omega)
  · intro i hi
    have := h.cellAt (i * 3 + 2) (by omega)
    rw [this]
    exact flat_get l i 2 hi (by omega)
theorem owns_is {w : World} {base : Nat} {e : TypeId} {v : Value} {n : Nat} {l : List FOp} (h : w.ownsRow base e 3 v n (flat l)) : IsOps w v l := by
  have hn : n = l.length := by have := h.1; rw [length_flat] at this; omega
  subst hn
  have h2 := h.2
  rcases h2 with ⟨rfl, h0⟩ | ⟨g, cap, cur, rfl, _⟩
  · exact ⟨none, 0, by rw [h0], .inl (List.length_eq_zero_iff.1 h0)⟩
  · obtain ⟨_, h1, h2⟩ := owns_in h
    exact ⟨_, cap, rfl, .inr ⟨g, rfl, h1, h2⟩⟩
/-- Behind a call that leaves what was there, what was owned is owned. -/
theorem owns_below {w w' : World} {base : Nat} {e : TypeId} {size : Nat} {v : Value} {n : Nat} {xs : List Value} (h : w.ownsRow base e size v n xs) (hb : Below w.heap.size w w') : w'.ownsRow base e size v n xs := by
  refine ⟨h.1, ?_⟩
  rcases h.2 with h0 | ⟨g, cap, cur, rfl, hg, hc, rest⟩
  · exact .inl h0
  · refine .inr ⟨g, cap, cur, rfl, hg, ?_, rest⟩
    have hlt := (h.lt g rfl).2
    rw [hb.block g hlt]
    exact hc
theorem owns_nil (w : World) (base : Nat) (e : TypeId) : w.ownsRow base e 3 (.slice none 0 0) 0 (flat []) := ⟨rfl, .inl ⟨rfl, rfl⟩⟩
/-- A struct of three cells in a block of its own, and behind a call that leaves what was there. -/
theorem boxB {w w' : World} {B : Nat} {x y z : Value} (h : B < w.heap.size ∧ w.cell? ⟨B, 0, none⟩ = some x ∧ w.cell? ⟨B, 1, none⟩ = some y ∧ w.cell? ⟨B, 2, none⟩ = some z) (hb : Below w.heap.size w w') :
    B < w'.heap.size ∧ w'.cell? ⟨B, 0, none⟩ = some x ∧ w'.cell? ⟨B, 1, none⟩ = some y ∧ w'.cell? ⟨B, 2, none⟩ = some z := by
  obtain ⟨h0, h1, h2, h3⟩ := h
  exact ⟨Nat.lt_of_lt_of_le h0 hb.size, by rw [hb.cell (p := ⟨B, 0, none⟩) h0]; exact h1, by rw [hb.cell (p := ⟨B, 1, none⟩) h0]; exact h2, by rw [hb.cell (p := ⟨B, 2, none⟩) h0]; exact h3⟩
theorem boxM (w : World) (x y z : Value) (e : TypeId) : w.heap.size < (w.alloc (.cells #[x, y, z] e)).heap.size ∧ (w.alloc (.cells #[x, y, z] e)).cell? ⟨w.heap.size, 0, none⟩ = some x ∧ (w.alloc (.cells #[x, y, z] e)).cell? ⟨w.heap.size, 1, none⟩ = some y ∧ (w.alloc (.cells #[x, y, z] e)).cell? ⟨w.heap.size, 2, none⟩ = some z :=
  ⟨by simp, by rw [World.cell?_alloc_at _ e _ 0 rfl]; rfl, by rw [World.cell?_alloc_at _ e _ 1 rfl]; rfl, by rw [World.cell?_alloc_at _ e _ 2 rfl]; rfl⟩
theorem owns_mono {w : World} {base base' : Nat} {e : TypeId} {size : Nat} {v : Value} {n : Nat} {xs : List Value} (h : w.ownsRow base e size v n xs) (hb : base' ≤ base) : w.ownsRow base' e size v n xs := by
  refine ⟨h.1, ?_⟩
  rcases h.2 with h0 | ⟨g, cap, cur, rfl, hg, rest⟩
  · exact .inl h0
  · exact .inr ⟨g, cap, cur, rfl, Nat.le_trans hb hg, rest⟩
/-- The same behind draws: the world that the call began in is as the one that is known, but for its draws. -/
theorem thenD {w a a' b : World} (hb : Below a'.heap.size a' b) (h : Below w.heap.size w a) (e1 : a'.os = a.os) (e2 : a'.tape = a.tape) (e3 : a'.output = a.output) (e4 : a'.heap = a.heap) : Below w.heap.size w b := by
  have hs : w.heap.size ≤ a'.heap.size := by rw [e4]; exact h.size
  refine Below.trans ⟨e1.trans h.os, e2.trans h.tape, e3.trans h.output, hs, fun k hk => by rw [e4]; exact h.block k hk⟩ (hb.mono hs)
theorem boxD {w w' : World} {B : Nat} {x y z : Value} (hb : Below w.heap.size w w') (h : B < w.heap.size ∧ w.cell? ⟨B, 0, none⟩ = some x ∧ w.cell? ⟨B, 1, none⟩ = some y ∧ w.cell? ⟨B, 2, none⟩ = some z) :
    B < w'.heap.size ∧ w'.cell? ⟨B, 0, none⟩ = some x ∧ w'.cell? ⟨B, 1, none⟩ = some y ∧ w'.cell? ⟨B, 2, none⟩ = some z := boxB h hb
theorem ownsD {w w' : World} {base : Nat} {e : TypeId} {size : Nat} {v : Value} {n : Nat} {xs : List Value} (hb : Below w.heap.size w w') (h : w.ownsRow base e size v n xs) : w'.ownsRow base e size v n xs := owns_below h hb
end Go.Proofs.Ythpoefaipmcceaa.OpsRow
