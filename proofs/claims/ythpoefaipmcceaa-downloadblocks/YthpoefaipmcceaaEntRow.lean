/- A row of bytes that grows by 'append', wherever it began (none yet, or '[]byte(s)'); a struct of four cells in a block of its own. No program is named here. -/
import Derived.Test.YthpoefaipmcceaaBytes
import Derived.Laws.IdiomCopy
import Derived.Laws.AppendOwn
import Derived.Deep.AppendLies
namespace Go.Proofs.Ythpoefaipmcceaa.EntRow
open Go.Proofs.Ythpoefaipmcceaa Go.RowKit Go.Proofs.Ythpoefaipmcceaa.Bytes

/-- How the walk says that two texts are unlike. -/
theorem text_ne {a b : ByteArray} (h : ¬ a = b) : (a.toList == b.toList) = false := by
  rw [beq_eq_false_iff_ne, ByteArray.toList_eq, ByteArray.toList_eq]
  exact fun e => h (ba_ext e)
/-- The bytes l lie in block g, which has room for cap of them; the room may be written. -/
structure BufAt (w : World) (base g cap : Nat) (l : List UInt8) : Prop where
  above : base ≤ g
  lt : g < w.heap.size
  fits : l.length ≤ cap
  max : cap ≤ maxLen
  row : Row w g l
  room : ∀ j, l.length ≤ j → j < cap → (w.cell? ⟨g, j, none⟩).isSome = true ∧ w.frozen? ⟨g, j, none⟩ = false
def Buf (w : World) (base : Nat) (v : Value) (l : List UInt8) : Prop := (v = .slice none 0 0 ∧ l = []) ∨ ∃ g cap, v = .slice (some ⟨g, 0, none⟩) l.length cap ∧ BufAt w base g cap l
theorem BufAt.below {w w' : World} {base g cap : Nat} {l : List UInt8} (h : BufAt w base g cap l) (hb : Below w.heap.size w w') : BufAt w' base g cap l :=
  ⟨h.above, Nat.lt_of_lt_of_le h.lt hb.size, h.fits, h.max, h.row.below hb h.lt, fun j h1 h2 => by rw [hb.cell (p := ⟨g, j, none⟩) h.lt, hb.frozen (p := ⟨g, j, none⟩) h.lt]; exact h.room j h1 h2⟩
theorem Buf.below {w w' : World} {base : Nat} {v : Value} {l : List UInt8} (h : Buf w base v l) (hb : Below w.heap.size w w') : Buf w' base v l := by
  rcases h with h | ⟨g, cap, h1, h2⟩
  · exact .inl h
  · exact .inr ⟨g, cap, h1, h2.below hb⟩
theorem Buf.alloc {w : World} {base : Nat} {v : Value} {l : List UInt8} (h : Buf w base v l) (o : Obj) : Buf (w.alloc o) base v l := h.below ((Below.refl _ _).alloc (Nat.le_refl _) o)
theorem buf_nil (w : World) (base : Nat) : Buf w base (.slice none 0 0) [] := .inl ⟨rfl, rfl⟩
def bytes1 (l : List UInt8) : List Value := l.map fun b => .int .u8 (b.toNat : Int)
theorem get_bytes1 (l : List UInt8) (j : Nat) : (bytes1 l)[j]? = l[j]?.map fun b => .int .u8 (b.toNat : Int) := by simp [bytes1]
theorem length_bytes1 (l : List UInt8) : (bytes1 l).length = l.length := by simp [bytes1]
theorem bufAt_of_cells {w : World} {base g cap : Nat} {e : TypeId} {fr : Nat × Nat} {cur : Array Value} {l : List UInt8} (hg : base ≤ g) (hb : w.heap[g]? = some (.cells cur e fr)) (hfr : ∀ j, j < cap → w.frozen? ⟨g, j, none⟩ = false) (h1 : l.length ≤ cap) (h2 : cap ≤ maxLen) (h3 : cap ≤ cur.size) (h4 : ∀ j, j < l.length → cur[j]? = (bytes1 l)[j]?) : BufAt w base g cap l := by
  have hc := fun j => cell_of_row w g j cur e fr hb
  refine ⟨hg, (Array.getElem?_eq_some_iff.1 hb).1, h1, h2, ⟨fun j hj => ?_, fun j hj => hfr j (by omega)⟩, fun j _ h6 => ⟨?_, hfr j h6⟩⟩
  · rw [hc j, h4 j hj, get_bytes1, List.getElem?_eq_getElem hj]
    rfl
  · rw [hc j, Array.getElem?_eq_getElem (by omega)]
    rfl
theorem bufAt_of_owns {w : World} {base : Nat} {e : TypeId} {g cap n : Nat} {l : List UInt8} (h : w.ownsRow base e 1 (.slice (some ⟨g, 0, none⟩) n cap) n (bytes1 l)) : BufAt w base g cap l := by
  have hn : l.length = n := by have := h.1; rw [length_bytes1] at this; omega
  have hfz := h.frozenAt
  rcases h.2 with ⟨h0, _⟩ | ⟨g', cap', cur, hv, hb, hc, h1, h2, h3, h4⟩
  · cases h0
  · simp only [Value.slice.injEq, Option.some.injEq, Addr.mk.injEq] at hv
    obtain ⟨⟨rfl, _, _⟩, _, rfl⟩ := hv
    refine bufAt_of_cells (fr := (0, 0)) hb hc (fun j _ => hfz j) (by omega) h2 (by omega) fun j hj => ?_
    rw [← h4, List.getElem?_take_of_lt (by omega), Array.getElem?_toList]
/-- '[]byte(s)'. -/
theorem buf_of_string (w : World) (base : Nat) (e : TypeId) (s : ByteArray) (cap : Nat) (hb : base ≤ w.heap.size) (hcap : s.size ≤ cap) (hmax : cap ≤ maxLen) : BufAt (w.alloc (.cells (bytesRow s cap) e ((bytesRow s cap).size, (bytesRow s cap).size + 1))) base w.heap.size cap s.data.toList := by
  have hs : (bytesRow s cap).size = cap := by
    have h1 : s.data.size = s.size := rfl
    unfold bytesRow
    rw [Array.size_append, Array.size_map, Array.size_replicate]
    omega
  have hl : s.data.toList.length = s.size := by rw [Array.length_toList]; rfl
  refine bufAt_of_cells hb (heap_alloc_new w _) (fun j hj => ?_) (by omega) hmax (by omega) fun j hj => ?_
  · rw [World.frozen?_alloc_mark, hs, decide_eq_false (by omega), Bool.false_and]
  · have hj' : j < s.data.size := by simpa using hj
    rw [bytesRow_at s cap j hj', get_bytes1, List.getElem?_eq_getElem hj]
    simp

/-- 'append(b, x)', x one byte: in its room, or in a new row. -/
theorem run_append_buf {P : Program} {w : World} {base : Nat} {t ty e : TypeId} {i : TypeInfo} (ht : P.underlying t = some (.slice e)) (hi : P.info? e = some i) (hz : i.zero = some (.int .u8 0)) (hs : i.size = 1) (hby : i.bytes = 1)
    {v : Value} {l : List UInt8} (hb : Buf w base v l) (hbase : base ≤ w.heap.size) (B c : Nat) (b : UInt8) (hn : w.cell? ⟨B, 0, none⟩ = some (.int .u8 (b.toNat : Int))) (hl : l.length + 1 ≤ 1000000) :
    ∃ g cap w', (Builtin.append_ #[t, t] ty #[v, .slice (some ⟨B, 0, none⟩) 1 c]).run P w = .ok (.slice (some ⟨g, 0, none⟩) (l.length + 1) cap) w' ∧ BufAt w' base g cap (l ++ [b]) ∧ Below base w w' := by
  have hnews : ∀ j u, ([Value.int .u8 (b.toNat : Int)] : List Value)[j]? = some u → w.cell? ((⟨B, 0, none⟩ : Addr).add j) = some u := by
    intro j u hu
    match j, hu with
    | 0, hu => simp at hu; subst hu; simpa [Addr.add] using hn
    | j + 1, hu => simp at hu
  have h1 : ∀ u ∈ ([Value.int .u8 (b.toNat : Int)] : List Value), u.oneCell' = true := by intro u hu; simp at hu; subst hu; rfl
  have hap : bytes1 (l ++ [b]) = bytes1 l ++ [.int .u8 (b.toNat : Int)] := by simp [bytes1]
  rcases hb with ⟨rfl, rfl⟩ | ⟨g, cap, rfl, hb⟩
  · obtain ⟨g, cap, w', hr, h2, h3, _, _⟩ := run_append_lies (P := P) w t ty base e i _ 1 1 ht hi hz hs hby rfl (by omega) (.slice none 0 0) 0 [] (World.ownsRow_nil w base e 1) ⟨B, 0, none⟩ 1 c _ rfl hnews h1 (by omega) (by simp [maxLen]) (by omega) hbase w.heap.size rfl
    exact ⟨g, cap, w', hr, bufAt_of_owns (l := [b]) h2, (Below.refl _ _).grown h3 hbase (fun k hk => by simp [Value.ownBlock] at hk)⟩
  · by_cases hroom : l.length + 1 ≤ cap
    · have hf := run_firstCells_some (P := P) w i.size 1 ⟨B, 0, none⟩ 1 c [.int .u8 (b.toNat : Int)] (by rw [hs]; rfl) hnews
      obtain ⟨r1, r2⟩ := hb.room l.length (Nat.le_refl _) (by omega)
      have hst := run_storeCells_cells (P := P) g (l.length * i.size) [.int .u8 (b.toNat : Int)] 0 w
        (fun j hj => by simp at hj; subst hj; rw [hs]; simpa using r1) (fun j hj => by simp at hj; subst hj; rw [hs]; simpa using r2) h1
      refine ⟨g, cap, w.setCell ⟨g, l.length, none⟩ (.int .u8 (b.toNat : Int)), ?_, ?_, (Below.refl _ _).setCell (p := ⟨g, l.length, none⟩) hb.above _⟩
      · rw [hs] at hf
        simp only [Nat.add_zero, hs, Nat.mul_one] at hst
        simp [Builtin.append_, run_underlying ht, sizeOf, typeInfo, hi, Builtin.lenOf, hroom, hf, Addr.add_lit, hst, hs]
        rfl
      · obtain ⟨u, hu⟩ := Option.isSome_iff_exists.1 r1
        refine ⟨hb.above, by simpa [World.setCell] using hb.lt, by simp; omega, hb.max, ⟨fun j hj => ?_, fun j hj => ?_⟩, fun j j1 j2 => ?_⟩
        · by_cases e : j < l.length
          · rw [World.cell?_setCell_other w _ _ _ (by intro hc; injection hc; omega), hb.row.cell j e, List.getElem_append_left e]
          · obtain rfl : j = l.length := by simp at hj; omega
            rw [World.cell?_setCell_same w _ _ hu]
            simp
        · rw [World.frozen?_setCell]
          by_cases e : j < l.length
          · exact hb.row.free j e
          · exact (hb.room j (by omega) (by simp at hj; omega)).2
        · simp at j1
          rw [World.frozen?_setCell, World.cell?_setCell_other w _ _ _ (by intro hc; injection hc; omega)]
          exact hb.room j (by omega) j2
    · have holds : ∀ j u, (bytes1 l)[j]? = some u → w.cell? ((⟨g, 0, none⟩ : Addr).add j) = some u := by
        intro j u hu
        have hj : j < l.length := by have := (List.getElem?_eq_some_iff.1 hu).1; rw [length_bytes1] at this; exact this
        rw [get_bytes1, List.getElem?_eq_getElem hj] at hu
        have hadd : (⟨g, 0, none⟩ : Addr).add j = ⟨g, j, none⟩ := by unfold Addr.add; split <;> simp_all
        rw [hadd, hb.row.cell j hj]
        exact hu
      have hr := run_append_grow (P := P) w t ty e i _ ht hi hz ⟨g, 0, none⟩ l.length cap (bytes1 l) (by rw [length_bytes1, hs]; omega) holds ⟨B, 0, none⟩ 1 c [.int .u8 (b.toNat : Int)] (by rw [hs]; rfl) hnews (by omega) (by omega) (growslice_fits (by omega) (by rw [hby]; omega))
      have hge := grownCap_ge w (l.length + 1) cap e
      have hcm : grownCap w (l.length + 1) cap e ≤ maxLen := grownCap_le_maxLen w (l.length + 1) cap e (by simp only [maxLen]; omega)
      refine ⟨_, _, _, hr, ?_, ?_⟩
      · refine bufAt_of_cells (fr := (0, 0)) hbase (heap_alloc_new w.drew _) (fun j _ => World.frozen?_alloc_at _ e _ j rfl) (by simp; omega) hcm ?_ fun j hj => ?_
        · rw [Array.size_append, Array.size_append, List.size_toArray, List.size_toArray, size_zeroCells, length_bytes1]
          simp only [Value.cells, List.length_cons, List.length_nil]
          simp
          omega
        · rw [hap, Array.getElem?_append_left (by simp [length_bytes1] at hj ⊢; omega)]
          simp
      · exact ((Below.refl _ _).drew).alloc (by simpa using hbase) _
theorem wpList_append_buf {P : Program} {w : World} {ops : Array Oper} {rest : List Oper} {o : Oper} {a : Act} {Q : Exit → Act → World → Prop} (hgd : o.guard = none) (s x : Operand) (t : TypeId)
    (ho : o.op = .call { callee := .builtin .append, args := #[s, x], argTypes := #[t, t] })
    (base : Nat) (e : TypeId) (i : TypeInfo) (ht : P.underlying t = some (.slice e)) (hi : P.info? e = some i) (hz : i.zero = some (.int .u8 0)) (hs : i.size = 1) (hby : i.bytes = 1)
    (v : Value) (l : List UInt8) (hv : a.eval s = v) (hb : Buf w base v l) (hbase : base ≤ w.heap.size) (B c : Nat) (b : UInt8) (hx : a.eval x = .slice (some ⟨B, 0, none⟩) 1 c) (hn : w.cell? ⟨B, 0, none⟩ = some (.int .u8 (b.toNat : Int))) (hl : l.length + 1 ≤ 1000000)
    (h : ∀ g cap w', BufAt w' base g cap (l ++ [b]) → Below base w w' → wpList P ops Q rest (a.put o.dst (.slice (some ⟨g, 0, none⟩) (l.length + 1) cap)) w') : wpList P ops Q (o :: rest) a w := by
  refine wpList_plain hgd fun K hK => ?_
  obtain ⟨g, cap, w', hr, h2, h3⟩ := run_append_buf (P := P) (ty := o.type) ht hi hz hs hby hb hbase B c b hn hl
  unfold Oper.wp execOp
  simp only [ho, resolve, invoke, builtin, Sem.run_bind, Sem.run_pure, Result.andThen_ok, List.map_toArray, List.map_cons, List.map_nil, hv, hx, hr]
  exact hK _ _ (h g cap w' h2 h3)

/-- A struct of four cells in a block of its own, and behind a call that leaves what was there. -/
theorem boxB {w w' : World} {B : Nat} {x y z u : Value} (h : B < w.heap.size ∧ w.cell? ⟨B, 0, none⟩ = some x ∧ w.cell? ⟨B, 1, none⟩ = some y ∧ w.cell? ⟨B, 2, none⟩ = some z ∧ w.cell? ⟨B, 3, none⟩ = some u) (hb : Below w.heap.size w w') :
    B < w'.heap.size ∧ w'.cell? ⟨B, 0, none⟩ = some x ∧ w'.cell? ⟨B, 1, none⟩ = some y ∧ w'.cell? ⟨B, 2, none⟩ = some z ∧ w'.cell? ⟨B, 3, none⟩ = some u := by
  obtain ⟨h0, h1, h2, h3, h4⟩ := h
  exact ⟨Nat.lt_of_lt_of_le h0 hb.size, by rw [hb.cell (p := ⟨B, 0, none⟩) h0]; exact h1, by rw [hb.cell (p := ⟨B, 1, none⟩) h0]; exact h2, by rw [hb.cell (p := ⟨B, 2, none⟩) h0]; exact h3, by rw [hb.cell (p := ⟨B, 3, none⟩) h0]; exact h4⟩
theorem boxM (w : World) (x y z u : Value) (e : TypeId) : w.heap.size < (w.alloc (.cells #[x, y, z, u] e)).heap.size ∧ (w.alloc (.cells #[x, y, z, u] e)).cell? ⟨w.heap.size, 0, none⟩ = some x ∧ (w.alloc (.cells #[x, y, z, u] e)).cell? ⟨w.heap.size, 1, none⟩ = some y ∧ (w.alloc (.cells #[x, y, z, u] e)).cell? ⟨w.heap.size, 2, none⟩ = some z ∧ (w.alloc (.cells #[x, y, z, u] e)).cell? ⟨w.heap.size, 3, none⟩ = some u :=
  ⟨by simp, by rw [World.cell?_alloc_at _ e _ 0 rfl]; rfl, by rw [World.cell?_alloc_at _ e _ 1 rfl]; rfl, by rw [World.cell?_alloc_at _ e _ 2 rfl]; rfl, by rw [World.cell?_alloc_at _ e _ 3 rfl]; rfl⟩
theorem size_alloc1 (w : World) (o : Obj) : w.heap.size < (w.alloc o).heap.size := by simp
theorem thenD {w a a' b : World} (hb : Below a'.heap.size a' b) (h : Below w.heap.size w a) (e1 : a'.os = a.os) (e2 : a'.tape = a.tape) (e3 : a'.output = a.output) (e4 : a'.heap = a.heap) : Below w.heap.size w b := by
  have hs : w.heap.size ≤ a'.heap.size := by rw [e4]; exact h.size
  refine Below.trans ⟨e1.trans h.os, e2.trans h.tape, e3.trans h.output, hs, fun k hk => by rw [e4]; exact h.block k hk⟩ (hb.mono hs)
theorem boxD {w w' : World} {B : Nat} {x y z u : Value} (hb : Below w.heap.size w w') (h : B < w.heap.size ∧ w.cell? ⟨B, 0, none⟩ = some x ∧ w.cell? ⟨B, 1, none⟩ = some y ∧ w.cell? ⟨B, 2, none⟩ = some z ∧ w.cell? ⟨B, 3, none⟩ = some u) :
    B < w'.heap.size ∧ w'.cell? ⟨B, 0, none⟩ = some x ∧ w'.cell? ⟨B, 1, none⟩ = some y ∧ w'.cell? ⟨B, 2, none⟩ = some z ∧ w'.cell? ⟨B, 3, none⟩ = some u := boxB h hb
end Go.Proofs.Ythpoefaipmcceaa.EntRow
