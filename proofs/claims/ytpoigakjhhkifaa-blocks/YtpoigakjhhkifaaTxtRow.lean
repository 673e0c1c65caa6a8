/- Texts in memory: a row of them that a call has made or reads, one cell each. No program is named here. -/
import Derived.Test.YtpoigakjhhkifaaOpsRow
import Derived.SliceStrings
import Derived.SizedLaws
import Derived.WideShapes
namespace Go.Proofs.Ytpoigakjhhkifaa.TxtRow
open Go.Proofs.Ytpoigakjhhkifaa Go.RowKit Go.ChangeShapes Go.Proofs.Ytpoigakjhhkifaa.Bytes

def txC (l : List ByteArray) : List Value := l.map .string
theorem txC_append (a b : List ByteArray) : txC (a ++ b) = txC a ++ txC b := by unfold txC; rw [List.map_append]
theorem length_txC (l : List ByteArray) : (txC l).length = l.length := by simp [txC]
theorem txC_get (l : List ByteArray) (i : Nat) (h : i < l.length) : (txC l)[i]? = some (.string l[i]) := by simp [txC, h]
theorem txC_oneCell (l : List ByteArray) : ∀ u ∈ txC l, u.oneCell' = true := by
  intro u hu
  unfold txC at hu
  rw [List.mem_map] at hu
  obtain ⟨_, _, rfl⟩ := hu
  rfl

/-- The texts l lie in block b, from cell o on. -/
def TxIn (w : World) (b o : Nat) (l : List ByteArray) : Prop := ∀ i (h : i < l.length), w.cell? ⟨b, o + i, none⟩ = some (.string l[i])
/-- The value v is a slice of the texts l. -/
def IsTx (w : World) (v : Value) (l : List ByteArray) : Prop := ∃ a cap, v = .slice a l.length cap ∧ (a = none → cap = 0) ∧ (l = [] ∨ ∃ b o, a = some ⟨b, o, none⟩ ∧ l.length ≤ cap ∧ cap ≤ maxLen ∧ b < w.heap.size ∧ TxIn w b o l)
theorem TxIn.below {w w' : World} {b o : Nat} {l : List ByteArray} (h : TxIn w b o l) {B : Nat} (hb : Below B w w') (hg : b < B) : TxIn w' b o l :=
  fun i hi => by rw [hb.cell (p := ⟨b, o + i, none⟩) hg]; exact h i hi
theorem IsTx.below {w w' : World} {v : Value} {l : List ByteArray} (h : IsTx w v l) (hb : Below w.heap.size w w') : IsTx w' v l := by
  obtain ⟨a, cap, rfl, h0, h⟩ := h
  refine ⟨a, cap, rfl, h0, ?_⟩
  rcases h with h | ⟨b, o, rfl, h1, h2, h3, h4⟩
  · exact .inl h
  · exact .inr ⟨b, o, rfl, h1, h2, Nat.lt_of_lt_of_le h3 hb.size, h4.below hb h3⟩
theorem ownsT_in {w : World} {base : Nat} {e : TypeId} {g cap n : Nat} {l : List ByteArray} (h : w.ownsRow base e 1 (.slice (some ⟨g, 0, none⟩) n cap) n (txC l)) : n = l.length ∧ g < w.heap.size ∧ TxIn w g 0 l := by
  have hn : n = l.length := by have := h.1; rw [length_txC] at this; omega
  subst hn
  refine ⟨rfl, (h.lt g rfl).2, fun i hi => ?_⟩
  have := h.cellAt i (by omega)
  rw [Nat.zero_add, this]
  exact txC_get l i hi
theorem ownsT_is {w : World} {base : Nat} {e : TypeId} {v : Value} {n : Nat} {l : List ByteArray} (h : w.ownsRow base e 1 v n (txC l)) : IsTx w v l := by
  have hn : n = l.length := by have := h.1; rw [length_txC] at this; omega
  subst hn
  rcases h.2 with ⟨rfl, h0⟩ | ⟨g, cap, cur, rfl, _, _, h1, h2, _⟩
  · exact ⟨none, 0, by rw [h0], fun _ => rfl, .inl (List.length_eq_zero_iff.1 h0)⟩
  · obtain ⟨_, h3, h4⟩ := ownsT_in h
    exact ⟨_, cap, rfl, fun h => (by cases h), .inr ⟨g, 0, rfl, h1, h2, h3, h4⟩⟩
theorem owns_cap {w : World} {base : Nat} {e : TypeId} {size g cap n m : Nat} {xs : List Value} (h : w.ownsRow base e size (.slice (some ⟨g, 0, none⟩) n cap) m xs) : n ≤ cap ∧ cap ≤ maxLen ∧ base ≤ g := by
  rcases h.2 with ⟨h0, _⟩ | ⟨g, cap, cur, h0, h1, _, h2, h3, _⟩
  · cases h0
  · injection h0 with h4 h5 h6
    injection h4 with h4
    injection h4 with h7
    subst h5 h6 h7
    exact ⟨h2, h3, h1⟩
theorem ownsT_nil (w : World) (base : Nat) (e : TypeId) : w.ownsRow base e 1 (.slice none 0 0) 0 (txC []) := ⟨rfl, .inl ⟨rfl, rfl⟩⟩
/-- A slice of texts written out: one block. -/
theorem made_is (w : World) (l : List ByteArray) (e : TypeId) (n : Nat) (hn : n = l.length) (hl : l.length ≤ maxLen) : IsTx (w.alloc (.cells (txC l).toArray e)) (.slice (some ⟨w.heap.size, 0, none⟩) n n) l := by
  subst hn
  refine ⟨_, _, rfl, fun h => (by cases h), .inr ⟨_, _, rfl, Nat.le_refl _, hl, by simp, fun i hi => ?_⟩⟩
  rw [Nat.zero_add, World.cell?_alloc_at _ e _ i rfl]
  simpa using txC_get l i hi

/-- What a call was lent: the texts l, and behind them two more in the same block. -/
def LentTx (w : World) (base : Nat) (v : Value) (l : List ByteArray) (x y : ByteArray) : Prop := ∃ g cap, v = .slice (some ⟨g, 0, none⟩) l.length cap ∧ base ≤ g ∧ g < w.heap.size ∧ l.length + 2 ≤ cap ∧ cap ≤ maxLen ∧ TxIn w g 0 (l ++ [x, y])
theorem LentTx.below {w w' : World} {base : Nat} {v : Value} {l : List ByteArray} {x y : ByteArray} (h : LentTx w base v l x y) (hb : Below w.heap.size w w') : LentTx w' base v l x y := by
  obtain ⟨g, cap, rfl, h1, h2, h3, h4, h5⟩ := h
  exact ⟨g, cap, rfl, h1, Nat.lt_of_lt_of_le h2 hb.size, h3, h4, h5.below hb h2⟩
theorem LentTx.is {w : World} {base : Nat} {v : Value} {l : List ByteArray} {x y : ByteArray} (h : LentTx w base v l x y) : IsTx w v l := by
  obtain ⟨g, cap, rfl, h1, h2, h3, h4, h5⟩ := h
  refine ⟨_, _, rfl, fun h => (by cases h), .inr ⟨g, 0, rfl, by omega, h4, h2, fun i hi => ?_⟩⟩
  rw [h5 i (by simp; omega), List.getElem_append_left hi]

/-- A slice of texts that came in: what it holds, how long it may be. -/
theorem open_tx {H : Type} {enc : TypeId × Value → H} {P : Program} {W : World} {spare : Nat → Bool} {held : Bool} {base b0 : Nat} {r : Reach} {t e : TypeId} {v : Value} {d : DataW H} {p : List MemPlace} (ht : P.underlying t = some (.slice e)) (he : P.underlying e = some .string) (hc : P.cellsOf e = 1) (hby : P.bytesOf e = 16)
    (hv : Value.okWide P W r b0 t v) (h : DataW.Trod enc P W base spare held t v d p) (hlt : ∀ x ∈ p, x.block < W.heap.size)
    {ts : List TypeId} {ds : List (DataW H)} {j : Nat} (hsz : (DataW.weightsEach P ts ds).all (· ≤ reachBytes) = true) (htj : ts[j]? = some t) (hdj : ds[j]? = some d) :
    ∃ l, IsTx W v l ∧ l.length * 16 ≤ 140737488351232 ∧ ∀ s ∈ l, s.size ≤ maxLen := by
  obtain ⟨a0, len, cap, rfl⟩ := Go.WideShapes.okWide_slice ht hv
  obtain ⟨fuel, hf⟩ := h
  rcases open_strings ht he hc hf with ⟨hcs, hx⟩ | ⟨a, len', cap', ss, hcs, _, hl, hm, hz, hx, hcell, hws⟩
  · simp [Value.cells] at hcs
    obtain ⟨rfl, rfl, rfl⟩ := hcs
    exact ⟨[], ⟨none, 0, rfl, fun _ => rfl, .inl rfl⟩, by simp, by simp⟩
  · simp [Value.cells] at hcs
    obtain ⟨rfl, rfl, rfl⟩ := hcs
    simp only [Prod.mk.injEq] at hx
    obtain ⟨rfl, rfl⟩ := hx
    have hls : len ≤ ss.length := by rw [hz]; split <;> omega
    have hlen : (ss.take len).length = len := by rw [List.length_take]; omega
    refine ⟨ss.take len, ⟨some a, cap, by rw [hlen], fun h => (by cases h), ?_⟩, ?_, fun s hs => hws s (List.mem_of_mem_take hs)⟩
    · by_cases hl0 : len = 0
      · left; rw [hl0]; rfl
      · right
        obtain ⟨b, off, spot⟩ := a
        have hspot : spot = none := by simpa [Addr.add] using World.cell?_spot (hcell 0 (by omega))
        subst hspot
        have hbW : b < W.heap.size := hlt (.cell b off) (MemPlace.mem_row.2 ⟨0, by omega, by simp⟩)
        refine ⟨b, off, rfl, by rw [hlen]; exact hl, hm, hbW, fun i hi => ?_⟩
        rw [← Go.WideShapes.add_plain, hcell i (by omega), List.getElem_take, List.getD_eq_getElem?_getD, List.getElem?_eq_getElem (by omega)]
        rfl
    · have := sized_slice hsz htj hdj ht
      rw [hby] at this
      simp only [strs, List.length_map, List.length_take, List.length_drop, reachBytes] at this
      rw [hlen]
      omega
end Go.Proofs.Ytpoigakjhhkifaa.TxtRow
