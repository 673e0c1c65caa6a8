/- The contracts of package lowest, of a text's complement, and of the document's own numbers in bytes. -/
import Derived.Test.YthpoefaipmcceaaNorWalk
import Derived.Test.YthpoefaipmcceaaEntMath
import Derived.Test.YthpoefaipmcceaaEntRow
import Derived.Deep.RegionWith
namespace Go.Proofs.Ythpoefaipmcceaa.EntLow
open Go.Proofs.Ythpoefaipmcceaa Go.RowKit Go.Proofs.Ythpoefaipmcceaa.Bytes Go.Proofs.Ythpoefaipmcceaa.NorWalk Go.Proofs.Ythpoefaipmcceaa.Ent Go.Proofs.Ythpoefaipmcceaa.EntRow

theorem info_u8 : (Try.prog.info? 5).map (fun i => (i.zero, i.size, i.bytes)) = some (some (.int .u8 0), 1, 1) := by kernel_rfl
def lowS (x k : Nat) : ByteArray := ⟨(lowL x k).toArray⟩
theorem list_lowS (x k : Nat) : (lowS x k).data.toList = lowL x k := rfl
theorem size_lowS (x k : Nat) : (lowS x k).size = k := by rw [← Nor.size_list, list_lowS, length_lowL]
theorem pow_8 (j : Nat) : 2 ^ (8 * j) = 256 ^ j := by rw [Nat.pow_mul]
theorem byte_shr (x j s : Nat) (hs : s = 8 * j) : IntKind.u8.wrap ((x : Int) / 2 ^ s) = ((byteAt x j).toNat : Int) := by
  have e : ((x : Int) / 2 ^ s) = ((x / 256 ^ j : Nat) : Int) := by rw [hs, ← pow_8, Int.natCast_ediv, Int.natCast_pow]; rfl
  rw [e, toNat_byteAt]
  simp [IntKind.wrap, IntKind.bits, IntKind.signed]

set_option maxHeartbeats 1000000 in
theorem lowPut_any (x k : Nat) (w : World) (hk : 1 ≤ k) (hk7 : k ≤ 7) : Calls Try.prog 90 #[.int .i64 (x : Int), .int .i64 (k : Int)] w fun e w' => e = .returned (.string (lowS x k)) ∧ Below w.heap.size w w' := by
  obtain ⟨i, hi, hz0, hz1, hz2⟩ := info_parts info_u8
  go_enter Try.func90, Try.ntmps90
  go_wp2
  go_loopw [5, 8] (fun v y wr => ∃ j : Nat, j ≤ k ∧ y = .int .i64 j ∧ Below w.heap.size w wr ∧ Buf wr w.heap.size v (lowL x j)) (fun _ y _ => k - (intOf y).toNat)
  case atStart => exact ⟨0, Nat.zero_le _, rfl, Below.refl _ _, buf_nil _ _⟩
  case round =>
    obtain ⟨j, hj, rfl, hbel, hbuf⟩ := hrel
    by_cases hlt : j < k
    · obtain ⟨s, hs⟩ : ∃ s : Nat, s = 8 * j := ⟨_, rfl⟩
      have hs1 : (8 : Int) * (j : Int) = (s : Int) := by omega
      have hs2 : s < 64 := by omega
      have hby := byte_shr x j s hs
      have HB : Hid (IntKind.u8.wrap ((x : Int) / 2 ^ s) = ((byteAt x j).toNat : Int)) := hby
      clear hs
      have s1 := hbel.size
      go_wp2_with (at_builtin; go_loud (refine wpList_append_buf rfl _ _ _ rfl w.heap.size 5 i Try.underlying39 hi hz0 hz1 hz2 _ _ rfl (hbuf.alloc _) (by simp; omega) wr.heap.size 1 (byteAt x j) rfl (by rw [World.cell?_alloc_at _ _ _ 0 rfl]; rfl) (by rw [length_lowL]; omega) ?_; intro g cap w1 hb1 hg1))
      refine ⟨⟨j + 1, by omega, by go_num, ?_, ?_⟩, by simp [intOf]; omega⟩
      · exact (hbel.alloc s1 _).trans hg1
      · rw [lowL_succ]
        exact .inr ⟨g, cap, by simp, hb1⟩
    · obtain rfl : j = k := by omega
      rcases hbuf with ⟨_, h0⟩ | ⟨g, cap, rfl, hb1⟩
      · have := congrArg List.length h0
        rw [length_lowL] at this
        simp at this
        omega
      have hcv := hb1.row.text (P := Try.prog) 39 9 5 cap (lowL x j).length rfl Try.underlying39 Try.underlying5 Try.underlying9
      have HL : Hid (lowS x j = ⟨(lowL x j).toArray⟩) := rfl
      generalize lowL x j = L at *
      go_wp2
      go_ret
      exact ⟨by rw [HL.out]; rfl, hbel⟩
theorem or_i64 (a b : Nat) (ha : a < 9223372036854775808) (hb : b < 9223372036854775808) : bits .or .i64 (a : Int) (b : Int) = ((a ||| b : Nat) : Int) := by
  show IntKind.i64.wrap ((BitVec.ofInt 64 (a : Int) ||| BitVec.ofInt 64 (b : Int)).toNat : Int) = _
  rw [BitVec.toNat_or, ofInt_u64 a (by omega), ofInt_u64 b (by omega), IntKind.wrap_i64]
  have h : a ||| b < 2 ^ 63 := Nat.or_lt_two_pow (by omega) (by omega)
  omega
theorem of_take (l : List UInt8) (j : Nat) (h : j < l.length) : ofL (l.take (j + 1)) = ofL (l.take j) + 256 ^ j * l[j].toNat := by
  rw [List.take_succ_eq_append_getElem h, ofL_append, List.length_take, Nat.min_eq_left (by omega)]
  show _ + _ * (_ + 256 * 0) = _
  rw [Nat.mul_zero, Nat.add_zero]
theorem of_take_lt (l : List UInt8) (j : Nat) : ofL (l.take j) < 256 ^ j := Nat.lt_of_lt_of_le (ofL_lt _) (Nat.pow_le_pow_right (by omega) (by rw [List.length_take]; omega))
theorem or_step (l : List UInt8) (j : Nat) (h : j < l.length) (hj : j < 7) : bits .or .i64 ((ofL (l.take j) : Nat) : Int) ((l[j].toNat * 256 ^ j : Nat) : Int) = ((ofL (l.take (j + 1)) : Nat) : Int) := by
  have h1 := of_take_lt l j
  have h2 := l[j].toNat_lt
  have h3 : 256 ^ j ≤ 256 ^ 6 := Nat.pow_le_pow_right (by omega) (by omega)
  have h4 : l[j].toNat * 256 ^ j ≤ 255 * 256 ^ 6 := Nat.mul_le_mul (by omega) h3
  rw [or_i64 _ _ (by omega) (by omega), of_take l j h]
  congr 1
  rw [← pow_8] at *
  rw [Nat.or_comm, Nat.mul_comm, ← Nat.two_pow_add_eq_or_of_lt h1, Nat.add_comm]
theorem or_stepS (s : ByteArray) (j m : Nat) (h : j < s.size) (hj : j < 7) (hm : m = 8 * j) : bits .or .i64 ((ofL (s.data.toList.take j) : Nat) : Int) (wrap64 (wrap64 (s[j].toNat : Int) * 2 ^ m)) = ((ofL (s.data.toList.take (j + 1)) : Nat) : Int) := by
  have hl : j < s.data.toList.length := by rw [Nor.size_list]; exact h
  have e := or_step s.data.toList j hl hj
  have e1 : s.data.toList[j] = s[j] := by rw [Array.getElem_toList]; rfl
  rw [e1] at e
  rw [← e]
  have h2 := s[j].toNat_lt
  have h3 : 256 ^ j ≤ 256 ^ 6 := Nat.pow_le_pow_right (by omega) (by omega)
  have h4 : s[j].toNat * 256 ^ j ≤ 255 * 256 ^ 6 := Nat.mul_le_mul (by omega) h3
  have e2 : wrap64 (s[j].toNat : Int) = (s[j].toNat : Int) := by unfold wrap64; omega
  have e3 : (s[j].toNat : Int) * 2 ^ m = ((s[j].toNat * 256 ^ j : Nat) : Int) := by rw [hm, ← pow_8, Int.natCast_mul, Int.natCast_pow]; rfl
  rw [e2, e3]
  congr 1
  generalize s[j].toNat * 256 ^ j = q at h4
  unfold wrap64
  omega

set_option maxHeartbeats 1000000 in
theorem lowGet_any (s : ByteArray) (w : World) (h7 : s.size ≤ 7) : Calls Try.prog 84 #[.string s] w fun e w' => e = .returned (.int .i64 ((ofL s.data.toList : Nat) : Int)) ∧ w' = w := by
  have HS : Hid (s.data.toList.length = s.size) := Nor.size_list s
  go_enter Try.func84, Try.ntmps84
  go_wp2
  go_loopw [3, 7] (fun v y wr => ∃ j : Nat, j ≤ s.size ∧ y = .int .i64 j ∧ v = .int .i64 ((ofL (s.data.toList.take j) : Nat) : Int) ∧ wr = w) (fun _ y _ => s.size - (intOf y).toNat)
  case atStart => exact ⟨0, Nat.zero_le _, rfl, rfl, rfl⟩
  case round =>
    obtain ⟨j, hj, rfl, rfl, rfl⟩ := hrel
    by_cases hlt : j < s.size
    · obtain ⟨m, hm⟩ : ∃ m : Nat, m = 8 * j := ⟨_, rfl⟩
      have hs1 : (8 : Int) * (j : Int) = (m : Int) := by omega
      have hs2 : m < 64 := by omega
      have HO := hide (or_stepS s j m hlt (by omega) hm)
      clear hm
      go_wp2
      exact ⟨⟨j + 1, by omega, by go_num, by rw [HO.out], trivial⟩, by simp [intOf]; omega⟩
    · obtain rfl : j = s.size := by omega
      have HT : Hid (s.data.toList.take s.size = s.data.toList) := List.take_of_length_le (by rw [HS.out]; exact Nat.le_refl _)
      go_wp2
      go_ret
      exact ⟨by rw [HT.out]; rfl, rfl⟩

theorem not_u8 (b : UInt8) : bits .xor .u8 (if IntKind.u8.signed = true then -1 else IntKind.u8.max) (b.toNat : Int) = ((~~~b).toNat : Int) := by
  have h0 : ∀ n : Fin 256, bits .xor .u8 (if IntKind.u8.signed = true then -1 else IntKind.u8.max) (n.val : Int) = ((~~~(UInt8.ofNat n.val)).toNat : Int) := by decide +kernel
  have := h0 ⟨b.toNat, b.toNat_lt⟩
  simpa only [UInt8.ofNat_toNat] using this
set_option maxHeartbeats 1000000 in
theorem comp_any (s : ByteArray) (w : World) (hz : s.size ≤ 65536) : Calls Try.prog 91 #[.string s] w fun e w' => e = .returned (.string ⟨(compL s.data.toList).toArray⟩) ∧ Below w.heap.size w w' := by
  have hmk := fun w => run_make_bytes (P := Try.prog) w 39 5 Try.underlying39 info_u8 s.size (by omega)
  have HS : Hid (s.data.toList.length = s.size) := Nor.size_list s
  obtain ⟨f, hf⟩ : ∃ f : Nat → UInt8, f = fun i => ~~~(s.data.toList.getD i 0) := ⟨_, rfl⟩
  have hfj : ∀ j (h : j < s.size), f j = ~~~s[j] := fun j h => by
    have hl : j < s.data.toList.length := by rw [HS.out]; exact h
    rw [hf]
    show ~~~(s.data.toList.getD j 0) = _
    rw [← List.getElem_eq_getD (h := hl), Array.getElem_toList]
    rfl
  have HFJ := hide hfj
  have hfull : fillTo f s.size s.size = compL s.data.toList := by
    rw [fillTo_full]
    unfold compL
    apply List.ext_getElem
    · simp
    · intro i h1 h2
      have h3 : i < s.size := by simpa using h1
      rw [List.getElem_map, List.getElem_range, List.getElem_map, hfj i h3, Array.getElem_toList]
      rfl
  have HFULL := hide hfull
  clear hfull hf hfj
  go_enter Try.func91, Try.ntmps91
  go_wp2
  clear hmk
  go_loopw [10] (fun i wr => ∃ j : Nat, j ≤ s.size ∧ i = .int .i64 j ∧ Below w.heap.size w wr ∧ w.heap.size < wr.heap.size ∧ Row wr w.heap.size (fillTo f s.size j)) (fun i _ => s.size - (intOf i).toNat)
  case atStart => exact ⟨0, Nat.zero_le _, rfl, (Below.refl _ _).alloc (Nat.le_refl _) _, by simp, row_made _ _ _⟩
  case round =>
    obtain ⟨j, hj, rfl, hbel, hsz, hrow⟩ := hrel
    have hlen := length_fillTo f s.size j
    by_cases hlt : j < s.size
    · obtain ⟨x, hc⟩ : ∃ x, wr.cell? ⟨w.heap.size, j, none⟩ = some x := ⟨_, hrow.cell j (by omega)⟩
      have hfr := hrow.free j (by omega)
      have HL : Hid ((fillTo f s.size j).length = s.size) := hlen
      clear hlen
      go_wp2
      refine ⟨⟨j + 1, by omega, by go_num, hbel.setCell (Nat.le_refl _) _, by simpa using hsz, ?_⟩, by simp [intOf]; omega⟩
      have := hrow.set j (f j) (by rw [HL.out]; omega)
      rw [not_u8, ← HFJ.out j hlt]
      exact this
    · obtain rfl : j = s.size := by omega
      rw [HFULL.out] at hrow
      have hcv := hrow.text (P := Try.prog) 39 9 5 s.size s.size (by rw [length_compL, HS.out]) Try.underlying39 Try.underlying5 Try.underlying9
      clear hlen
      generalize hR : compL s.data.toList = R at *
      have HR := hide hR
      clear hR
      go_wp2
      go_ret
      exact ⟨by rw [HR.out]; rfl, hbel⟩

set_option maxHeartbeats 1000000 in
theorem refLow_any (x k : Nat) (w : World) (hk7 : k ≤ 7) : Calls Try.prog 83 #[.int .i64 (x : Int), .int .i64 (k : Int)] w fun e w' => e = .returned (.string (lowS x k)) ∧ Below w.heap.size w w' := by
  have hmk := fun w => run_make_bytes (P := Try.prog) w 39 5 Try.underlying39 info_u8 k (by omega)
  have HFULL : Hid (fillTo (byteAt x) k k = lowL x k) := fillTo_full _ _
  go_enter Try.func83, Try.ntmps83
  go_wp2
  clear hmk
  go_loopw [6] (fun i wr => ∃ j : Nat, j ≤ k ∧ i = .int .i64 j ∧ Below w.heap.size w wr ∧ w.heap.size < wr.heap.size ∧ Row wr w.heap.size (fillTo (byteAt x) k j)) (fun i _ => k - (intOf i).toNat)
  case atStart => exact ⟨0, Nat.zero_le _, rfl, (Below.refl _ _).alloc (Nat.le_refl _) _, by simp, row_made _ _ _⟩
  case round =>
    obtain ⟨j, hj, rfl, hbel, hsz, hrow⟩ := hrel
    have hlen := length_fillTo (byteAt x) k j
    by_cases hlt : j < k
    · obtain ⟨y, hc⟩ : ∃ y, wr.cell? ⟨w.heap.size, j, none⟩ = some y := ⟨_, hrow.cell j (by omega)⟩
      have hfr := hrow.free j (by omega)
      have HL : Hid ((fillTo (byteAt x) k j).length = k) := hlen
      clear hlen
      obtain ⟨s, hs⟩ : ∃ s : Nat, s = 8 * j := ⟨_, rfl⟩
      have hs1 : (8 : Int) * (j : Int) = (s : Int) := by omega
      have hs2 : s < 64 := by omega
      have hby := byte_shr x j s hs
      clear hs
      go_wp2
      refine ⟨⟨j + 1, by omega, by go_num, hbel.setCell (Nat.le_refl _) _, by simpa using hsz, ?_⟩, by simp [intOf]; omega⟩
      exact hrow.set j (byteAt x j) (by rw [HL.out]; omega)
    · obtain rfl : j = k := by omega
      rw [HFULL.out] at hrow
      have hcv := hrow.text (P := Try.prog) 39 9 5 j j (by rw [length_lowL]) Try.underlying39 Try.underlying5 Try.underlying9
      clear hlen
      have HL : Hid (lowS x j = ⟨(lowL x j).toArray⟩) := rfl
      generalize lowL x j = R at *
      go_wp2
      go_ret
      exact ⟨by rw [HL.out]; rfl, hbel⟩

theorem of_drop (l : List UInt8) (j : Nat) (h : j < l.length) : ofL (l.drop j) = l[j].toNat + 256 * ofL (l.drop (j + 1)) := by
  rw [List.drop_eq_getElem_cons h]
  rfl
theorem of_drop_lt (l : List UInt8) (j : Nat) (h : l.length ≤ 7) : ofL (l.drop j) < 256 ^ 7 := Nat.lt_of_lt_of_le (ofL_lt _) (Nat.pow_le_pow_right (by omega) (by rw [List.length_drop]; omega))
theorem or_stepD (s : ByteArray) (j : Nat) (h : j < s.size) (h7 : s.size ≤ 7) : bits .or .i64 (wrap64 (((ofL (s.data.toList.drop (j + 1)) : Nat) : Int) * 256)) (wrap64 (s[j].toNat : Int)) = ((ofL (s.data.toList.drop j) : Nat) : Int) := by
  have hl : j < s.data.toList.length := by rw [Nor.size_list]; exact h
  have e := of_drop s.data.toList j hl
  have e1 : s.data.toList[j] = s[j] := by rw [Array.getElem_toList]; rfl
  have h0 := of_drop_lt s.data.toList j (by rw [Nor.size_list]; exact h7)
  have h2 := s[j].toNat_lt
  rw [e1] at e
  have e2 : wrap64 (s[j].toNat : Int) = (s[j].toNat : Int) := by unfold wrap64; omega
  have e3 : wrap64 (((ofL (s.data.toList.drop (j + 1)) : Nat) : Int) * 256) = ((2 ^ 8 * ofL (s.data.toList.drop (j + 1)) : Nat) : Int) := by unfold wrap64; omega
  rw [e2, e3, or_i64 _ _ (by omega) (by omega), ← Nat.two_pow_add_eq_or_of_lt (by omega), e]
  congr 1
  omega
set_option maxHeartbeats 1000000 in
theorem refOf_any (s : ByteArray) (w : World) (h7 : s.size ≤ 7) : Calls Try.prog 76 #[.string s] w fun e w' => e = .returned (.int .i64 ((ofL s.data.toList : Nat) : Int)) ∧ w' = w := by
  have HE : Hid (s.data.toList.drop s.size = []) := List.drop_of_length_le (by rw [Nor.size_list]; exact Nat.le_refl _)
  go_enter Try.func76, Try.ntmps76
  go_wp2
  go_loopw [3, 4] (fun v y wr => ∃ j : Nat, j ≤ s.size ∧ y = .int .i64 ((j : Int) - 1) ∧ v = .int .i64 ((ofL (s.data.toList.drop j) : Nat) : Int) ∧ wr = w) (fun _ y _ => (intOf y + 1).toNat)
  case atStart => exact ⟨s.size, Nat.le_refl _, rfl, by rw [HE.out]; rfl, rfl⟩
  case round =>
    obtain ⟨j, hj, rfl, rfl, rfl⟩ := hrel
    by_cases hlt : j = 0
    · subst hlt
      go_wp2
      go_ret
      exact ⟨rfl, rfl⟩
    · obtain ⟨i, rfl⟩ : ∃ i, j = i + 1 := ⟨j - 1, by omega⟩
      have hi1 : ((i + 1 : Nat) : Int) - 1 = (i : Int) := by omega
      have HO := hide (or_stepD s i (by omega) h7)
      rw [hi1]
      go_wp2
      exact ⟨⟨i, by omega, rfl, by rw [HO.out], trivial⟩, by simp [intOf]⟩
end Go.Proofs.Ythpoefaipmcceaa.EntLow
