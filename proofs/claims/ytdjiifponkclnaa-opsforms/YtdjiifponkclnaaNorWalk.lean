/- The contracts of package nor: each call returns what the plain functions give, whatever its arguments; of what was there nothing has turned. -/
import Derived.Test.YtdjiifponkclnaaChecked
import Derived.Test.YtdjiifponkclnaaNorMath
import Derived.Test.YtdjiifponkclnaaBytes
import Derived.WalkKit
import Derived.WalkSpells
import Derived.RegionTactic
import Derived.BigQuiet
namespace Go.Proofs.Ytdjiifponkclnaa.NorWalk
open Go.Proofs.Ytdjiifponkclnaa Go.RowKit Go.Proofs.Ytdjiifponkclnaa.Bytes

def mayB (f : ByteArray) : Bool := decide (f.size = 768)
def wordB (a : Int) : Bool := decide (0 ≤ a ∧ a < 768 ∧ a % 4 = 0)
theorem ret_bool {a b : Bool} (h : a = b) : Ending.returned (.bool a) = .returned (.bool b) := by rw [h]
theorem ret_text {k : IntKind} {a b : ByteArray} {c d : Int} (h : a = b) (g : c = d) : Ending.returned (.tuple #[.string a, .int k c]) = .returned (.tuple #[.string b, .int k d]) := by rw [h, g]

theorem step_u8 (c b : UInt8) (r : Nat) (h : r < 8) : bits .andNot .u8 (c.toNat : Int) (bits .and .u8 (bits .xor .u8 (if IntKind.u8.signed = true then -1 else IntKind.u8.max) (b.toNat : Int)) (2 ^ r % 256)) = ((Nor.bitStep c b r).toNat : Int) := by
  have e1 : (if IntKind.u8.signed = true then (-1 : Int) else IntKind.u8.max) = ((255 : Nat) : Int) := rfl
  have e2 : ((2 : Int) ^ r % 256) = ((2 ^ r : Nat) : Int) := by
    obtain rfl | rfl | rfl | rfl | rfl | rfl | rfl | rfl : r = 0 ∨ r = 1 ∨ r = 2 ∨ r = 3 ∨ r = 4 ∨ r = 5 ∨ r = 6 ∨ r = 7 := by omega
    all_goals rfl
  have hp : 2 ^ r < 256 := Nat.pow_lt_pow_right (by omega) h
  rw [e1, e2, u8_xor_nat 255 _ (by omega) b.toNat_lt, u8_and_nat _ _ (Nat.xor_lt_two_pow (n := 8) (by omega) b.toNat_lt) hp, u8_andNot_nat _ _ c.toNat_lt (Nat.lt_of_le_of_lt Nat.and_le_right hp)]
  have h0 : ∀ n : Fin 256, ∀ r : Fin 8, (~~~(~~~(UInt8.ofNat n.val) &&& (1 <<< UInt8.ofNat (r.val % 8)))).toNat = 255 - ((255 ^^^ n.val) &&& 2 ^ r.val) := by decide +kernel
  have h1 := h0 ⟨b.toNat, b.toNat_lt⟩ ⟨r, h⟩
  simp only [UInt8.ofNat_toNat] at h1
  unfold Nor.bitStep
  rw [UInt8.toNat_and, h1]

theorem may_any (f : ByteArray) (w : World) : Calls Try.prog 26 #[.string f] w fun e w' => e = .returned (.bool (mayB f)) ∧ w' = w := by
  go_enter Try.func26, Try.ntmps26
  go_wp2
  go_ret
  exact ⟨ret_bool (by unfold mayB; rw [Bool.eq_iff_iff]; simp; omega), rfl⟩

theorem word_any (a : Int) (w : World) : Calls Try.prog 35 #[.int .i64 a] w fun e w' => e = .returned (.bool (wordB a)) ∧ w' = w := by
  by_cases h0 : 0 ≤ a
  · by_cases h1 : a < 768
    · go_enter Try.func35, Try.ntmps35
      go_wp2
      go_ret
      exact ⟨ret_bool (by unfold wordB; rw [Bool.eq_iff_iff]; simp; omega), rfl⟩
    · go_enter Try.func35, Try.ntmps35
      go_wp2
      go_ret
      exact ⟨ret_bool (by unfold wordB; rw [Bool.eq_iff_iff]; simp; omega), rfl⟩
  · go_enter Try.func35, Try.ntmps35
    go_wp2
    go_ret
    exact ⟨ret_bool (by unfold wordB; rw [Bool.eq_iff_iff]; simp; omega), rfl⟩


set_option maxHeartbeats 400000 in
theorem torn_no (f : ByteArray) (a : Int) (v : ByteArray) (k : Int) (w : World) (h : Nor.tornOk f a v k = false) :
    Calls Try.prog 31 #[.string f, .int .i64 a, .string v, .int .i64 k] w fun e w' => e = .returned (.tuple #[.string ⟨#[]⟩, .int .i64 200]) ∧ w' = w := by
  by_cases h1 : mayB f = true
  · by_cases h2 : wordB a = true
    · by_cases h3 : v.size = 4
      · by_cases h4 : k < 0
        · go_enter Try.func31, Try.ntmps31
          go_wp2_with (first | (go_at_call 26; refine (may_any _ _).mono ?_; rintro e w' ⟨rfl, rfl⟩) | (go_at_call 35; refine (word_any _ _).mono ?_; rintro e w' ⟨rfl, rfl⟩))
          go_ret2
          exact ⟨rfl, rfl⟩
        · have h5 : 32 < k := by
            unfold Nor.tornOk at h
            unfold mayB at h1
            unfold wordB at h2
            simp at h h1 h2
            omega
          go_enter Try.func31, Try.ntmps31
          go_wp2_with (first | (go_at_call 26; refine (may_any _ _).mono ?_; rintro e w' ⟨rfl, rfl⟩) | (go_at_call 35; refine (word_any _ _).mono ?_; rintro e w' ⟨rfl, rfl⟩))
          go_ret2
          exact ⟨rfl, rfl⟩
      · go_enter Try.func31, Try.ntmps31
        go_wp2_with (first | (go_at_call 26; refine (may_any _ _).mono ?_; rintro e w' ⟨rfl, rfl⟩) | (go_at_call 35; refine (word_any _ _).mono ?_; rintro e w' ⟨rfl, rfl⟩))
        go_ret2
        exact ⟨rfl, rfl⟩
    · simp only [Bool.not_eq_true] at h2
      go_enter Try.func31, Try.ntmps31
      go_wp2_with (first | (go_at_call 26; refine (may_any _ _).mono ?_; rintro e w' ⟨rfl, rfl⟩) | (go_at_call 35; refine (word_any _ _).mono ?_; rintro e w' ⟨rfl, rfl⟩))
      go_ret2
      exact ⟨rfl, rfl⟩
  · simp only [Bool.not_eq_true] at h1
    go_enter Try.func31, Try.ntmps31
    go_wp2_with (first | (go_at_call 26; refine (may_any _ _).mono ?_; rintro e w' ⟨rfl, rfl⟩) | (go_at_call 35; refine (word_any _ _).mono ?_; rintro e w' ⟨rfl, rfl⟩))
    go_ret2
    exact ⟨rfl, rfl⟩

set_option maxHeartbeats 1000000 in
set_option maxRecDepth 100000 in
theorem torn_yes (f : ByteArray) (a : Nat) (v : ByteArray) (k : Nat) (w : World) (hf : f.size = 768) (ha : a < 768) (ha4 : a % 4 = 0) (hv : v.size = 4) (hk : k ≤ 32) :
    Calls Try.prog 31 #[.string f, .int .i64 (a : Int), .string v, .int .i64 (k : Int)] w fun e w' => e = .returned (.tuple #[.string ⟨(Nor.tornL f.data.toList v.data.toList a k).toArray⟩, .int .i64 0]) ∧ Below w.heap.size w w' := by
  have h1 : mayB f = true := by unfold mayB; simpa using hf
  have h2 : wordB (a : Int) = true := by unfold wordB; simp; omega
  have hf1 : f.size ≤ 768 := by omega
  have hf2 : 768 ≤ f.size := by omega
  have HF : Hid (f.size = 768) := hf
  clear hf
  have hcv := fun w => run_bytes_of_string (P := Try.prog) w 9 60 5 f Try.underlying9 Try.underlying60 Try.underlying5
  go_enter Try.func31, Try.ntmps31
  go_wp2_with (first | (go_at_call 26; refine (may_any _ _).mono ?_; rintro e w' ⟨rfl, rfl⟩) | (go_at_call 35; refine (word_any _ _).mono ?_; rintro e w' ⟨rfl, rfl⟩))
  clear hcv
  have hstart : Row ((w'.alloc (Obj.cells (bytesRow f (grownCap w' f.size 0 5)) 5 ((bytesRow f (grownCap w' f.size 0 5)).size, (bytesRow f (grownCap w' f.size 0 5)).size + 1))).drew) w'.heap.size f.data.toList := (row_of_string w' 5 f _ (grownCap_ge w' _ _ _)).drew
  generalize grownCap w' f.size 0 5 = cap at *
  go_loopw [37] (fun i wr => ∃ j : Nat, j ≤ k ∧ i = .int .i64 j ∧ Below w'.heap.size w' wr ∧ w'.heap.size < wr.heap.size ∧ Row wr w'.heap.size (Nor.tornL f.data.toList v.data.toList a j)) (fun i _ => k - (intOf i).toNat)
  case atStart => exact ⟨0, by omega, rfl, ((Below.refl _ _).alloc (Nat.le_refl _) _).drew, by simp, by rw [Nor.tornL_0]; exact hstart⟩
  case round =>
    obtain ⟨j, hj, rfl, hbel, hsz, hrow⟩ := hrel
    clear hstart
    have hlen : (Nor.tornL f.data.toList v.data.toList a j).length = f.size := by rw [Nor.length_tornL, Nor.size_list]
    by_cases hlt : j < k
    · obtain ⟨q, hq⟩ : ∃ q : Nat, q = j / 8 := ⟨_, rfl⟩
      obtain ⟨r, hr⟩ : ∃ r : Nat, r = j % 8 := ⟨_, rfl⟩
      have hjq : (j : Int) / 8 = (q : Int) := by omega
      have hjr : (j : Int) % 8 = (r : Int) := by omega
      have hq4 : q < 4 := by omega
      have hr8 : r < 8 := by omega
      have hqv : q < v.size := by omega
      have hc := hrow.cell (a + q) (by omega)
      have hfr := hrow.free (a + q) (by omega)
      generalize hcd : (Nor.tornL f.data.toList v.data.toList a j)[a + q] = c at hc
      have HC : (Nor.tornL f.data.toList v.data.toList a j).getD (a + q) 0 = c := by rw [← List.getElem_eq_getD (h := by omega)]; exact hcd
      clear hcd
      have HL : Hid ((Nor.tornL f.data.toList v.data.toList a j).length = f.size) := hlen
      clear hlen
      have HN : Hid (Nor.tornL f.data.toList v.data.toList a (j + 1) = (Nor.tornL f.data.toList v.data.toList a j).set (a + q) (Nor.bitStep c (v[q]'hqv) r)) := by
        have e := Nor.tornL_succ f.data.toList v.data.toList a j (by omega) (by rw [Nor.size_list]; omega)
        rw [← hq, HC] at e
        have e2 : v.data.toList.getD q 0 = (v[q]'hqv) := by rw [← List.getElem_eq_getD (h := by rw [Nor.size_list]; omega)]; simp; rfl
        rw [e2] at e
        have e3 : Nor.bitStep c (v[q]'hqv) j = Nor.bitStep c (v[q]'hqv) r := by unfold Nor.bitStep; rw [hr, Nat.mod_mod]
        rw [e3] at e
        exact e
      clear HC
      clear hv
      have HQ : Hid (q = j / 8) := hq
      have HR : Hid (r = j % 8) := hr
      clear hq hr
      go_wp2
      go_region
      go_wp2
      refine ⟨⟨j + 1, by omega, by go_num, (hbel.setCell (Nat.le_refl _) _).drew, by simpa using hsz, ?_⟩, by simp [intOf]; omega⟩
      rw [HN.out, step_u8 _ _ _ hr8]
      exact (hrow.set (a + q) _ (by rw [HL.out]; omega)).drew
    · obtain rfl : j = k := by omega
      have hcv := hrow.text (P := Try.prog) 60 9 5 cap f.size hlen.symm Try.underlying60 Try.underlying5 Try.underlying9
      clear hlen
      go_wp2
      go_ret2
      exact ⟨rfl, hbel⟩

theorem torn_any (f : ByteArray) (a : Int) (v : ByteArray) (k : Int) (w : World) :
    Calls Try.prog 31 #[.string f, .int .i64 a, .string v, .int .i64 k] w fun e w' => e = .returned (.tuple #[.string (Nor.tornS f a v k), .int .i64 (Nor.errN (Nor.tornOk f a v k))]) ∧ Below w.heap.size w w' := by
  cases h : Nor.tornOk f a v k with
  | false =>
    rw [Nor.tornS_no h]
    refine (torn_no f a v k w h).mono ?_
    rintro e w' ⟨rfl, rfl⟩
    exact ⟨rfl, Below.refl _ _⟩
  | true =>
    rw [Nor.tornS_ok h]
    unfold Nor.tornOk at h
    obtain ⟨h1, h2, h3, h4, h5, h6, h7⟩ := of_decide_eq_true h
    obtain ⟨a, rfl⟩ := Int.eq_ofNat_of_zero_le h2
    obtain ⟨k, rfl⟩ := Int.eq_ofNat_of_zero_le h6
    exact torn_yes f a v k w h1 (by omega) (by omega) h5 (by omega)

set_option maxHeartbeats 400000 in
theorem program_any (f : ByteArray) (a : Int) (v : ByteArray) (w : World) :
    Calls Try.prog 28 #[.string f, .int .i64 a, .string v] w fun e w' => e = .returned (.tuple #[.string (Nor.tornS f a v 32), .int .i64 (Nor.errN (Nor.tornOk f a v 32))]) ∧ Below w.heap.size w w' := by
  go_enter Try.func28, Try.ntmps28
  go_wp2_with (go_at_call 31; refine (torn_any _ _ _ _ _).mono ?_; rintro e w' ⟨rfl, hb⟩)
  go_ret2
  exact ⟨rfl, hb⟩

set_option maxHeartbeats 400000 in
theorem worn_no (f : ByteArray) (a : Int) (k : Int) (w : World) (h : Nor.wornOk f a k = false) :
    Calls Try.prog 30 #[.string f, .int .i64 a, .int .i64 k] w fun e w' => e = .returned (.tuple #[.string ⟨#[]⟩, .int .i64 200]) ∧ w' = w := by
  by_cases h1 : mayB f = true
  · by_cases h2 : a < 0
    · go_enter Try.func30, Try.ntmps30
      go_wp2_with (go_at_call 26; refine (may_any _ _).mono ?_; rintro e w' ⟨rfl, rfl⟩)
      go_ret2
      exact ⟨rfl, rfl⟩
    · by_cases h3 : 8 ≤ a
      · go_enter Try.func30, Try.ntmps30
        go_wp2_with (go_at_call 26; refine (may_any _ _).mono ?_; rintro e w' ⟨rfl, rfl⟩)
        go_ret2
        exact ⟨rfl, rfl⟩
      · by_cases h4 : k < 0
        · go_enter Try.func30, Try.ntmps30
          go_wp2_with (go_at_call 26; refine (may_any _ _).mono ?_; rintro e w' ⟨rfl, rfl⟩)
          go_ret2
          exact ⟨rfl, rfl⟩
        · have h5 : 96 < k := by
            unfold Nor.wornOk at h
            unfold mayB at h1
            simp at h h1
            omega
          go_enter Try.func30, Try.ntmps30
          go_wp2_with (go_at_call 26; refine (may_any _ _).mono ?_; rintro e w' ⟨rfl, rfl⟩)
          go_ret2
          exact ⟨rfl, rfl⟩
  · simp only [Bool.not_eq_true] at h1
    go_enter Try.func30, Try.ntmps30
    go_wp2_with (go_at_call 26; refine (may_any _ _).mono ?_; rintro e w' ⟨rfl, rfl⟩)
    go_ret2
    exact ⟨rfl, rfl⟩

set_option maxHeartbeats 1000000 in
set_option maxRecDepth 100000 in
theorem worn_yes (f : ByteArray) (a : Nat) (k : Nat) (w : World) (hf : f.size = 768) (ha : a < 8) (hk : k ≤ 96) :
    Calls Try.prog 30 #[.string f, .int .i64 (a : Int), .int .i64 (k : Int)] w fun e w' => e = .returned (.tuple #[.string ⟨(Nor.wornL f.data.toList (96 * a) k).toArray⟩, .int .i64 0]) ∧ Below w.heap.size w w' := by
  have h1 : mayB f = true := by unfold mayB; simpa using hf
  have hf1 : f.size ≤ 768 := by omega
  have hf2 : 768 ≤ f.size := by omega
  have HF : Hid (f.size = 768) := hf
  clear hf
  have hcv := fun w => run_bytes_of_string (P := Try.prog) w 9 60 5 f Try.underlying9 Try.underlying60 Try.underlying5
  go_enter Try.func30, Try.ntmps30
  go_wp2_with (go_at_call 26; refine (may_any _ _).mono ?_; rintro e w' ⟨rfl, rfl⟩)
  clear hcv
  have hstart : Row ((w'.alloc (Obj.cells (bytesRow f (grownCap w' f.size 0 5)) 5 ((bytesRow f (grownCap w' f.size 0 5)).size, (bytesRow f (grownCap w' f.size 0 5)).size + 1))).drew) w'.heap.size f.data.toList := (row_of_string w' 5 f _ (grownCap_ge w' _ _ _)).drew
  generalize grownCap w' f.size 0 5 = cap at *
  go_loopw [32] (fun i wr => ∃ j : Nat, j ≤ k ∧ i = .int .i64 j ∧ Below w'.heap.size w' wr ∧ w'.heap.size < wr.heap.size ∧ Row wr w'.heap.size (Nor.wornL f.data.toList (96 * a) j)) (fun i _ => k - (intOf i).toNat)
  case atStart => exact ⟨0, by omega, rfl, ((Below.refl _ _).alloc (Nat.le_refl _) _).drew, by simp, by rw [Nor.wornL_0]; exact hstart⟩
  case round =>
    obtain ⟨j, hj, rfl, hbel, hsz, hrow⟩ := hrel
    clear hstart
    have hlen : (Nor.wornL f.data.toList (96 * a) j).length = f.size := by rw [Nor.length_wornL, Nor.size_list]
    by_cases hlt : j < k
    · obtain ⟨p, hp⟩ : ∃ p : Nat, p = 96 * a + j := ⟨_, rfl⟩
      have hp1 : (a : Int) * 96 + (j : Int) = (p : Int) := by omega
      have hp2 : p < 768 := by omega
      obtain ⟨x, hc⟩ : ∃ x, wr.cell? ⟨w'.heap.size, p, none⟩ = some x := ⟨_, hrow.cell p (by omega)⟩
      have hfr := hrow.free p (by omega)
      have HL : Hid ((Nor.wornL f.data.toList (96 * a) j).length = f.size) := hlen
      clear hlen
      have HN : Hid (Nor.wornL f.data.toList (96 * a) (j + 1) = (Nor.wornL f.data.toList (96 * a) j).set p 255) := by
        rw [hp]; exact Nor.wornL_succ _ _ _ (by rw [Nor.size_list]; omega)
      have HP : Hid (p = 96 * a + j) := hp
      clear hp
      go_wp2
      refine ⟨⟨j + 1, by omega, by go_num, hbel.setCell (Nat.le_refl _) _, by simpa using hsz, ?_⟩, by simp [intOf]; omega⟩
      rw [HN.out]
      exact hrow.set p 255 (by rw [HL.out]; omega)
    · obtain rfl : j = k := by omega
      have hcv := hrow.text (P := Try.prog) 60 9 5 cap f.size hlen.symm Try.underlying60 Try.underlying5 Try.underlying9
      clear hlen
      go_wp2
      go_ret2
      exact ⟨rfl, hbel⟩

theorem worn_any (f : ByteArray) (a : Int) (k : Int) (w : World) :
    Calls Try.prog 30 #[.string f, .int .i64 a, .int .i64 k] w fun e w' => e = .returned (.tuple #[.string (Nor.wornS f a k), .int .i64 (Nor.errN (Nor.wornOk f a k))]) ∧ Below w.heap.size w w' := by
  cases h : Nor.wornOk f a k with
  | false =>
    rw [Nor.wornS_no h]
    refine (worn_no f a k w h).mono ?_
    rintro e w' ⟨rfl, rfl⟩
    exact ⟨rfl, Below.refl _ _⟩
  | true =>
    rw [Nor.wornS_ok h]
    unfold Nor.wornOk at h
    obtain ⟨h1, h2, h3, h4, h5⟩ := of_decide_eq_true h
    obtain ⟨a, rfl⟩ := Int.eq_ofNat_of_zero_le h2
    obtain ⟨k, rfl⟩ := Int.eq_ofNat_of_zero_le h4
    exact worn_yes f a k w h1 (by omega) (by omega)

set_option maxHeartbeats 400000 in
theorem erase_any (f : ByteArray) (a : Int) (w : World) :
    Calls Try.prog 27 #[.string f, .int .i64 a] w fun e w' => e = .returned (.tuple #[.string (Nor.wornS f a 96), .int .i64 (Nor.errN (Nor.wornOk f a 96))]) ∧ Below w.heap.size w w' := by
  go_enter Try.func27, Try.ntmps27
  go_wp2_with (go_at_call 30; refine (worn_any _ _ _ _).mono ?_; rintro e w' ⟨rfl, hb⟩)
  go_ret2
  exact ⟨rfl, hb⟩

end Go.Proofs.Ytdjiifponkclnaa.NorWalk
