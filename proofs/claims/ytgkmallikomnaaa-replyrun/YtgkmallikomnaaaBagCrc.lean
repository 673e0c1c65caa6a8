/- The sum of a text as plain mathematics on numbers below 2^32: one bit, one byte, a text; that it is linear over the turning of bits, that each step can be taken back, and that a stretch of 32 turned bits is seen. No program is named here. -/
import Derived.Test.YtgkmallikomnaaaChecked
import Derived.WalkKit
import Derived.WalkSpells
import Derived.Laws.BitsAllLaws
namespace Go.Proofs.Ytgkmallikomnaaa.Crc

def bit1 (r : Nat) : Nat := (r / 2) ^^^ (if r % 2 = 1 then 3988292384 else 0)
def bitN : Nat → Nat → Nat
  | 0, r => r
  | k + 1, r => bit1 (bitN k r)
def byte1 (r : Nat) (b : UInt8) : Nat := bitN 8 (r ^^^ b.toNat)
def rest (r : Nat) (l : List UInt8) : Nat := l.foldl byte1 r
def sum (l : List UInt8) : Nat := rest 4294967295 l ^^^ 4294967295

theorem bitN_succ' (k r : Nat) : bitN (k + 1) r = bitN k (bit1 r) := by
  induction k with
  | zero => rfl
  | succ k ih => show bit1 (bitN (k + 1) r) = bit1 (bitN k (bit1 r)); rw [ih]

theorem bitN_add (j k r : Nat) : bitN (j + k) r = bitN j (bitN k r) := by
  induction j with
  | zero => simp [bitN]
  | succ j ih => rw [Nat.succ_add]; show bit1 _ = bit1 _; rw [ih]

theorem xor_lt (a b : Nat) (ha : a < 4294967296) (hb : b < 4294967296) : a ^^^ b < 4294967296 := Nat.xor_lt_two_pow (n := 32) ha hb

theorem bit1_lt (r : Nat) (h : r < 4294967296) : bit1 r < 4294967296 := by
  unfold bit1
  apply xor_lt
  · omega
  · split <;> omega
theorem bitN_lt (k r : Nat) (h : r < 4294967296) : bitN k r < 4294967296 := by
  induction k with
  | zero => exact h
  | succ k ih => exact bit1_lt _ ih
theorem u8_lt (b : UInt8) : b.toNat < 4294967296 := by have := b.toNat_lt; omega
theorem byte1_lt (r : Nat) (b : UInt8) (h : r < 4294967296) : byte1 r b < 4294967296 := bitN_lt _ _ (xor_lt _ _ h (u8_lt b))
theorem rest_lt (r : Nat) (l : List UInt8) (h : r < 4294967296) : rest r l < 4294967296 := by
  induction l generalizing r with
  | nil => exact h
  | cons b l ih => exact ih _ (byte1_lt r b h)
theorem sum_lt (l : List UInt8) : sum l < 4294967296 := xor_lt _ _ (rest_lt _ _ (by omega)) (by omega)

theorem rest_nil (r : Nat) : rest r [] = r := rfl
theorem rest_cons (r : Nat) (b : UInt8) (l : List UInt8) : rest r (b :: l) = rest (byte1 r b) l := rfl
theorem rest_append (r : Nat) (l m : List UInt8) : rest r (l ++ m) = rest (rest r l) m := by unfold rest; rw [List.foldl_append]
theorem rest_snoc (r : Nat) (l : List UInt8) (b : UInt8) : rest r (l ++ [b]) = byte1 (rest r l) b := by rw [rest_append]; rfl

/- linear -/
theorem xor_half (a b : Nat) : (a ^^^ b) / 2 = a / 2 ^^^ b / 2 := by
  have h := Nat.shiftRight_xor_distrib (a := a) (b := b) (i := 1)
  simpa [Nat.shiftRight_eq_div_pow] using h
theorem xor_parity (a b : Nat) : (a ^^^ b) % 2 = (a % 2 + b % 2) % 2 := by
  have h : (a ^^^ b).testBit 0 = ((a.testBit 0) ^^ (b.testBit 0)) := Nat.testBit_xor ..
  rw [Nat.testBit_zero, Nat.testBit_zero, Nat.testBit_zero] at h
  have hc := Nat.mod_two_eq_zero_or_one (a ^^^ b)
  generalize (a ^^^ b) % 2 = c at h hc
  rcases Nat.mod_two_eq_zero_or_one a with ha | ha <;> rcases Nat.mod_two_eq_zero_or_one b with hb | hb <;> rcases hc with hc | hc <;> rw [ha, hb, hc] at h <;> rw [ha, hb, hc] <;> simp at h
theorem xor4 (a b c d : Nat) : a ^^^ b ^^^ (c ^^^ d) = a ^^^ c ^^^ (b ^^^ d) := by
  rw [Nat.xor_assoc, Nat.xor_assoc, ← Nat.xor_assoc b c d, ← Nat.xor_assoc c b d, Nat.xor_comm b c]
theorem bit1_xor (a b : Nat) : bit1 (a ^^^ b) = bit1 a ^^^ bit1 b := by
  unfold bit1
  rw [xor_half, xor4 (a / 2) _ (b / 2) _]
  congr 1
  rw [xor_parity]
  rcases Nat.mod_two_eq_zero_or_one a with ha | ha <;> rcases Nat.mod_two_eq_zero_or_one b with hb | hb <;> simp [ha, hb]
theorem bitN_xor (k a b : Nat) : bitN k (a ^^^ b) = bitN k a ^^^ bitN k b := by
  induction k with
  | zero => rfl
  | succ k ih => show bit1 _ = bit1 _ ^^^ bit1 _; rw [ih, bit1_xor]
theorem bitN_zero (k : Nat) : bitN k 0 = 0 := by
  induction k with
  | zero => rfl
  | succ k ih => show bit1 _ = 0; rw [ih]; rfl

/- each step can be taken back -/
theorem bit1_top (r : Nat) (h : r < 4294967296) : (bit1 r).testBit 31 = decide (r % 2 = 1) := by
  unfold bit1
  rw [Nat.testBit_xor]
  have h1 : (r / 2).testBit 31 = false := Nat.testBit_lt_two_pow (by have : (2 : Nat) ^ 31 = 2147483648 := by decide
                                                                     omega)
  rw [h1]
  by_cases hp : r % 2 = 1
  · rw [if_pos hp]; simp [hp]; decide
  · rw [if_neg hp]; simp [hp]
theorem xor_inj_right (a b c : Nat) (h : a ^^^ c = b ^^^ c) : a = b := by
  have : a ^^^ c ^^^ c = b ^^^ c ^^^ c := by rw [h]
  simpa [Nat.xor_assoc] using this
theorem bit1_inj (a b : Nat) (ha : a < 4294967296) (hb : b < 4294967296) (h : bit1 a = bit1 b) : a = b := by
  have t := bit1_top a ha
  rw [h, bit1_top b hb, decide_eq_decide] at t
  have hpar : a % 2 = b % 2 := by omega
  unfold bit1 at h
  rw [hpar] at h
  have h2 : a / 2 = b / 2 := xor_inj_right _ _ _ h
  omega
theorem bitN_inj (k a b : Nat) (ha : a < 4294967296) (hb : b < 4294967296) (h : bitN k a = bitN k b) : a = b := by
  induction k with
  | zero => exact h
  | succ k ih => exact ih (bit1_inj _ _ (bitN_lt k a ha) (bitN_lt k b hb) h)
theorem byte1_inj (a b : Nat) (x : UInt8) (ha : a < 4294967296) (hb : b < 4294967296) (h : byte1 a x = byte1 b x) : a = b :=
  xor_inj_right _ _ _ (bitN_inj 8 _ _ (xor_lt _ _ ha (u8_lt x)) (xor_lt _ _ hb (u8_lt x)) h)
theorem rest_inj (a b : Nat) (l : List UInt8) (ha : a < 4294967296) (hb : b < 4294967296) (h : rest a l = rest b l) : a = b := by
  induction l generalizing a b with
  | nil => exact h
  | cons x l ih => exact byte1_inj a b x ha hb (ih _ _ (byte1_lt a x ha) (byte1_lt b x hb) h)

/- two texts of one sum go on alike -/
theorem sum_longer (s t m : List UInt8) : (sum s = sum t) ↔ (sum (s ++ m) = sum (t ++ m)) := by
  unfold sum
  rw [rest_append, rest_append]
  constructor
  · intro h; rw [xor_inj_right _ _ _ h]
  · intro h; rw [rest_inj _ _ m (rest_lt _ _ (by omega)) (rest_lt _ _ (by omega)) (xor_inj_right _ _ _ h)]

/- of three texts of one length -/
def mix (s t u : List UInt8) : List UInt8 := List.zipWith (· ^^^ ·) (List.zipWith (· ^^^ ·) s t) u
theorem mix_cons (a b c : UInt8) (s t u : List UInt8) : mix (a :: s) (b :: t) (c :: u) = (a ^^^ b ^^^ c) :: mix s t u := rfl
theorem byte1_mix (p q r : Nat) (a b c : UInt8) : byte1 (p ^^^ q ^^^ r) (a ^^^ b ^^^ c) = byte1 p a ^^^ byte1 q b ^^^ byte1 r c := by
  unfold byte1
  rw [← bitN_xor, ← bitN_xor, UInt8.toNat_xor, UInt8.toNat_xor]
  congr 1
  rw [xor4 (p ^^^ q) r (a.toNat ^^^ b.toNat) c.toNat, xor4 p q]
theorem rest_mix (s t u : List UInt8) (h1 : s.length = t.length) (h2 : s.length = u.length) (p q r : Nat) : rest (p ^^^ q ^^^ r) (mix s t u) = rest p s ^^^ rest q t ^^^ rest r u := by
  induction s generalizing t u p q r with
  | nil =>
    cases t with
    | nil => cases u with
      | nil => rfl
      | cons _ _ => simp at h2
    | cons _ _ => simp at h1
  | cons a s ih =>
    cases t with
    | nil => simp at h1
    | cons b t => cases u with
      | nil => simp at h2
      | cons c u =>
        simp only [List.length_cons, Nat.add_right_cancel_iff] at h1 h2
        rw [mix_cons, rest_cons, rest_cons, rest_cons, rest_cons, byte1_mix, ih t u h1 h2]
theorem sum_mix (s t u : List UInt8) (h1 : s.length = t.length) (h2 : s.length = u.length) : sum (mix s t u) = sum s ^^^ sum t ^^^ sum u := by
  unfold sum
  have e : (4294967295 : Nat) = 4294967295 ^^^ 4294967295 ^^^ 4294967295 := by decide
  have h := rest_mix s t u h1 h2 4294967295 4294967295 4294967295
  rw [← e] at h
  rw [h, xor4 (rest 4294967295 s) 4294967295 (rest 4294967295 t) 4294967295, Nat.xor_self, Nat.xor_zero, Nat.xor_assoc]

def mixAt (s t u : List UInt8) (i : Nat) : UInt8 := s.getD i 0 ^^^ t.getD i 0 ^^^ u.getD i 0
theorem mix_take (s t u : List UInt8) (k : Nat) (h1 : k ≤ s.length) (h2 : k ≤ t.length) (h3 : k ≤ u.length) : (List.range k).map (mixAt s t u) = mix (s.take k) (t.take k) (u.take k) := by
  apply List.ext_getElem
  · simp [mix]; omega
  · intro i a b
    simp at a
    simp [mix, mixAt, List.getElem?_eq_getElem (show i < s.length by omega), List.getElem?_eq_getElem (show i < t.length by omega), List.getElem?_eq_getElem (show i < u.length by omega)]

/- a stretch of 32 bits -/
theorem bit1_double (a : Nat) : bit1 (2 * a) = a := by
  unfold bit1
  rw [if_neg (by omega)]
  simp
theorem bitN_shift (k a : Nat) : bitN k (a * 2 ^ k) = a := by
  induction k generalizing a with
  | zero => simp [bitN]
  | succ k ih => rw [bitN_succ', Nat.pow_succ, show a * (2 ^ k * 2) = 2 * (a * 2 ^ k) by rw [← Nat.mul_assoc, Nat.mul_comm]; , bit1_double, ih]
theorem byte_step (k d y : Nat) : bitN 8 (bitN k d ^^^ y) = bitN (8 + k) (d ^^^ y * 2 ^ k) := by
  rw [bitN_add, bitN_xor k, bitN_shift]
theorem rest_four (r : Nat) (a b c d : UInt8) : rest r [a, b, c, d] = bitN 32 (r ^^^ a.toNat ^^^ b.toNat * 256 ^^^ c.toNat * 65536 ^^^ d.toNat * 16777216) := by
  show byte1 (byte1 (byte1 (byte1 r a) b) c) d = _
  unfold byte1
  rw [byte_step 8 (r ^^^ a.toNat) b.toNat, byte_step (8 + 8) _ c.toNat, byte_step (8 + (8 + 8)) _ d.toNat]
theorem mul_xor (a b : Nat) : (a ^^^ b) * 256 = a * 256 ^^^ b * 256 := by
  have h := Nat.shiftLeft_xor_distrib (a := a) (b := b) (i := 8)
  simpa [Nat.shiftLeft_eq] using h
theorem low_high (x y x' y' : Nat) (hx : x < 256) (hx' : x' < 256) (h : x ^^^ y * 256 = x' ^^^ y' * 256) : x = x' ∧ y = y' := by
  have m : ∀ u v : Nat, u < 256 → (u ^^^ v * 256) % 256 = u ∧ (u ^^^ v * 256) / 256 = v := by
    intro u v hu
    constructor
    · have e := Nat.xor_mod_two_pow (a := u) (b := v * 256) (n := 8)
      simp at e
      rw [e, Nat.mod_eq_of_lt hu]
    · have e := Nat.shiftRight_xor_distrib (a := u) (b := v * 256) (i := 8)
      simp [Nat.shiftRight_eq_div_pow] at e
      rw [e, Nat.div_eq_of_lt hu]
      simp
  have a1 := m x y hx
  have a2 := m x' y' hx'
  rw [h] at a1
  exact ⟨a1.1.symm.trans a2.1, a1.2.symm.trans a2.2⟩
theorem four_inj (r : Nat) (hr : r < 4294967296) (a b c d a' b' c' d' : UInt8) (h : rest r [a, b, c, d] = rest r [a', b', c', d']) : a = a' ∧ b = b' ∧ c = c' ∧ d = d' := by
  rw [rest_four, rest_four] at h
  have bd : ∀ x : UInt8, x.toNat < 256 := fun x => x.toNat_lt
  have e : ∀ p q s t : UInt8, r ^^^ p.toNat ^^^ q.toNat * 256 ^^^ s.toNat * 65536 ^^^ t.toNat * 16777216 = r ^^^ (p.toNat ^^^ (q.toNat ^^^ (s.toNat ^^^ t.toNat * 256) * 256) * 256) := by
    intro p q s t
    rw [mul_xor s.toNat, mul_xor q.toNat, mul_xor (s.toNat * 256)]
    simp only [Nat.xor_assoc, Nat.mul_assoc]
  have lt : ∀ p q s t : UInt8, r ^^^ p.toNat ^^^ q.toNat * 256 ^^^ s.toNat * 65536 ^^^ t.toNat * 16777216 < 4294967296 := by
    intro p q s t
    have := bd p; have := bd q; have := bd s; have := bd t
    exact xor_lt _ _ (xor_lt _ _ (xor_lt _ _ (xor_lt _ _ hr (by omega)) (by omega)) (by omega)) (by omega)
  have h2 := bitN_inj 32 _ _ (lt a b c d) (lt a' b' c' d') h
  rw [e, e, Nat.xor_comm r, Nat.xor_comm r] at h2
  have h3 := xor_inj_right _ _ _ h2
  obtain ⟨ea, h4⟩ := low_high _ _ _ _ (bd a) (bd a') h3
  obtain ⟨eb, h5⟩ := low_high _ _ _ _ (bd b) (bd b') h4
  obtain ⟨ec, ed⟩ := low_high _ _ _ _ (bd c) (bd c') h5
  exact ⟨UInt8.toNat_inj.1 ea, UInt8.toNat_inj.1 eb, UInt8.toNat_inj.1 ec, UInt8.toNat_inj.1 ed⟩
theorem sum_burst (p q : List UInt8) (a b c d a' b' c' d' : UInt8) (h : sum (p ++ ([a, b, c, d] ++ q)) = sum (p ++ ([a', b', c', d'] ++ q))) : a = a' ∧ b = b' ∧ c = c' ∧ d = d' := by
  unfold sum at h
  have h1 := xor_inj_right _ _ _ h
  rw [rest_append, rest_append _ p, rest_append _ _ q, rest_append _ _ q] at h1
  have hr : rest 4294967295 p < 4294967296 := rest_lt _ _ (by omega)
  exact four_inj _ hr _ _ _ _ _ _ _ _ (rest_inj _ _ q (rest_lt _ _ hr) (rest_lt _ _ hr) h1)

/- four bytes of a text, turned one by one -/
def turn4 (l : List UInt8) (k : Nat) (x : Nat → UInt8) : Nat → List UInt8
  | 0 => l
  | i + 1 => (turn4 l k x i).set (k + i) (l.getD (k + i) 0 ^^^ x i)
theorem length_turn4 (l : List UInt8) (k : Nat) (x : Nat → UInt8) (i : Nat) : (turn4 l k x i).length = l.length := by
  induction i with
  | zero => rfl
  | succ i ih => simp [turn4, ih]
theorem get_turn4 (l : List UInt8) (k : Nat) (x : Nat → UInt8) (i j : Nat) (h : k + i ≤ j) : (turn4 l k x i)[j]? = l[j]? := by
  induction i with
  | zero => rfl
  | succ i ih =>
    show ((turn4 l k x i).set (k + i) _)[j]? = _
    rw [List.getElem?_set_ne (by omega), ih (by omega)]
theorem at_turn4 (l : List UInt8) (k : Nat) (x : Nat → UInt8) (i : Nat) (h : k + i < (turn4 l k x i).length) : (turn4 l k x i)[k + i] = l.getD (k + i) 0 := by
  have e := get_turn4 l k x i (k + i) (Nat.le_refl _)
  rw [List.getElem?_eq_getElem h] at e
  rw [List.getD_eq_getElem?_getD, ← e]
  rfl
theorem xor_self_zero (a x : UInt8) (h : a = a ^^^ x) : x = 0 := by
  have h1 : a ^^^ a = a ^^^ (a ^^^ x) := by rw [← h]
  simpa [← UInt8.xor_assoc] using h1.symm
theorem four_of (l : List UInt8) (h : 4 ≤ l.length) : ∃ a b c d q, l = a :: b :: c :: d :: q := by
  match l, h with
  | a :: b :: c :: d :: q, _ => exact ⟨a, b, c, d, q, rfl⟩
theorem sum_turn4 (l : List UInt8) (k : Nat) (h : k + 4 ≤ l.length) (x : Nat → UInt8) (he : sum (turn4 l k x 4) = sum l) : x 0 = 0 ∧ x 1 = 0 ∧ x 2 = 0 ∧ x 3 = 0 := by
  obtain ⟨p, q0, hl, hp⟩ : ∃ p q, l = p ++ q ∧ p.length = k := ⟨l.take k, l.drop k, (List.take_append_drop k l).symm, by simp; omega⟩
  subst hl
  obtain ⟨a, b, c, d, q, rfl⟩ := four_of q0 (by simp at h; omega)
  subst hp
  have e : turn4 (p ++ (a :: b :: c :: d :: q)) p.length x 4 = p ++ ([a ^^^ x 0, b ^^^ x 1, c ^^^ x 2, d ^^^ x 3] ++ q) := by
    simp [turn4, List.getD]
  rw [e] at he
  obtain ⟨h0, h1, h2, h3⟩ := sum_burst p q a b c d _ _ _ _ he.symm
  exact ⟨xor_self_zero _ _ h0, xor_self_zero _ _ h1, xor_self_zero _ _ h2, xor_self_zero _ _ h3⟩

end Go.Proofs.Ytgkmallikomnaaa.Crc

/- The contracts of crc.Sum and of the byte's step that it calls: each returns what the plain sum gives, and leaves the world as it was. -/
namespace Go.Proofs.Ytgkmallikomnaaa.CrcSum
open Go.Proofs.Ytgkmallikomnaaa Go.RowKit

theorem and_one (r : Nat) (h : r < 4294967296) : bits .and .u32 (r : Int) 1 = ((r % 2 : Nat) : Int) := by
  have e := u32_and_nat r 1 h (by omega)
  rw [nat_mask1] at e
  exact e
theorem xor_nat (r : Nat) (b : Nat) (h : r < 4294967296) (hb : b < 4294967296) : bits .xor .u32 (r : Int) (b : Int) = ((r ^^^ b : Nat) : Int) := u32_xor_nat r b h hb

theorem step_odd (v : Nat) (hv : v < 4294967296) (hp : v % 2 = 1) : bits .xor .u32 ((v : Int) / 2) 3988292384 = ((Crc.bit1 v : Nat) : Int) := by
  have e := u32_xor_nat (v / 2) 3988292384 (by omega) (by omega)
  unfold Crc.bit1
  rw [if_pos hp]
  exact e
theorem step_even (v : Nat) (hp : ¬ v % 2 = 1) : (v : Int) / 2 = ((Crc.bit1 v : Nat) : Int) := by
  unfold Crc.bit1
  rw [if_neg hp, Nat.xor_zero]
  rfl
theorem last (v : Nat) (hv : v < 4294967296) : wrap64 (bits BinOp.xor IntKind.u32 IntKind.u32.max (v : Int)) = ((v ^^^ 4294967295 : Nat) : Int) := by
  have e := u32_xor_nat 4294967295 v (by omega) hv
  have hm : IntKind.u32.max = ((4294967295 : Nat) : Int) := rfl
  have hl := Crc.xor_lt 4294967295 v (by omega) hv
  rw [hm, e, Nat.xor_comm v]
  unfold wrap64; omega
theorem val_int {k : IntKind} {a b : Int} (h : a = b) : Value.int k a = .int k b := by rw [h]
theorem ret_bool {a b : Bool} (h : a = b) : Ending.returned (.bool a) = .returned (.bool b) := by rw [h]
theorem ret_int {k : IntKind} {a b : Int} (h : a = b) : Ending.returned (.int k a) = .returned (.int k b) := by rw [h]

theorem rest_take (s : ByteArray) (k : Nat) (h : k < s.size) : Crc.rest 4294967295 (s.data.toList.take (k + 1)) = Crc.byte1 (Crc.rest 4294967295 (s.data.toList.take k)) s[k] := by
  rw [List.take_succ_eq_append_getElem (by simpa using h), Crc.rest_snoc]; rfl

end Go.Proofs.Ytgkmallikomnaaa.CrcSum

/- The contracts of the law's small helpers: the number of an error, and 'awake', which asks two sums that are known; and of the document's own answer to crc.Sum: the same plain sum. -/
namespace Go.Proofs.Ytgkmallikomnaaa.CrcAwake
open Go.Proofs.Ytgkmallikomnaaa Go.RowKit Go.Proofs.Ytgkmallikomnaaa.CrcSum

theorem num_any (n : Int) (w : World) : Calls Try.prog 11 #[.int .i64 n] w fun e w' => e = .returned (.int .i64 n) ∧ w' = w := by
  go_enter Try.func11, Try.ntmps11
  go_wp2
  go_ret
  exact ⟨rfl, rfl⟩

theorem known9 : ((Crc.sum [49, 50, 51, 52, 53, 54, 55, 56, 57] : Nat) : Int) = 3421780262 := by decide +kernel
theorem known0 : ((Crc.sum [] : Nat) : Int) = 0 := by decide +kernel

set_option maxHeartbeats 400000 in
theorem ref_any (s : ByteArray) (w : World) (hs : s.size < 9223372036854775808) :
    Calls Try.prog 46 #[.string s] w fun e w' => e = .returned (.int .i64 (Crc.sum s.data.toList : Nat)) ∧ w' = w := by
  go_enter Try.func46, Try.ntmps46
  go_wp2
  go_loop [3, 4] (fun v i => ∃ k : Nat, k ≤ s.size ∧ i = .int .i64 k ∧ v = .int .u32 (Crc.rest 4294967295 (s.data.toList.take k) : Nat)) (fun _ i => s.size - (intOf i).toNat)
  case atStart => exact ⟨0, Nat.zero_le _, rfl, rfl⟩
  case round =>
    obtain ⟨k, hk, rfl, rfl⟩ := hrel
    have hv := Crc.rest_lt 4294967295 (s.data.toList.take k) (by omega)
    by_cases hlt : k < s.size
    · have HS : Hid (Crc.rest 4294967295 (s.data.toList.take (k + 1)) = Crc.byte1 (Crc.rest 4294967295 (s.data.toList.take k)) s[k]) := rest_take s k hlt
      generalize Crc.rest 4294967295 (s.data.toList.take k) = r at hv HS ⊢
      have hb := s[k].toNat_lt
      have hx := xor_nat r s[k].toNat hv (by omega)
      have hxl : r ^^^ s[k].toNat < 4294967296 := Crc.xor_lt _ _ hv (by omega)
      go_wp2
      go_loop [3, 5] (fun v i => ∃ j : Nat, j ≤ 8 ∧ i = .int .i64 j ∧ v = .int .u32 (Crc.bitN j (r ^^^ s[k].toNat) : Nat)) (fun _ i => 8 - (intOf i).toNat)
      case atStart => exact ⟨0, Nat.zero_le _, rfl, rfl⟩
      case round =>
        obtain ⟨j, hj, rfl, rfl⟩ := hrel
        have hw := Crc.bitN_lt j _ hxl
        have HJ : Hid (Crc.bitN (j + 1) (r ^^^ s[k].toNat) = Crc.bit1 (Crc.bitN j (r ^^^ s[k].toNat))) := rfl
        have HV : Hid (j = 8 → Crc.bitN j (r ^^^ s[k].toNat) = Crc.byte1 r s[k]) := fun h => by subst h; rfl
        generalize Crc.bitN j (r ^^^ s[k].toNat) = v at hw HJ HV ⊢
        clear hx hxl
        have ha := and_one v hw
        by_cases hl8 : j < 8
        · clear HV
          by_cases hp : v % 2 = 1
          · go_wp2
            exact ⟨⟨j + 1, by omega, by go_num, val_int (by rw [HJ.out]; exact step_odd v hw hp)⟩, by simp [intOf]; omega⟩
          · go_wp2
            exact ⟨⟨j + 1, by omega, by go_num, val_int (by rw [HJ.out]; exact step_even v hp)⟩, by simp [intOf]; omega⟩
        · go_wp2
          exact ⟨⟨k + 1, by omega, by go_num, val_int (by rw [HS.out, HV.out (by omega)])⟩, by simp [intOf]; omega⟩
    · have HF : Hid (Crc.rest 4294967295 (s.data.toList.take k) = Crc.rest 4294967295 s.data.toList) := congrArg _ (List.take_of_length_le (by simp; omega))
      generalize Crc.rest 4294967295 (s.data.toList.take k) = v at hv HF ⊢
      go_wp2
      go_ret
      exact ⟨ret_int (by rw [last v hv]; unfold Crc.sum; rw [HF.out]), rfl⟩
end Go.Proofs.Ytgkmallikomnaaa.CrcAwake
