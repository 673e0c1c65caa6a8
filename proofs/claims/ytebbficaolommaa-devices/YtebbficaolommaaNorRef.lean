/- The contracts of the document's own answers to package nor: they return what the same plain functions give. -/
import Derived.Test.YtebbficaolommaaNorWalk
import Derived.Deep.RegionWith
namespace Go.Proofs.Ytebbficaolommaa.NorRef
open Go.Proofs.Ytebbficaolommaa Go.RowKit Go.Proofs.Ytebbficaolommaa.Bytes Go.Proofs.Ytebbficaolommaa.NorWalk

def upToB (x a b : Int) : Bool := decide (a ≤ x ∧ x ≤ b)

theorem upTo_any (x a b : Int) (w : World) : Calls Try.prog 27 #[.int .i64 x, .int .i64 a, .int .i64 b] w fun e w' => e = .returned (.bool (upToB x a b)) ∧ w' = w := by
  go_enter Try.func27, Try.ntmps27
  go_wp2
  all_goals
    go_ret
    exact ⟨ret_bool (by unfold upToB; rw [Bool.eq_iff_iff]; simp; try omega), rfl⟩
theorem wordAt_any (a : Int) (w : World) : Calls Try.prog 33 #[.int .i64 a] w fun e w' => e = .returned (.bool (wordB a)) ∧ w' = w := by
  cases h : upToB a 0 764 with
  | true =>
    have h0 : 0 ≤ a := by unfold upToB at h; exact (of_decide_eq_true h).1
    have h1 : a ≤ 764 := by unfold upToB at h; exact (of_decide_eq_true h).2
    go_enter Try.func33, Try.ntmps33
    go_wp2_with (go_at_call 27; refine (upTo_any _ _ _ _).mono ?_; rintro e w' ⟨rfl, rfl⟩)
    go_ret
    exact ⟨ret_bool (by unfold wordB; rw [Bool.eq_iff_iff]; simp; omega), rfl⟩
  | false =>
    have h0 : ¬ (0 ≤ a ∧ a ≤ 764) := by unfold upToB at h; exact of_decide_eq_false h
    have H0 : Hid (wordB a = false) := by unfold wordB; exact decide_eq_false (by omega)
    clear h0
    go_enter Try.func33, Try.ntmps33
    go_wp2_with (go_at_call 27; refine (upTo_any _ _ _ _).mono ?_; rintro e w' ⟨rfl, rfl⟩)
    go_ret
    exact ⟨ret_bool H0.out.symm, rfl⟩

theorem info_u8 : (Try.prog.info? 5).map (fun i => (i.zero, i.size, i.bytes)) = some (some (.int .u8 0), 1, 1) := by kernel_rfl
theorem fill_ff (k : Nat) : fillTo (fun _ => 255) k k = List.replicate k 255 := by
  rw [fillTo_full]
  apply List.ext_getElem
  · simp
  · intro i h1 h2
    simp

theorem bit_and (b : UInt8) (r : Nat) : bits .and .u8 ((b.toNat : Int) / 2 ^ r) 1 = ((b.toNat / 2 ^ r &&& 1 : Nat) : Int) := by
  have e : ((b.toNat : Int) / 2 ^ r) = ((b.toNat / 2 ^ r : Nat) : Int) := by rw [Int.natCast_ediv, Int.natCast_pow]; rfl
  rw [e]
  exact u8_and_nat _ 1 (Nat.lt_of_le_of_lt (Nat.div_le_self _ _) b.toNat_lt) (by omega)
theorem bit_set (c b : UInt8) (r : Nat) (hr : r < 8) (h : (bits .and .u8 ((b.toNat : Int) / 2 ^ r) 1 == 0) = false) : Nor.bitStep c b r = c := by
  rw [bit_and, beq_eq_false_iff_ne] at h
  have h0 : ∀ n : Fin 256, ∀ r : Fin 8, ¬ (n.val / 2 ^ r.val &&& 1) = 0 → ~~~(~~~(UInt8.ofNat n.val) &&& (1 <<< UInt8.ofNat (r.val % 8))) = (255 : UInt8) := by decide +kernel
  have h1 := h0 ⟨b.toNat, b.toNat_lt⟩ ⟨r, hr⟩ (by intro e; exact h (by rw [e]; rfl))
  simp only [UInt8.ofNat_toNat] at h1
  have h2 : ∀ n : Fin 256, UInt8.ofNat n.val &&& 255 = UInt8.ofNat n.val := by decide +kernel
  have h3 := h2 ⟨c.toNat, c.toNat_lt⟩
  simp only [UInt8.ofNat_toNat] at h3
  unfold Nor.bitStep
  rw [h1, h3]
theorem bit_unset (c b : UInt8) (r : Nat) (hr : r < 8) (h : (bits .and .u8 ((b.toNat : Int) / 2 ^ r) 1 == 0) = true) : bits .andNot .u8 (c.toNat : Int) (2 ^ r % 256) = ((Nor.bitStep c b r).toNat : Int) := by
  rw [bit_and, beq_iff_eq] at h
  have h0 : ∀ n : Fin 256, ∀ r : Fin 8, (n.val / 2 ^ r.val &&& 1) = 0 → (~~~(~~~(UInt8.ofNat n.val) &&& (1 <<< UInt8.ofNat (r.val % 8)))).toNat = 255 - 2 ^ r.val := by decide +kernel
  have h1 := h0 ⟨b.toNat, b.toNat_lt⟩ ⟨r, hr⟩ (Int.ofNat_inj.1 h)
  simp only [UInt8.ofNat_toNat] at h1
  have e2 : ((2 : Int) ^ r % 256) = ((2 ^ r : Nat) : Int) := by
    obtain rfl | rfl | rfl | rfl | rfl | rfl | rfl | rfl : r = 0 ∨ r = 1 ∨ r = 2 ∨ r = 3 ∨ r = 4 ∨ r = 5 ∨ r = 6 ∨ r = 7 := by omega
    all_goals rfl
  have hp : 2 ^ r < 256 := Nat.pow_lt_pow_right (by omega) hr
  rw [e2, u8_andNot_nat _ _ c.toNat_lt hp]
  unfold Nor.bitStep
  rw [UInt8.toNat_and, h1]

theorem no1 {F : ByteArray} {p : Int} {V : ByteArray} {k : Int} (h : ¬ (F.size = 768 ∧ 0 ≤ p ∧ p < 768 ∧ p % 4 = 0 ∧ V.size = 4)) : Nor.tornOk F p V k = false := by
  unfold Nor.tornOk
  exact decide_eq_false (fun g => h ⟨g.1, g.2.1, g.2.2.1, g.2.2.2.1, g.2.2.2.2.1⟩)
theorem no2 {F : ByteArray} {s : Int} {k : Int} (h : ¬ (F.size = 768 ∧ 0 ≤ s ∧ s < 8)) : Nor.wornOk F s k = false := by
  unfold Nor.wornOk
  exact decide_eq_false (fun g => h ⟨g.1, g.2.1, g.2.2.1⟩)
theorem no3 {F : ByteArray} {p : Int} {V : ByteArray} {k : Int} (h : ¬ (0 ≤ k ∧ k ≤ 32)) : Nor.tornOk F p V k = false := by
  unfold Nor.tornOk
  exact decide_eq_false (fun g => h g.2.2.2.2.2)
theorem no4 {F : ByteArray} {s : Int} {k : Int} (h : ¬ (0 ≤ k ∧ k ≤ 96)) : Nor.wornOk F s k = false := by
  unfold Nor.wornOk
  exact decide_eq_false (fun g => h g.2.2.2)
/-- All four calls of it are refused. -/
def Refused (F : ByteArray) (p : Int) (V : ByteArray) (s : Int) : Prop := Nor.tornOk F p V 32 = false ∧ Nor.tornOk F p V 3 = false ∧ Nor.wornOk F s 96 = false ∧ Nor.wornOk F s 5 = false
theorem refused_size {F : ByteArray} (p : Int) (V : ByteArray) (s : Int) (h : ¬ F.size = 768) : Refused F p V s := ⟨no1 (fun g => h g.1), no1 (fun g => h g.1), no2 (fun g => h g.1), no2 (fun g => h g.1)⟩
theorem refused_place (F : ByteArray) {p : Int} (V : ByteArray) {s : Int} (h : ¬ (0 ≤ p ∧ p < 768 ∧ p % 4 = 0)) (g : ¬ (0 ≤ s ∧ s < 8)) : Refused F p V s := ⟨no1 (fun i => h ⟨i.2.1, i.2.2.1, i.2.2.2.1⟩), no1 (fun i => h ⟨i.2.1, i.2.2.1, i.2.2.2.1⟩), no2 (fun i => g i.2), no2 (fun i => g i.2)⟩
theorem refused_word (F : ByteArray) (p : Int) {V : ByteArray} {s : Int} (h : ¬ V.size = 4) (g : ¬ (0 ≤ s ∧ s < 8)) : Refused F p V s := ⟨no1 (fun i => h i.2.2.2.2), no1 (fun i => h i.2.2.2.2), no2 (fun i => g i.2), no2 (fun i => g i.2)⟩
theorem size_cut : (Nor.blankS.extract 1 768).size = 767 := by rw [ByteArray.size_extract, Nor.size_blankS]; rfl
theorem size_more : (Nor.blankS ++ ⟨#[120]⟩).size = 769 := by rw [ByteArray.size_append, Nor.size_blankS]; rfl
theorem tornOk_f {f : ByteArray} {a : Int} {v : ByteArray} {k : Int} (h : Nor.tornOk f a v k = false) : mayB f = false ∨ mayB f = true ∧ wordB a = false ∨ mayB f = true ∧ wordB a = true ∧ ¬ v.size = 4 ∨ mayB f = true ∧ wordB a = true ∧ v.size = 4 ∧ upToB k 0 32 = false := by
  unfold Nor.tornOk at h
  unfold mayB wordB upToB
  by_cases h1 : f.size = 768 <;> by_cases h2 : 0 ≤ a ∧ a < 768 ∧ a % 4 = 0 <;> by_cases h3 : v.size = 4 <;> by_cases h4 : 0 ≤ k ∧ k ≤ 32
  all_goals simp [h1, h2, h3, h4] at h ⊢
theorem wornOk_f {f : ByteArray} {a : Int} {k : Int} (h : Nor.wornOk f a k = false) : mayB f = false ∨ mayB f = true ∧ upToB a 0 7 = false ∨ mayB f = true ∧ upToB a 0 7 = true ∧ upToB k 0 96 = false := by
  unfold Nor.wornOk at h
  unfold mayB upToB
  by_cases h1 : f.size = 768 <;> by_cases h2 : 0 ≤ a ∧ a ≤ 7 <;> by_cases h4 : 0 ≤ k ∧ k ≤ 96
  all_goals simp [h1, h2, h4] at h ⊢
  all_goals omega

end Go.Proofs.Ytebbficaolommaa.NorRef
