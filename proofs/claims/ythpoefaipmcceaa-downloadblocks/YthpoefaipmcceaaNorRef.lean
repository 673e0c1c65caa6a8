/- The contracts of the document's own answers to package nor: they return what the same plain functions give. -/
import Derived.Test.YthpoefaipmcceaaNorWalk
import Derived.Deep.RegionWith
namespace Go.Proofs.Ythpoefaipmcceaa.NorRef
open Go.Proofs.Ythpoefaipmcceaa Go.RowKit Go.Proofs.Ythpoefaipmcceaa.Bytes Go.Proofs.Ythpoefaipmcceaa.NorWalk

def upToB (x a b : Int) : Bool := decide (a ≤ x ∧ x ≤ b)

theorem upTo_any (x a b : Int) (w : World) : Calls Try.prog 36 #[.int .i64 x, .int .i64 a, .int .i64 b] w fun e w' => e = .returned (.bool (upToB x a b)) ∧ w' = w := by
  go_enter Try.func36, Try.ntmps36
  go_wp2
  all_goals
    go_ret
    exact ⟨ret_bool (by unfold upToB; rw [Bool.eq_iff_iff]; simp; try omega), rfl⟩
theorem flashMay_any (f : ByteArray) (w : World) : Calls Try.prog 46 #[.string f] w fun e w' => e = .returned (.bool (mayB f)) ∧ w' = w := by
  go_enter Try.func46, Try.ntmps46
  go_wp2
  go_ret
  exact ⟨ret_bool (by unfold mayB; rw [Bool.eq_iff_iff]; simp; omega), rfl⟩
theorem wordAt_any (a : Int) (w : World) : Calls Try.prog 66 #[.int .i64 a] w fun e w' => e = .returned (.bool (wordB a)) ∧ w' = w := by
  cases h : upToB a 0 764 with
  | true =>
    have h0 : 0 ≤ a := by unfold upToB at h; exact (of_decide_eq_true h).1
    have h1 : a ≤ 764 := by unfold upToB at h; exact (of_decide_eq_true h).2
    go_enter Try.func66, Try.ntmps66
    go_wp2_with (go_at_call 36; refine (upTo_any _ _ _ _).mono ?_; rintro e w' ⟨rfl, rfl⟩)
    go_ret
    exact ⟨ret_bool (by unfold wordB; rw [Bool.eq_iff_iff]; simp; omega), rfl⟩
  | false =>
    have h0 : ¬ (0 ≤ a ∧ a ≤ 764) := by unfold upToB at h; exact of_decide_eq_false h
    have H0 : Hid (wordB a = false) := by unfold wordB; exact decide_eq_false (by omega)
    clear h0
    go_enter Try.func66, Try.ntmps66
    go_wp2_with (go_at_call 36; refine (upTo_any _ _ _ _).mono ?_; rintro e w' ⟨rfl, rfl⟩)
    go_ret
    exact ⟨ret_bool H0.out.symm, rfl⟩

theorem info_u8 : (Try.prog.info? 5).map (fun i => (i.zero, i.size, i.bytes)) = some (some (.int .u8 0), 1, 1) := by kernel_rfl
theorem fill_ff (k : Nat) : fillTo (fun _ => 255) k k = List.replicate k 255 := by
  rw [fillTo_full]
  apply List.ext_getElem
  · simp
  · intro i h1 h2
    simp

set_option maxHeartbeats 400000 in
theorem full_any (k : Nat) (w : World) (hk : k ≤ 65536) : Calls Try.prog 32 #[.int .i64 (k : Int)] w fun e w' => e = .returned (.string ⟨(List.replicate k 255).toArray⟩) ∧ Below w.heap.size w w' := by
  have hmk := fun w => run_make_bytes (P := Try.prog) w 39 5 Try.underlying39 info_u8 k (by omega)
  go_enter Try.func32, Try.ntmps32
  go_wp2
  clear hmk
  go_loopw [4] (fun i wr => ∃ j : Nat, j ≤ k ∧ i = .int .i64 j ∧ Below w.heap.size w wr ∧ w.heap.size < wr.heap.size ∧ Row wr w.heap.size (fillTo (fun _ => 255) k j)) (fun i _ => k - (intOf i).toNat)
  case atStart => exact ⟨0, Nat.zero_le _, rfl, (Below.refl _ _).alloc (Nat.le_refl _) _, by simp, row_made _ _ _⟩
  case round =>
    obtain ⟨j, hj, rfl, hbel, hsz, hrow⟩ := hrel
    have hlen := length_fillTo (fun _ => 255) k j
    by_cases hlt : j < k
    · obtain ⟨x, hc⟩ : ∃ x, wr.cell? ⟨w.heap.size, j, none⟩ = some x := ⟨_, hrow.cell j (by omega)⟩
      have hfr := hrow.free j (by omega)
      have HL : Hid ((fillTo (fun _ => 255) k j).length = k) := hlen
      clear hlen
      go_wp2
      refine ⟨⟨j + 1, by omega, by go_num, hbel.setCell (Nat.le_refl _) _, by simpa using hsz, ?_⟩, by simp [intOf]; omega⟩
      exact hrow.set j 255 (by rw [HL.out]; omega)
    · obtain rfl : j = k := by omega
      rw [fill_ff] at hrow hlen
      have hcv := hrow.text (P := Try.prog) 39 9 5 j j hlen.symm Try.underlying39 Try.underlying5 Try.underlying9
      clear hlen
      generalize hR : List.replicate j (255 : UInt8) = R at *
      have HR : Hid (List.replicate j (255 : UInt8) = R) := hR
      clear hR
      go_wp2
      go_ret
      exact ⟨by rw [HR.out]; rfl, hbel⟩

theorem full_768 (w : World) : Calls Try.prog 32 #[.int .i64 768] w fun e w' => e = .returned (.string Nor.blankS) ∧ Below w.heap.size w w' := full_any 768 w (by omega)

set_option maxHeartbeats 400000 in
theorem refBlank_any (w : World) : Calls Try.prog 15 #[] w fun e w' => e = .returned (.string Nor.blankS) ∧ Below w.heap.size w w' := by
  go_enter Try.func15, Try.ntmps15
  go_wp2_with (go_at_call 32; refine (full_768 _).mono ?_; rintro e w' ⟨rfl, hb⟩)
  go_ret
  exact ⟨rfl, hb⟩

theorem bit_and (b : UInt8) (r : Nat) : bits .and .u8 ((b.toNat : Int) / 2 ^ r) 1 = ((b.toNat / 2 ^ r &&& 1 : Nat) : Int) := by
  have e : ((b.toNat : Int) / 2 ^ r) = ((b.toNat / 2 ^ r : Nat) : Int) := by rw [Int.natCast_ediv, Int.natCast_pow]; rfl
  rw [e]
  exact u8_and_nat _ 1 (Nat.lt_of_le_of_lt (Nat.div_le_self _ _) b.toNat_lt) (by omega)
theorem bit_set (c b : UInt8) (r : Nat) (hr : r < 8) (h : (bits .and .u8 ((b.toNat : Int) / 2 ^ r) 1 == 0) = false) : Nor.bitStep c b r = c := by
  rw [bit_and, beq_eq_false_iff_ne] at h
  have h0 : ∀ n : Fin 256, ∀ r : Fin 8, ¬ (n.val / 2 ^ r.val &&& 1) = 0 → ~~~(~~~(UInt8.ofNat n.val) &&& (1 <<< UInt8.ofNat (r.val % 8))) = (255 : UInt8) := by decide +kernel
  have h1 := h0 ⟨b.toNat, b.toNat_lt⟩ ⟨r, hr⟩ (by intro e; exact h (by rw [e]; rfl))
  simp only [UInt8.ofNat_toNat] at h1
  have h2 : ∀ n : Fin 256, UInt8.ofNat n.val &&& 255 = UInt8.ofNat n.val := by decide +kernel
  have h3 := h2 ⟨c.toNat, c.toNat_lt⟩
  simp only [UInt8.ofNat_toNat] at h3
  unfold Nor.bitStep
  rw [h1, h3]
theorem bit_unset (c b : UInt8) (r : Nat) (hr : r < 8) (h : (bits .and .u8 ((b.toNat : Int) / 2 ^ r) 1 == 0) = true) : bits .andNot .u8 (c.toNat : Int) (2 ^ r % 256) = ((Nor.bitStep c b r).toNat : Int) := by
  rw [bit_and, beq_iff_eq] at h
  have h0 : ∀ n : Fin 256, ∀ r : Fin 8, (n.val / 2 ^ r.val &&& 1) = 0 → (~~~(~~~(UInt8.ofNat n.val) &&& (1 <<< UInt8.ofNat (r.val % 8)))).toNat = 255 - 2 ^ r.val := by decide +kernel
  have h1 := h0 ⟨b.toNat, b.toNat_lt⟩ ⟨r, hr⟩ (Int.ofNat_inj.1 h)
  simp only [UInt8.ofNat_toNat] at h1
  have e2 : ((2 : Int) ^ r % 256) = ((2 ^ r : Nat) : Int) := by
    obtain rfl | rfl | rfl | rfl | rfl | rfl | rfl | rfl : r = 0 ∨ r = 1 ∨ r = 2 ∨ r = 3 ∨ r = 4 ∨ r = 5 ∨ r = 6 ∨ r = 7 := by omega
    all_goals rfl
  have hp : 2 ^ r < 256 := Nat.pow_lt_pow_right (by omega) hr
  rw [e2, u8_andNot_nat _ _ c.toNat_lt hp]
  unfold Nor.bitStep
  rw [UInt8.toNat_and, h1]

theorem no1 {F : ByteArray} {p : Int} {V : ByteArray} {k : Int} (h : ¬ (F.size = 768 ∧ 0 ≤ p ∧ p < 768 ∧ p % 4 = 0 ∧ V.size = 4)) : Nor.tornOk F p V k = false := by
  unfold Nor.tornOk
  exact decide_eq_false (fun g => h ⟨g.1, g.2.1, g.2.2.1, g.2.2.2.1, g.2.2.2.2.1⟩)
theorem no2 {F : ByteArray} {s : Int} {k : Int} (h : ¬ (F.size = 768 ∧ 0 ≤ s ∧ s < 8)) : Nor.wornOk F s k = false := by
  unfold Nor.wornOk
  exact decide_eq_false (fun g => h ⟨g.1, g.2.1, g.2.2.1⟩)
theorem no3 {F : ByteArray} {p : Int} {V : ByteArray} {k : Int} (h : ¬ (0 ≤ k ∧ k ≤ 32)) : Nor.tornOk F p V k = false := by
  unfold Nor.tornOk
  exact decide_eq_false (fun g => h g.2.2.2.2.2)
theorem no4 {F : ByteArray} {s : Int} {k : Int} (h : ¬ (0 ≤ k ∧ k ≤ 96)) : Nor.wornOk F s k = false := by
  unfold Nor.wornOk
  exact decide_eq_false (fun g => h g.2.2.2)
/-- All four calls of it are refused. -/
def Refused (F : ByteArray) (p : Int) (V : ByteArray) (s : Int) : Prop := Nor.tornOk F p V 32 = false ∧ Nor.tornOk F p V 3 = false ∧ Nor.wornOk F s 96 = false ∧ Nor.wornOk F s 5 = false
theorem refused_size {F : ByteArray} (p : Int) (V : ByteArray) (s : Int) (h : ¬ F.size = 768) : Refused F p V s := ⟨no1 (fun g => h g.1), no1 (fun g => h g.1), no2 (fun g => h g.1), no2 (fun g => h g.1)⟩
theorem refused_place (F : ByteArray) {p : Int} (V : ByteArray) {s : Int} (h : ¬ (0 ≤ p ∧ p < 768 ∧ p % 4 = 0)) (g : ¬ (0 ≤ s ∧ s < 8)) : Refused F p V s := ⟨no1 (fun i => h ⟨i.2.1, i.2.2.1, i.2.2.2.1⟩), no1 (fun i => h ⟨i.2.1, i.2.2.1, i.2.2.2.1⟩), no2 (fun i => g i.2), no2 (fun i => g i.2)⟩
theorem refused_word (F : ByteArray) (p : Int) {V : ByteArray} {s : Int} (h : ¬ V.size = 4) (g : ¬ (0 ≤ s ∧ s < 8)) : Refused F p V s := ⟨no1 (fun i => h i.2.2.2.2), no1 (fun i => h i.2.2.2.2), no2 (fun i => g i.2), no2 (fun i => g i.2)⟩
theorem size_cut : (Nor.blankS.extract 1 768).size = 767 := by rw [ByteArray.size_extract, Nor.size_blankS]; rfl
theorem size_more : (Nor.blankS ++ ⟨#[120]⟩).size = 769 := by rw [ByteArray.size_append, Nor.size_blankS]; rfl
theorem tornOk_f {f : ByteArray} {a : Int} {v : ByteArray} {k : Int} (h : Nor.tornOk f a v k = false) : mayB f = false ∨ mayB f = true ∧ wordB a = false ∨ mayB f = true ∧ wordB a = true ∧ ¬ v.size = 4 ∨ mayB f = true ∧ wordB a = true ∧ v.size = 4 ∧ upToB k 0 32 = false := by
  unfold Nor.tornOk at h
  unfold mayB wordB upToB
  by_cases h1 : f.size = 768 <;> by_cases h2 : 0 ≤ a ∧ a < 768 ∧ a % 4 = 0 <;> by_cases h3 : v.size = 4 <;> by_cases h4 : 0 ≤ k ∧ k ≤ 32
  all_goals simp [h1, h2, h3, h4] at h ⊢
theorem wornOk_f {f : ByteArray} {a : Int} {k : Int} (h : Nor.wornOk f a k = false) : mayB f = false ∨ mayB f = true ∧ upToB a 0 7 = false ∨ mayB f = true ∧ upToB a 0 7 = true ∧ upToB k 0 96 = false := by
  unfold Nor.wornOk at h
  unfold mayB upToB
  by_cases h1 : f.size = 768 <;> by_cases h2 : 0 ≤ a ∧ a ≤ 7 <;> by_cases h4 : 0 ≤ k ∧ k ≤ 96
  all_goals simp [h1, h2, h4] at h ⊢
  all_goals omega

set_option maxHeartbeats 400000 in
theorem refTorn_no (f : ByteArray) (a : Int) (v : ByteArray) (k : Int) (w : World) (h : Nor.tornOk f a v k = false) :
    Calls Try.prog 50 #[.string f, .int .i64 a, .string v, .int .i64 k] w fun e w' => e = .returned (.tuple #[.string ⟨#[]⟩, .int .i64 200]) ∧ w' = w := by
  rcases tornOk_f h with h1 | ⟨h1, h2⟩ | ⟨h1, h2, h3⟩ | ⟨h1, h2, h3, h4⟩
  all_goals
    go_enter Try.func50, Try.ntmps50
    go_wp2_with (first | (go_at_call 46; refine (flashMay_any _ _).mono ?_; rintro e w' ⟨rfl, rfl⟩) | (go_at_call 66; refine (wordAt_any _ _).mono ?_; rintro e w' ⟨rfl, rfl⟩) | (go_at_call 36; refine (upTo_any _ _ _ _).mono ?_; rintro e w' ⟨rfl, rfl⟩))
    go_ret2
    exact ⟨rfl, rfl⟩
set_option maxHeartbeats 400000 in
theorem refWorn_no (f : ByteArray) (a : Int) (k : Int) (w : World) (h : Nor.wornOk f a k = false) :
    Calls Try.prog 49 #[.string f, .int .i64 a, .int .i64 k] w fun e w' => e = .returned (.tuple #[.string ⟨#[]⟩, .int .i64 200]) ∧ w' = w := by
  rcases wornOk_f h with h1 | ⟨h1, h2⟩ | ⟨h1, h2, h3⟩
  all_goals
    go_enter Try.func49, Try.ntmps49
    go_wp2_with (first | (go_at_call 46; refine (flashMay_any _ _).mono ?_; rintro e w' ⟨rfl, rfl⟩) | (go_at_call 36; refine (upTo_any _ _ _ _).mono ?_; rintro e w' ⟨rfl, rfl⟩))
    go_ret2
    exact ⟨rfl, rfl⟩

set_option maxHeartbeats 1000000 in
set_option maxRecDepth 100000 in
theorem refTorn_yes (f : ByteArray) (a : Nat) (v : ByteArray) (k : Nat) (w : World) (hf : f.size = 768) (ha : a < 768) (ha4 : a % 4 = 0) (hv : v.size = 4) (hk : k ≤ 32) :
    Calls Try.prog 50 #[.string f, .int .i64 (a : Int), .string v, .int .i64 (k : Int)] w fun e w' => e = .returned (.tuple #[.string ⟨(Nor.tornL f.data.toList v.data.toList a k).toArray⟩, .int .i64 0]) ∧ Below w.heap.size w w' := by
  have h1 : mayB f = true := by unfold mayB; simpa using hf
  have h2 : wordB (a : Int) = true := by unfold wordB; simp; omega
  have h3 : upToB (k : Int) 0 32 = true := by unfold upToB; simp; omega
  have hf1 : f.size ≤ 768 := by omega
  have hf2 : 768 ≤ f.size := by omega
  have HF : Hid (f.size = 768) := hf
  clear hf
  have ha0 : a ≤ 764 := by omega
  have hcv := fun w s => run_bytes_of_string (P := Try.prog) w 9 39 5 s Try.underlying9 Try.underlying39 Try.underlying5
  go_enter Try.func50, Try.ntmps50
  go_wp2_with (first | (go_at_call 46; refine (flashMay_any _ _).mono ?_; rintro e w' ⟨rfl, rfl⟩) | (go_at_call 66; refine (wordAt_any _ _).mono ?_; rintro e w' ⟨rfl, rfl⟩) | (go_at_call 36; refine (upTo_any _ _ _ _).mono ?_; rintro e w' ⟨rfl, rfl⟩))
  clear hcv
  rw [show min (a + 4) f.size - a = 4 from by omega]
  have hX : (f.extract a (a + 4)).data.toList = (f.data.toList.drop a).take 4 := by
    rw [list_extract, show a + 4 - a = 4 from by omega]
  have hstart : Row ((w'.alloc (Obj.cells (bytesRow (f.extract a (a + 4)) (grownCap w' 4 0 5)) 5 ((bytesRow (f.extract a (a + 4)) (grownCap w' 4 0 5)).size, (bytesRow (f.extract a (a + 4)) (grownCap w' 4 0 5)).size + 1))).drew) w'.heap.size ((f.data.toList.drop a).take 4) := by
    rw [← hX]
    have hs : (f.extract a (a + 4)).size = 4 := by rw [← Nor.size_list, hX]; simp; omega
    have hg := grownCap_ge w' 4 0 5
    exact (row_of_string w' 5 _ _ (by omega)).drew
  clear hX
  generalize grownCap w' 4 0 5 = cap at *
  generalize f.extract a (a + 4) = X at *
  obtain ⟨F, HFF⟩ : ∃ F, Hid (F = (f.data.toList.drop a).take 4) := ⟨_, rfl⟩
  rw [← HFF.out] at hstart
  have hFl : F.length = 4 := by rw [HFF.out]; simp; omega
  have HFL : Hid (F.length = 4) := hFl
  clear hFl
  go_loopw [11] (fun i wr => ∃ j : Nat, j ≤ k ∧ i = .int .i64 j ∧ Below w'.heap.size w' wr ∧ w'.heap.size < wr.heap.size ∧ Row wr w'.heap.size (Nor.tornL F v.data.toList 0 j)) (fun i _ => k - (intOf i).toNat)
  case atStart => exact ⟨0, by omega, rfl, ((Below.refl _ _).alloc (Nat.le_refl _) _).drew, by simp, by rw [Nor.tornL_0]; exact hstart⟩
  case round =>
    obtain ⟨j, hj, rfl, hbel, hsz, hrow⟩ := hrel
    clear hstart
    have hlen : (Nor.tornL F v.data.toList 0 j).length = 4 := by rw [Nor.length_tornL, HFL.out]
    by_cases hlt : j < k
    · obtain ⟨q, hq⟩ : ∃ q : Nat, q = j / 8 := ⟨_, rfl⟩
      obtain ⟨r, hr⟩ : ∃ r : Nat, r = j % 8 := ⟨_, rfl⟩
      have hjq : (j : Int) / 8 = (q : Int) := by omega
      have hjr : (j : Int) % 8 = (r : Int) := by omega
      have hq4 : q < 4 := by omega
      have hr8 : r < 8 := by omega
      have hqv : q < v.size := by omega
      have hc := hrow.cell q (by omega)
      have hfr := hrow.free q (by omega)
      generalize hcd : (Nor.tornL F v.data.toList 0 j)[q] = c at hc
      have HC : (Nor.tornL F v.data.toList 0 j).getD q 0 = c := by rw [← List.getElem_eq_getD (h := by omega)]; exact hcd
      clear hcd
      have HL : Hid ((Nor.tornL F v.data.toList 0 j).length = 4) := hlen
      clear hlen
      have HN : Hid (Nor.tornL F v.data.toList 0 (j + 1) = (Nor.tornL F v.data.toList 0 j).set q (Nor.bitStep c (v[q]'hqv) r)) := by
        have e := Nor.tornL_succ F v.data.toList 0 j (by omega) (by rw [HFL.out]; omega)
        rw [Nat.zero_add, ← hq, HC] at e
        have e2 : v.data.toList.getD q 0 = (v[q]'hqv) := by rw [← List.getElem_eq_getD (h := by rw [Nor.size_list]; omega)]; simp; rfl
        rw [e2] at e
        have e3 : Nor.bitStep c (v[q]'hqv) j = Nor.bitStep c (v[q]'hqv) r := by unfold Nor.bitStep; rw [hr, Nat.mod_mod]
        rw [e3] at e
        exact e
      have HG : Hid ((Nor.tornL F v.data.toList 0 j)[q]? = some c) := by
        show _ = _
        rw [List.getElem?_eq_getElem (by rw [HL.out]; omega), ← HC, ← List.getElem_eq_getD (h := by rw [HL.out]; omega)]
      clear HC
      clear hv
      have HQ : Hid (q = j / 8) := hq
      have HR : Hid (r = j % 8) := hr
      clear hq hr
      go_wp2
      · rename_i hbit
        have HB : Hid ((bits .and .u8 (((v[q]'hqv).toNat : Int) / 2 ^ r) 1 == 0) = true) := hbit
        clear hbit
        go_region
        go_wp2
        refine ⟨⟨j + 1, by omega, by go_num, (hbel.setCell (Nat.le_refl _) _).drew, by simpa using hsz, ?_⟩, by simp [intOf]; omega⟩
        rw [HN.out, bit_unset _ _ _ hr8 HB.out]
        exact (hrow.set q _ (by rw [HL.out]; omega)).drew
      · rename_i hbit
        refine ⟨⟨j + 1, by omega, by go_num, hbel, hsz, ?_⟩, by simp [intOf]; omega⟩
        rw [HN.out, bit_set _ _ _ hr8 hbit]
        have e : (Nor.tornL F v.data.toList 0 j).set q c = Nor.tornL F v.data.toList 0 j := by
          apply List.ext_getElem?
          intro i
          by_cases ei : q = i
          · subst ei
            rw [List.getElem?_set_self (by rw [HL.out]; omega), HG.out]
          · rw [List.getElem?_set_ne ei]
        rw [e]
        exact hrow
    · obtain rfl : j = k := by omega
      have hcv := fun nq => (hrow.drewN nq).text (P := Try.prog) 39 9 5 cap 4 hlen.symm Try.underlying39 Try.underlying5 Try.underlying9
      have hM : (ByteArray.mk (Nor.tornL F v.data.toList 0 j).toArray).size = 4 := by rw [size_mk]; exact hlen
      have HT : Hid (Nor.tornL f.data.toList v.data.toList a j = f.data.toList.take a ++ Nor.tornL F v.data.toList 0 j ++ f.data.toList.drop (a + 4)) := by
        rw [HFF.out]
        exact Nor.tornL_cut _ _ _ _ (by rw [Nor.size_list]; omega)
      clear hlen
      generalize Nor.tornL F v.data.toList 0 j = M at *
      go_wp2
      go_quiet (fail)
      go_wp2
      go_ret2
      exact ⟨ret_text (ba_ext (by rw [HT.out, list_append, list_append, list_head, list_tail])) rfl, bel_drewN hbel _⟩

theorem refTorn_any (f : ByteArray) (a : Int) (v : ByteArray) (k : Int) (w : World) :
    Calls Try.prog 50 #[.string f, .int .i64 a, .string v, .int .i64 k] w fun e w' => e = .returned (.tuple #[.string (Nor.tornS f a v k), .int .i64 (Nor.errN (Nor.tornOk f a v k))]) ∧ Below w.heap.size w w' := by
  cases h : Nor.tornOk f a v k with
  | false =>
    rw [Nor.tornS_no h]
    refine (refTorn_no f a v k w h).mono ?_
    rintro e w' ⟨rfl, rfl⟩
    exact ⟨rfl, Below.refl _ _⟩
  | true =>
    rw [Nor.tornS_ok h]
    unfold Nor.tornOk at h
    obtain ⟨h1, h2, h3, h4, h5, h6, h7⟩ := of_decide_eq_true h
    obtain ⟨a, rfl⟩ := Int.eq_ofNat_of_zero_le h2
    obtain ⟨k, rfl⟩ := Int.eq_ofNat_of_zero_le h6
    exact refTorn_yes f a v k w h1 (by omega) (by omega) h5 (by omega)
set_option maxHeartbeats 1000000 in
set_option maxRecDepth 100000 in
theorem refWorn_yes (f : ByteArray) (a : Nat) (k : Nat) (w : World) (hf : f.size = 768) (ha : a < 8) (hk : k ≤ 96) :
    Calls Try.prog 49 #[.string f, .int .i64 (a : Int), .int .i64 (k : Int)] w fun e w' => e = .returned (.tuple #[.string ⟨(Nor.wornL f.data.toList (96 * a) k).toArray⟩, .int .i64 0]) ∧ Below w.heap.size w w' := by
  have h1 : mayB f = true := by unfold mayB; simpa using hf
  have h2 : upToB (a : Int) 0 7 = true := by unfold upToB; simp; omega
  have h3 : upToB (k : Int) 0 96 = true := by unfold upToB; simp; omega
  have hf1 : f.size ≤ 768 := by omega
  have hf2 : 768 ≤ f.size := by omega
  have HT : Hid (Nor.wornL f.data.toList (96 * a) k = f.data.toList.take (96 * a) ++ List.replicate k 255 ++ f.data.toList.drop (96 * a + k)) := Nor.wornL_cut _ _ _ (by rw [Nor.size_list]; omega)
  clear hf
  obtain ⟨p, hp⟩ : ∃ p : Nat, p = 96 * a := ⟨_, rfl⟩
  have hp1 : (a : Int) * 96 = (p : Int) := by omega
  have hp2 : p ≤ 672 := by omega
  rw [← hp]
  rw [← hp] at HT
  clear hp
  obtain ⟨q, hq⟩ : ∃ q : Nat, q = p + k := ⟨_, rfl⟩
  have hq1 : (p : Int) + (k : Int) = (q : Int) := by omega
  have hq2 : q ≤ f.size := by omega
  have hq3 : IntKind.i64.wrap (q : Int) = (q : Int) := by rw [IntKind.wrap_i64]; omega
  rw [← hq] at HT
  clear hq
  obtain ⟨R, HR⟩ : ∃ R, Hid (R = List.replicate k (255 : UInt8)) := ⟨_, rfl⟩
  have hR : (ByteArray.mk R.toArray).size = k := by rw [size_mk, HR.out]; simp
  have hful := fun w => full_any k w (by omega)
  rw [← HR.out] at HT hful
  have Hful := hide hful
  clear hful
  go_enter Try.func49, Try.ntmps49
  go_wp2_with (first | (go_at_call 46; refine (flashMay_any _ _).mono ?_; rintro e w' ⟨rfl, rfl⟩) | (go_at_call 36; refine (upTo_any _ _ _ _).mono ?_; rintro e w' ⟨rfl, rfl⟩))
  go_region_with (go_at_call 32; refine (Hful.out _).mono ?_; rintro e w2 ⟨rfl, hb⟩)
  all_goals go_wp2
  all_goals go_ret2
  all_goals exact ⟨ret_text (ba_ext (by rw [HT.out, list_append, list_append, list_head, list_tail])) rfl, by first | exact hb | exact ((Below.refl _ _).drew.trans hb) | exact ((Below.refl _ _).drew.trans hb).drew⟩

theorem refWorn_any (f : ByteArray) (a : Int) (k : Int) (w : World) :
    Calls Try.prog 49 #[.string f, .int .i64 a, .int .i64 k] w fun e w' => e = .returned (.tuple #[.string (Nor.wornS f a k), .int .i64 (Nor.errN (Nor.wornOk f a k))]) ∧ Below w.heap.size w w' := by
  cases h : Nor.wornOk f a k with
  | false =>
    rw [Nor.wornS_no h]
    refine (refWorn_no f a k w h).mono ?_
    rintro e w' ⟨rfl, rfl⟩
    exact ⟨rfl, Below.refl _ _⟩
  | true =>
    rw [Nor.wornS_ok h]
    unfold Nor.wornOk at h
    obtain ⟨h1, h2, h3, h4, h5⟩ := of_decide_eq_true h
    obtain ⟨a, rfl⟩ := Int.eq_ofNat_of_zero_le h2
    obtain ⟨k, rfl⟩ := Int.eq_ofNat_of_zero_le h4
    exact refWorn_yes f a k w h1 (by omega) (by omega)
end Go.Proofs.Ythpoefaipmcceaa.NorRef
