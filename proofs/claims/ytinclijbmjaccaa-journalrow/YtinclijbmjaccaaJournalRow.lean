/- Whatever the two numbers: the law JournalRow returns true (records stand in the row of their places, and the first blank place of sector 0 is told, for every choice of records, spoiled places and blank ones), and the arguments read as they did; no condition. -/
import Derived.Test.YtinclijbmjaccaaRows
import Derived.Test.YtinclijbmjaccaaJouAwake
import Derived.Deep.DeepCutAuto
import Derived.Deep.CutBlock
import Derived.ChangeOld
import Derived.Below
import Derived.WalkKit
import Derived.ProofKit
import Derived.OpenShut
import Derived.ShutString
namespace Go.Proofs.Ytinclijbmjaccaa.journalRow
open Go.ChangeShapes Go.WideShapes Go.ChangeAt Go.RowKit
open Go.ChangeMaps (open_string shut_string)
set_option linter.unusedVariables false

open Go.Proofs.Ytinclijbmjaccaa.Bytes
open Go.Proofs.Ytinclijbmjaccaa.NorWalk
open Go.Proofs.Ytinclijbmjaccaa.NorRef
open Go.Proofs.Ytinclijbmjaccaa.Ent
open Go.Proofs.Ytinclijbmjaccaa.EntRow
open Go.Proofs.Ytinclijbmjaccaa.EntWalk
open Go.Proofs.Ytinclijbmjaccaa.EntRef
open Go.Proofs.Ytinclijbmjaccaa.Jou
open Go.Proofs.Ytinclijbmjaccaa.JouRow
open Go.Proofs.Ytinclijbmjaccaa.JouWalk
open Go.Proofs.Ytinclijbmjaccaa.JouRef
open Go.Proofs.Ytinclijbmjaccaa.Held
open Go.Proofs.Ytinclijbmjaccaa.JouAwake
theorem own : ownKnob Try.prog.godebug = none := by kernel_rfl

theorem slot_old {F s : ByteArray} {n j : Nat} (hF : F.size = 24 * n) (hj : j < n) : slotS (F ++ s) j = slotS F j := slotS_eq fun i h1 h2 => by
  rw [list_append, List.getElem?_append_left (by rw [Nor.size_list]; omega)]
theorem slot_new {F s : ByteArray} {n : Nat} (hF : F.size = 24 * n) (hs : s.size = 24) : slotS (F ++ s) n = s := slotS_is hs fun i hi => by
  rw [list_append, List.getElem?_append_right (by rw [Nor.size_list]; omega), Nor.size_list, hF, show 24 * n + i - 24 * n = i from by omega]
theorem found_old {F s : ByteArray} {n : Nat} (hF : F.size = 24 * n) (m : Nat) (hm : m ≤ n) : foundTo (F ++ s) m = foundTo F m := by
  induction m with
  | zero => rfl
  | succ m ih =>
    have e := slot_old (s := s) (j := m) hF (by omega)
    cases h : getOk (slotS F m) with
    | false => rw [foundTo_no F m h, foundTo_no _ m (by rw [e]; exact h), ih (by omega)]
    | true => rw [foundTo_yes F m h, foundTo_yes _ m (by rw [e]; exact h), ih (by omega), recAt_eq e]
/-- The first blank place among the first n of the first four: none (-1), or where it begins. -/
def First (F : ByteArray) (n : Nat) (x : Int) : Prop := (x = -1 ∧ ∀ j, j < n → j < 4 → ¬ slotS F j = full24) ∨ (∃ j : Nat, x = 24 * (j : Int) ∧ j < 4 ∧ j < n ∧ slotS F j = full24 ∧ ∀ i, i < j → ¬ slotS F i = full24)
theorem first_0 (F : ByteArray) : First F 0 (-1) := .inl ⟨rfl, fun j h => by omega⟩
theorem first_step {F s : ByteArray} {n : Nat} {x : Int} (hF : F.size = 24 * n) (hs : s.size = 24) (h : First F n x) (hx : 0 ≤ x ∨ 4 ≤ n ∨ ¬ s = full24) : First (F ++ s) (n + 1) x := by
  rcases h with ⟨rfl, h⟩ | ⟨j, rfl, h1, h2, h3, h4⟩
  · refine .inl ⟨rfl, fun j h1 h2 => ?_⟩
    by_cases e : j = n
    · subst e
      rw [slot_new hF hs]
      rcases hx with hx | hx | hx
      · omega
      · omega
      · exact hx
    · rw [slot_old hF (by omega)]
      exact h j (by omega) h2
  · refine .inr ⟨j, rfl, h1, by omega, ?_, fun i hi => ?_⟩
    · rw [slot_old hF h2]; exact h3
    · rw [slot_old hF (by omega)]; exact h4 i hi
theorem first_here {F : ByteArray} {n : Nat} {x : Int} (hF : F.size = 24 * n) (h : First F n x) (hx : x < 0) (hn : n < 4) : First (F ++ full24) (n + 1) (24 * (n : Int)) := by
  rcases h with ⟨rfl, h⟩ | ⟨j, rfl, h1, h2, h3, h4⟩
  · refine .inr ⟨n, rfl, hn, by omega, slot_new hF size_full24, fun i hi => ?_⟩
    rw [slot_old hF hi]
    exact h i hi (by omega)
  · omega
def tailS : ByteArray := Nor.blankS.extract 192 Nor.blankS.size
theorem size_tail : tailS.size = 576 := by unfold tailS; rw [ByteArray.size_extract, Nor.size_blankS]; rfl
theorem whole_scan {F : ByteArray} (hF : F.size = 192) : (F ++ tailS).size = 768 ∧ scanL (F ++ tailS) = foundTo F 8 := by
  have h : (F ++ tailS).size = 768 := by rw [ByteArray.size_append, size_tail]; omega
  refine ⟨h, ?_⟩
  rw [scan_ok h]
  exact found_old (n := 8) hF 8 (by omega)
theorem whole_free {F : ByteArray} (hF : F.size = 192) {x : Int} (h : First F 8 x) : freeOk (F ++ tailS) 0 = true ∧ (x = -1 ∧ freeIs (F ++ tailS) 0 = false ∨ 0 ≤ x ∧ freeIs (F ++ tailS) 0 = true ∧ freeAt (F ++ tailS) 0 = x) := by
  obtain ⟨hz, _⟩ := whole_scan hF
  have h0 : freeOk (F ++ tailS) 0 = true := freeOk_parts.2 ⟨hz, by omega, by omega⟩
  have ho : ∀ j, j < 8 → slotS (F ++ tailS) j = slotS F j := fun j hj => slot_old (n := 8) hF hj
  refine ⟨h0, ?_⟩
  rcases h with ⟨rfl, h⟩ | ⟨j, rfl, h1, h2, h3, h4⟩
  · refine .inl ⟨rfl, (free_none (s := 0) h0 fun i g1 g2 => ?_).2⟩
    exact blankP_f (by rw [ho i (by omega)]; exact h i (by omega) (by omega))
  · obtain ⟨g1, g2⟩ := free_at (f := F ++ tailS) (s := 0) (j := j) h0 (fun i g1 g2 => blankP_f (by rw [ho i (by omega)]; exact h4 i g2)) (blankP_t (by rw [ho j (by omega)]; exact h3)) (by omega) (by omega)
    exact .inr ⟨by omega, g2, g1⟩
def recS (n : Nat) : ByteArray := putS (1 + (n : Int)) ((n % 2 : Nat) : Int) (5 + (n : Int)) (100 + (n : Int))
theorem rec_may (n : Nat) (h : n < 8) : recMay (1 + (n : Int)) ((n % 2 : Nat) : Int) (5 + (n : Int)) (100 + (n : Int)) = true := recMay_parts.2 ⟨by omega, by omega, by omega, by omega, by omega, by omega, by omega, by omega⟩
theorem rec_size (n : Nat) (h : n < 8) : (recS n).size = 24 := size_putS (rec_may n h)
def bad1 (n : Nat) : ByteArray := ⟨#[0]⟩ ++ (recS n).extract 1 24
def bad2 (n : Nat) : ByteArray := (bad1 n).extract 0 23 ++ ⟨#[0]⟩
theorem bads (n : Nat) (h : n < 8) : (bad1 n).size = 24 ∧ getOk (bad1 n) = false ∧ ¬ bad1 n = full24 ∧ (bad2 n).size = 24 ∧ getOk (bad2 n) = false ∧ ¬ bad2 n = full24 := by
  have h0 : ∀ n : Fin 8, (bad1 n.val).size = 24 ∧ getOk (bad1 n.val) = false ∧ ¬ bad1 n.val = full24 ∧ (bad2 n.val).size = 24 ∧ getOk (bad2 n.val) = false ∧ ¬ bad2 n.val = full24 := by decide +kernel
  exact h0 ⟨n, h⟩
theorem head_full : Nor.blankS.extract 0 24 = full24 := by
  have h : slotS Nor.blankS 0 = full24 := slot_full fun i hi => blank_get _ (by omega)
  exact h
theorem and_1 (n : Nat) (h : n < 8) : bits .and .i64 (n : Int) 1 = ((n % 2 : Nat) : Int) := by
  have h0 : ∀ n : Fin 8, bits .and .i64 (n.val : Int) 1 = ((n.val % 2 : Nat) : Int) := by decide +kernel
  exact h0 ⟨n, h⟩
theorem found_rec {F : ByteArray} {n : Nat} (hF : F.size = 24 * n) (hn : n < 8) : foundTo (F ++ recS n) (n + 1) = foundTo F n ++ [⟨24 * (n : Int), 1 + (n : Int), ((n % 2 : Nat) : Int), 5 + (n : Int), 100 + (n : Int)⟩] := by
  have e := slot_new (n := n) hF (rec_size n hn)
  obtain ⟨g1, g2⟩ := recAt_put (rec_may n hn) e
  rw [foundTo_yes _ n g1, g2, found_old hF n (Nat.le_refl _)]
theorem found_bad {F s : ByteArray} {n : Nat} (hF : F.size = 24 * n) (hs : s.size = 24) (h : getOk s = false) : foundTo (F ++ s) (n + 1) = foundTo F n := by
  rw [foundTo_no _ n (by rw [slot_new hF hs]; exact h), found_old hF n (Nat.le_refl _)]
theorem rec_full (n : Nat) (h : n < 8) : ¬ recS n = full24 := fun e => by
  have h1 := (get_put (rec_may n h)).1
  have h2 : getOk (recS n) = true := h1
  rw [e, get_full24] at h2
  cases h2
set_option maxHeartbeats 4000000 in
set_option maxRecDepth 100000 in
theorem walk (a0 : Int) (a1 : Int) (w0 : (Lit.int .i64 a0).wf = true) (w1 : (Lit.int .i64 a1).wf = true) (w : World) :
    Calls Try.prog 5 #[.int .i64 a0, .int .i64 a1] w fun e w' => e = .returned (.bool true) ∧ Below w.heap.size w w' := by
  have hB : Below w.heap.size w w := Below.refl _ _
  obtain ⟨i, hi, hy0, hy1, hy2⟩ := info_parts info_pl
  have b1 := build_rec
  have b2 := build_pl
  have C1 := hide (fun w => refBlank_any w)
  have HH := hide head_full
  have HT : Hid (Nor.blankS.extract 192 Nor.blankS.size = tailS) := rfl
  have z1 : Nor.blankS.size ≤ 768 := by rw [Nor.size_blankS]; omega
  have z2 : 768 ≤ Nor.blankS.size := by rw [Nor.size_blankS]; omega
  have zt := size_tail
  have HW := hide (fun (F : ByteArray) (h : F.size = 192) => whole_scan h)
  have HV := hide (fun (F : ByteArray) (h : F.size = 192) (x : Int) (g : First F 8 x) => whole_free h g)
  generalize tailS = TT at *
  generalize Nor.blankS = B0 at *
  have e0 : errE true = 0 := rfl
  go_enter Try.func5, Try.ntmps5
  go_wp2_with (go_at_call 15; refine (awake_any _).mono ?_; rintro e w' ⟨rfl, hb⟩; replace hB := hB.trans (hb.mono hB.size); clear hb)
  go_loopw [5, 6, 7, 8] (fun f s x y wr => ∃ (n : Nat) (F : ByteArray) (X : Int), n ≤ 8 ∧ f = .string F ∧ x = .int .i64 X ∧ y = .int .i64 n ∧ Hid (F.size = 24 * n) ∧ Hid (First F n X) ∧ wr.ownsRow w.heap.size 44 5 s (foundTo F n).length (flatP (foundTo F n)) ∧ Below w.heap.size w wr) (fun _ _ _ y _ => 8 - (intOf y).toNat)
  case atStart => exact ⟨0, ⟨#[]⟩, -1, Nat.zero_le _, rfl, rfl, rfl, rfl, first_0 _, ownsP_nil _ _ _, hB⟩
  case round =>
    obtain ⟨n, F, X, hn, rfl, rfl, rfl, HZ, HF, hown, hbel⟩ := hrel
    by_cases hlt : n < 8
    · obtain ⟨t, S, ht, Ht, HS, CP⟩ : ∃ (t : Nat) (S : ByteArray), bits .and .i64 (n : Int) 1 = (t : Int) ∧ Hid (t = n % 2) ∧ Hid (recS n = S) ∧ Hid (∀ w, Calls Try.prog 16 #[.agg #[.int .i64 (1 + (n : Int)), .int .i64 (t : Int), .int .i64 (5 + (n : Int)), .int .i64 (100 + (n : Int))]] w fun r w' => r = .returned (.tuple #[.string S, .int .i64 0]) ∧ Below w.heap.size w w') := by
        refine ⟨n % 2, recS n, and_1 n hlt, rfl, rfl, fun w => ?_⟩
        have h := refPut_any (1 + (n : Int)) ((n % 2 : Nat) : Int) (5 + (n : Int)) (100 + (n : Int)) w
        rw [rec_may n hlt] at h
        exact h
      have zs := rec_size n hlt
      rw [HS.out] at zs
      have zs1 : S.size ≤ 24 := by omega
      have zs2 : 24 ≤ S.size := by omega
      clear zs
      have zf : F.size ≤ 192 := by have := HZ.out; omega
      have hlen := foundTo_len F n
      have s1 := hbel.size
      have hX := boxM wr (.int .i64 (1 + (n : Int))) (.int .i64 (t : Int)) (.int .i64 (5 + (n : Int))) (.int .i64 (100 + (n : Int))) 38
      have HB2 : Hid (∀ w2, Below (wr.heap.size + 1) (wr.alloc (.cells #[.int .i64 (1 + (n : Int)), .int .i64 (t : Int), .int .i64 (5 + (n : Int)), .int .i64 (100 + (n : Int))] 38)) w2 → Below w.heap.size w w2) := fun w2 h => (hbel.alloc s1 _).trans (h.mono (by omega))
      cases c1 : (bits .and .i64 (a0 / 2 ^ n) 1 == 1) with
      | true =>
        have HR := hide (found_rec (F := F) HZ.out hlt)
        have HN := hide (first_step (s := recS n) HZ.out (rec_size n hlt) HF.out (.inr (.inr (rec_full n hlt))))
        have HZ2 : Hid ((F ++ recS n).size = 24 * (n + 1)) := by show _ = _; rw [ByteArray.size_append, HZ.out, rec_size n hlt]; omega
        rw [HS.out] at HR HN HZ2
        rw [← Ht.out] at HR
        generalize foundTo F n = L at *
        have p1 : L.length + 1 ≤ maxLen := by unfold maxLen; omega
        have p2 : (L.length + 1) * 40 ≤ 140737488355328 := by omega
        go_wp2_with (first | (go_at_call 16; refine (CP.out _).mono ?_; rintro e w2 ⟨rfl, hb⟩; replace hX := boxB hX hb; have s2 := hb.size) | (at_builtin; refine wpList_append_lies _ rfl _ _ _ rfl w.heap.size 44 i _ 5 40 Try.underlying22 hi hy0 hy1 hy2 rfl (by omega) u6 L.length _ rfl ((OpsRow.owns_below (hown.alloc _) hb).alloc _) ⟨w2.heap.size, 0, none⟩ 1 1 _ rfl rfl (World.news_of_block (heap_alloc_new w2 _)) (flatP_oneCell [⟨_, _, _, _, _⟩]) (by omega) p1 p2 (by simp at s2 ⊢; omega) _ rfl ?_; intro g2 cap2 w5 hown1 hgrow hat hlt1))
        refine ⟨⟨n + 1, _, _, by omega, rfl, rfl, by go_num, HZ2, HN, ?_, ?_⟩, by simp [intOf]; omega⟩
        · rw [HR.out, flatP_append, List.length_append]
          exact hown1
        · exact ((HB2.out _ (by simpa using hb)).alloc (by simp at s2; omega) _).grown hgrow (by simp at s2 ⊢; omega) (fun k hk => (hown.lt k hk).1)
      | false =>
        cases c2 : (bits .and .i64 (a1 / 2 ^ n) 1 == 1) with
        | true =>
          obtain ⟨k1, k2, k3, k4, k5, k6⟩ := bads n hlt
          have E1 : Hid (bad1 n = ⟨#[0]⟩ ++ S.extract 1 S.size) := by
            show bad1 n = _
            unfold bad1
            rw [HS.out, show S.size = 24 from by omega]
          have E2 : Hid (bad2 n = (⟨#[0]⟩ ++ S.extract 1 S.size).extract 0 23 ++ ⟨#[0]⟩) := by show bad2 n = _; unfold bad2; rw [E1.out]
          have zz : (ByteArray.mk #[0]).size = 1 := rfl
          have ze : (⟨#[0]⟩ ++ S.extract 1 S.size).size = 24 := by rw [← E1.out]; exact k1
          have ze1 : (⟨#[0]⟩ ++ S.extract 1 S.size).size ≤ 24 := by omega
          have ze2 : 24 ≤ (⟨#[0]⟩ ++ S.extract 1 S.size).size := by omega
          have ht2 : t ≤ 1 := by have := Ht.out; omega
          clear ze zz
          obtain rfl | rfl : t = 0 ∨ t = 1 := by omega
          · have HR := hide (found_bad (F := F) HZ.out k4 k5)
            have HN := hide (first_step (s := bad2 n) HZ.out k4 HF.out (.inr (.inr k6)))
            have HZ2 : Hid ((F ++ bad2 n).size = 24 * (n + 1)) := by show _ = _; rw [ByteArray.size_append, HZ.out, k4]; omega
            rw [E2.out] at HR HN HZ2
            clear k1 k2 k3 k4 k5 k6 E1 E2
            go_wp2_with (go_at_call 16; refine (CP.out _).mono ?_; rintro e w2 ⟨rfl, hb⟩; replace hX := boxB hX hb; have s2 := hb.size)
            refine ⟨⟨n + 1, _, _, by omega, rfl, rfl, by go_num, HZ2, HN, ?_, HB2.out _ (by simpa using hb)⟩, by simp [intOf]; omega⟩
            rw [HR.out]
            exact OpsRow.owns_below (hown.alloc _) hb
          · have HR := hide (found_bad (F := F) HZ.out k1 k2)
            have HN := hide (first_step (s := bad1 n) HZ.out k1 HF.out (.inr (.inr k3)))
            have HZ2 : Hid ((F ++ bad1 n).size = 24 * (n + 1)) := by show _ = _; rw [ByteArray.size_append, HZ.out, k1]; omega
            rw [E1.out] at HR HN HZ2
            clear k1 k2 k3 k4 k5 k6 E1 E2
            go_wp2_with (go_at_call 16; refine (CP.out _).mono ?_; rintro e w2 ⟨rfl, hb⟩; replace hX := boxB hX hb; have s2 := hb.size)
            refine ⟨⟨n + 1, _, _, by omega, rfl, rfl, by go_num, HZ2, HN, ?_, HB2.out _ (by simpa using hb)⟩, by simp [intOf]; omega⟩
            rw [HR.out]
            exact OpsRow.owns_below (hown.alloc _) hb
        | false =>
          have HR := hide (found_bad (F := F) HZ.out size_full24 get_full24)
          have HZ2 : Hid ((F ++ full24).size = 24 * (n + 1)) := by show _ = _; rw [ByteArray.size_append, HZ.out, size_full24]; omega
          rw [← HH.out] at HR HZ2
          by_cases hx : X < 0
          · by_cases h4 : n < 4
            · have HN := hide (first_here HZ.out HF.out hx h4)
              rw [← HH.out] at HN
              go_wp2_with (first | (go_at_call 16; refine (CP.out _).mono ?_; rintro e w2 ⟨rfl, hb⟩; replace hX := boxB hX hb; have s2 := hb.size) | (go_at_call 17; refine (C1.out _).mono ?_; rintro e w3 ⟨rfl, hb3⟩))
              refine ⟨⟨n + 1, _, _, by omega, rfl, rfl, by go_num, HZ2, HN, ?_, thenB (HB2.out _ (by simpa using hb)) hb3⟩, by simp [intOf]; omega⟩
              rw [HR.out]
              exact OpsRow.owns_below (OpsRow.owns_below (hown.alloc _) hb) hb3
            · have HN := hide (first_step (s := full24) HZ.out size_full24 HF.out (.inr (.inl (by omega))))
              rw [← HH.out] at HN
              go_wp2_with (first | (go_at_call 16; refine (CP.out _).mono ?_; rintro e w2 ⟨rfl, hb⟩; replace hX := boxB hX hb; have s2 := hb.size) | (go_at_call 17; refine (C1.out _).mono ?_; rintro e w3 ⟨rfl, hb3⟩))
              refine ⟨⟨n + 1, _, _, by omega, rfl, rfl, by go_num, HZ2, HN, ?_, thenB (HB2.out _ (by simpa using hb)) hb3⟩, by simp [intOf]; omega⟩
              rw [HR.out]
              exact OpsRow.owns_below (OpsRow.owns_below (hown.alloc _) hb) hb3
          · have HN := hide (first_step (s := full24) HZ.out size_full24 HF.out (.inl (by omega)))
            rw [← HH.out] at HN
            go_wp2_with (first | (go_at_call 16; refine (CP.out _).mono ?_; rintro e w2 ⟨rfl, hb⟩; replace hX := boxB hX hb; have s2 := hb.size) | (go_at_call 17; refine (C1.out _).mono ?_; rintro e w3 ⟨rfl, hb3⟩))
            refine ⟨⟨n + 1, _, _, by omega, rfl, rfl, by go_num, HZ2, HN, ?_, thenB (HB2.out _ (by simpa using hb)) hb3⟩, by simp [intOf]; omega⟩
            rw [HR.out]
            exact OpsRow.owns_below (OpsRow.owns_below (hown.alloc _) hb) hb3
    · obtain rfl : n = 8 := by omega
      have hz : F.size = 192 := HZ.out
      have zf : F.size ≤ 192 := by omega
      obtain ⟨g1, g2⟩ := HW.out F hz
      obtain ⟨g3, g4⟩ := HV.out F hz X HF.out
      have CS := hide (fun w => scan_any (F ++ TT) w)
      have CF := hide (fun w => free_any (F ++ TT) 0 w)
      rw [mayF_t g1, g2] at CS
      rw [g3] at CF
      have hlen := foundTo_len F 8
      have HL : Hid ((foundTo F 8).length ≤ 65536) := by show _ ≤ _; omega
      have j0 : errJ true = 0 := rfl
      rw [← HT.out] at CS CF g4
      have G4 := hide g4
      clear g1 g2 g3 g4 hz HZ HF HW HV hlen zt
      generalize foundTo F 8 = L at *
      generalize hA : freeAt (F ++ B0.extract 192 B0.size) 0 = A at *
      generalize hI : freeIs (F ++ B0.extract 192 B0.size) 0 = I at *
      clear hA hI
      go_wp2_with (go_at_call 17; refine (C1.out _).mono ?_; rintro e w3 ⟨rfl, hb3⟩; replace hown := OpsRow.owns_below hown hb3; replace hbel := thenB hbel hb3)
      refine (CS.out _).mono ?_
      rintro e w4 ⟨v, rfl, ho2, hb⟩
      replace hown := OpsRow.owns_below hown hb
      replace hbel := thenB hbel hb
      clear hb hb3
      go_wp2_with fail
      refine (CF.out _).mono ?_
      rintro e w5 ⟨rfl, rfl⟩
      go_wp2_with (go_at_call 13; refine (numJ_any _ _).mono ?_; rintro e w' ⟨rfl, rfl⟩)
      refine (samePl_yes _ _ L _ HL.out (ownsP_is ho2) (ownsP_is hown)).mono ?_
      rintro e w6 ⟨rfl, hb⟩
      replace hbel := thenB hbel hb
      clear hb ho2 hown
      rcases G4.out with ⟨rfl, rfl⟩ | ⟨hx, rfl, rfl⟩
      · go_wp2_with (go_at_call 13; refine (numJ_any _ _).mono ?_; rintro e w' ⟨rfl, rfl⟩)
        go_ret
        exact ⟨rfl, hbel⟩
      · go_wp2_with (go_at_call 13; refine (numJ_any _ _).mono ?_; rintro e w' ⟨rfl, rfl⟩)
        go_ret
        exact ⟨rfl, hbel⟩

set_option maxRecDepth 100000 in
theorem lifted (os : Os) (started : os.Started) (H : Type) (enc : TypeId × Value → H) :
    ReturnsInHanded {} Try.checked os 5 .any (Rows.journalRowSpec.pre6 enc Try.prog Try.f5 Rows.journalRowRow.domain false) (Rows.journalRowSpec.post enc Try.prog Try.f5 false true false false) := by
  refine returnsInHanded_of_change (C := Try.checked) own started (by kernel_rfl) Try.func5
    (ChangeSpec.witness6 (enc := enc) (C := Try.checked) false ⟨#[], #[.int .i64 0, .int .i64 0], []⟩ 8 (by kernel_rfl) (by kernel_rfl) (by kernel_rfl) (by kernel_rfl)) ?_
  intro W base args ds gs before hval0 hW hcnd _
  have hval : ∀ (j : Nat) t v, Try.f5.params[j]? = some t → args[j]? = some v → Value.okWide Try.prog W .any base t v := hval0
  have hW' := hW
  obtain ⟨p, q, hA0, hV, rfl, hfz, hnd⟩ := hW
  have hA : DataW.TrodAll enc Try.prog W 0 (fun _ => true) true Try.f5.params.toList args.toList ds p := hA0
  rw [Try.params5] at hA hval
  obtain ⟨v0, vs0, d0, ds0, p0, q0, hargs, rfl, rfl, h0, r0⟩ := trodAll_cons hA
  obtain ⟨v1, vs1, d1, ds1, p1, q1, rfl, rfl, rfl, h1, r1⟩ := trodAll_cons r0
  obtain ⟨rfl, rfl, rfl⟩ := trodAll_nil r1
  obtain rfl : args = #[v0, v1] := by cases args; simp_all
  obtain ⟨rfl, rfl⟩ := trodVars_none hV
  obtain ⟨a0, rfl, rfl, rfl, w0⟩ := open_int Try.underlying3 (hval 0 3 v0 rfl rfl) h0
  obtain ⟨a1, rfl, rfl, rfl, w1⟩ := open_int Try.underlying3 (hval 1 3 v1 rfl rfl) h1
  clear hA0 hval0
  refine (walk a0 a1 w0 w1 W).mono fun e W' ⟨he, bel⟩ => ?_
  subst he
  exact ⟨_, rfl, _, _, _, [], _, [], hW', (trodAll_cons_mk (shut_bool Try.underlying4 _) trodAll_mk0), (trodAll_cons_mk (shut_int Try.underlying3 w0) (trodAll_cons_mk (shut_int Try.underlying3 w1) trodAll_mk0)), rfl, bel.frame _, fun h => by cases h⟩

theorem over : Rows.journalRowRow.holds Try.pinned (OpenSpec.ofChange Rows.journalRowSpec) :=
  OpenClaim.holds_of_wide 5 Try.f5 rfl rfl rfl rfl rfl rfl rfl ⟨rfl, rfl, rfl, rfl, rfl⟩ rfl rfl rfl rfl rfl (by kernel_rfl) Try.func5 (by kernel_rfl)
    (of_decide_eq_true (by kernel_rfl)) (by unfold Func.isWrapper; first | (rw [if_pos (by decide +kernel)]; kernel_rfl) | (rw [if_neg (by decide +kernel)]; exact ⟨rfl, rfl⟩))
    (fun os started H enc _ => lifted os started H enc)

theorem proved : Rows.JournalRowSaid :=
  over
#print axioms proved
end Go.Proofs.Ytinclijbmjaccaa.journalRow
