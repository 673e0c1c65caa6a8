/- The contract of the document's own answer to package download: it gives what the same plain functions give. -/
import Derived.Test.YtmlfkbkpkgaefaaGreatDoorBagDnl
import Derived.Test.YtmlfkbkpkgaefaaGreatDoorBagDoc
import Derived.Test.YtmlfkbkpkgaefaaGreatDoorBagDev
import Derived.Test.YtmlfkbkpkgaefaaGreatDoorChoRef
import Derived.Test.YtmlfkbkpkgaefaaGreatDoorBagOps
import Derived.Test.YtmlfkbkpkgaefaaGreatDoorBagNor
namespace Go.Proofs.YtmlfkbkpkgaefaaGreatDoor.DnlRef
open Go.Proofs.YtmlfkbkpkgaefaaGreatDoor Go.RowKit Go.Proofs.YtmlfkbkpkgaefaaGreatDoor.Bytes Go.Proofs.YtmlfkbkpkgaefaaGreatDoor.Ops Go.Proofs.YtmlfkbkpkgaefaaGreatDoor.OpsRow Go.Proofs.YtmlfkbkpkgaefaaGreatDoor.Jou Go.Proofs.YtmlfkbkpkgaefaaGreatDoor.Act Go.Proofs.YtmlfkbkpkgaefaaGreatDoor.Cho Go.Proofs.YtmlfkbkpkgaefaaGreatDoor.Sta Go.Proofs.YtmlfkbkpkgaefaaGreatDoor.Dev Go.Proofs.YtmlfkbkpkgaefaaGreatDoor.DevRow Go.Proofs.YtmlfkbkpkgaefaaGreatDoor.DevSet Go.Proofs.YtmlfkbkpkgaefaaGreatDoor.Dnl Go.Proofs.YtmlfkbkpkgaefaaGreatDoor.DnlCopy Go.Proofs.YtmlfkbkpkgaefaaGreatDoor.DnlWalk Go.Proofs.YtmlfkbkpkgaefaaGreatDoor.DnlTake
open Go.Proofs.YtmlfkbkpkgaefaaGreatDoor.DevWalk (build_d0)
open Go.Proofs.YtmlfkbkpkgaefaaGreatDoor.OpsWalk (info_op size_alloc1)
open Go.Proofs.YtmlfkbkpkgaefaaGreatDoor.DevHelp (third)
open Go.Proofs.YtmlfkbkpkgaefaaGreatDoor.NorWalk (ret_bool)
attribute [local go_sem ↓] Go.wp_at_zero Go.wp_at_succ
set_option maxRecDepth 100000 in
set_option maxHeartbeats 1000000 in
theorem copyRef_any (d : FDev) (v : Value) (w : World) (hl : (d.ops.length + 2) * 32 ≤ 140737488355328) (hv : IsSt w v d.ops) : Calls Tryz.prog 33 #[.agg #[.int .i64 d.sa, .int .i64 d.su, .int .i64 d.nx, .int .i64 d.gt, .int .i64 d.sl, v]] w fun e w' => (∃ u, e = .returned (.agg #[.int .i64 d.sa, .int .i64 d.su, .int .i64 d.nx, .int .i64 d.gt, .int .i64 d.sl, u]) ∧ w'.ownsRow w.heap.size 86 3 u d.ops.length (flat d.ops)) ∧ Below w.heap.size w w' := by
  obtain ⟨i, hi, hz0, hz1, hz2⟩ := info_parts info_op
  obtain ⟨a, ca, rfl, h0, ha⟩ := hv
  obtain ⟨sa, su, nx, gt, sl, l⟩ := d
  dsimp only at *
  cases a with
  | none =>
    obtain rfl := h0 rfl
    obtain rfl : l = [] := by
      rcases ha with ha | ⟨_, _, ha, _⟩
      · exact ha
      · cases ha
    clear ha h0
    go_enter Tryz.func33, Tryz.ntmps33
    go_wp2
    refine bodyPost_ret (v := .agg #[.int .i64 sa, .int .i64 su, .int .i64 nx, .int .i64 gt, .int .i64 sl, .slice (some ⟨w.heap.size + 1 + 1, 0, none⟩) 0 0]) (by simp [results, Tryz.results33, go_sem]) rfl ⟨⟨_, rfl, ?_⟩, (((Below.refl _ _).alloc (Nat.le_refl _) _).alloc (by simp) _).alloc (by simp; omega) _⟩
    refine ⟨rfl, .inr ⟨_, _, #[], rfl, by omega, ?_, Nat.le_refl _, Nat.zero_le _, rfl, rfl⟩⟩
    exact third _ _ _ _
  | some ad =>
    have hwl : ∀ l : List FOp, (flat l).length = l.length * 3 := length_flat
    have hnews : ∀ (w1 : World), Below w.heap.size w w1 → ∀ j u, (flat l)[j]? = some u → w1.cell? (ad.add j) = some u := by
      intro w1 hb j u hu
      have hj : j < l.length * 3 := by have := (List.getElem?_eq_some_iff.1 hu).1; rw [length_flat] at this; exact this
      rcases ha with ha | ⟨b, o, ha, _, _, hlt, hin⟩
      · rw [ha] at hj; simp at hj
      · obtain rfl := Option.some.inj ha
        have hq : j / 3 < l.length := by omega
        have hr : j = j / 3 * 3 + j % 3 := by omega
        have hf := flat_get l (j / 3) (j % 3) hq (by omega)
        rw [← hr, hu] at hf
        rw [Go.WideShapes.add_plain, hb.cell (p := ⟨b, o + j, none⟩) hlt, hf]
        rcases (by omega : j % 3 = 0 ∨ j % 3 = 1 ∨ j % 3 = 2) with h | h | h
        · rw [h, show o + j = o + j / 3 * 3 from by omega]; exact hin.er _ hq
        · rw [h, show o + j = o + j / 3 * 3 + 1 from by omega]; exact hin.pl _ hq
        · rw [h, show o + j = o + j / 3 * 3 + 2 from by omega]; exact hin.tx _ hq
    have hl1 : 0 + l.length ≤ maxLen := by unfold maxLen; omega
    have hRA := resB (resM w (.int .i64 sa) (.int .i64 su) (.int .i64 nx) (.int .i64 gt) (.int .i64 sl) (.slice (some ad) l.length ca) 24) ((Below.refl _ _).alloc (Nat.le_refl _) (.cells #[.int .i64 0, .int .i64 0, .int .i64 0, .int .i64 0, .int .i64 0, .slice none 0 0] 24))
    have hRZ := resM (w.alloc (.cells #[.int .i64 sa, .int .i64 su, .int .i64 nx, .int .i64 gt, .int .i64 sl, .slice (some ad) l.length ca] 24)) (.int .i64 0) (.int .i64 0) (.int .i64 0) (.int .i64 0) (.int .i64 0) (.slice none 0 0) 24
    have hB := ((Below.refl w.heap.size w).alloc (Nat.le_refl _) (.cells #[.int .i64 sa, .int .i64 su, .int .i64 nx, .int .i64 gt, .int .i64 sl, .slice (some ad) l.length ca] 24)).alloc (by simp) (.cells #[.int .i64 0, .int .i64 0, .int .i64 0, .int .i64 0, .int .i64 0, .slice none 0 0] 24)
    rw [show (w.alloc (.cells #[.int .i64 sa, .int .i64 su, .int .i64 nx, .int .i64 gt, .int .i64 sl, .slice (some ad) l.length ca] 24)).heap.size = w.heap.size + 1 from by simp] at hRZ
    have hs : ((w.alloc (.cells #[.int .i64 sa, .int .i64 su, .int .i64 nx, .int .i64 gt, .int .i64 sl, .slice (some ad) l.length ca] 24)).alloc (.cells #[.int .i64 0, .int .i64 0, .int .i64 0, .int .i64 0, .int .i64 0, .slice none 0 0] 24)).heap.size = w.heap.size + 1 + 1 := by simp
    generalize hW : ((w.alloc (.cells #[.int .i64 sa, .int .i64 su, .int .i64 nx, .int .i64 gt, .int .i64 sl, .slice (some ad) l.length ca] 24)).alloc (.cells #[.int .i64 0, .int .i64 0, .int .i64 0, .int .i64 0, .int .i64 0, .slice none 0 0] 24)) = W at *
    have hown : (W.alloc (.cells #[] 86)).ownsRow (w.heap.size + 1 + 1) 86 3 (.slice (some ⟨w.heap.size + 1 + 1, 0, none⟩) 0 0) 0 [] := ⟨rfl, .inr ⟨_, _, #[], rfl, Nat.le_refl _, by rw [← hs]; exact heap_alloc_new W _, Nat.le_refl _, Nat.zero_le _, rfl, rfl⟩⟩
    have HB := hide hB
    clear hB ha h0
    go_enter Tryz.func33, Tryz.ntmps33
    go_wp2_with (at_builtin; refine wpList_append_own_at _ rfl _ _ _ rfl (w.heap.size + 1 + 1) 86 i _ 3 32 Tryz.underlying22 hi hz0 hz1 hz2 rfl (by omega) _ 0 _ rfl hown ad l.length ca (flat l) rfl (by rw [length_flat]) (hnews _ (HB.out.alloc (by omega) _)) (flat_oneCell l) hl1 (by omega) (by simp; omega) ?_; intro v' w1 hown1 hgrow _ _; rw [Nat.zero_add, List.nil_append] at hown1; obtain ⟨a', c', rfl⟩ := owns_form hown1; have hb1 := ((Below.refl W.heap.size W).alloc (Nat.le_refl _) (.cells #[] 86)).grown hgrow (by simp) (fun k hk => by obtain rfl := Option.some.inj hk; rw [hs]; exact Nat.le_refl _); replace hRA := resB hRA hb1; replace hRZ := resB hRZ hb1)
    have hbw := HB.out.trans (hb1.mono (by omega))
    have hbs := set6 (x0 := .int .i64 sa) (x1 := .int .i64 su) (x2 := .int .i64 nx) (x3 := .int .i64 gt) (x4 := .int .i64 sl) (x5 := .slice a' l.length c') (hbw.setCell (p := ⟨w.heap.size, 5, none⟩) (Nat.le_refl _) (.slice a' l.length c')) (Nat.le_succ w.heap.size)
    refine bodyPost_ret (v := .agg #[.int .i64 sa, .int .i64 su, .int .i64 nx, .int .i64 gt, .int .i64 sl, .slice a' l.length c']) (by simp [results, Tryz.results33, go_sem, hRZ]) rfl ⟨⟨_, rfl, owns_mono (base := w.heap.size + 1 + 1) ?_ (by omega)⟩, hbs⟩
    exact ownsRow_setCell_below (ownsRow_setCell_below (ownsRow_setCell_below (ownsRow_setCell_below (ownsRow_setCell_below (ownsRow_setCell_below (ownsRow_setCell_below hown1 (Nat.lt_succ_of_lt (Nat.lt_succ_self _)) _) (Nat.lt_succ_self _) _) (Nat.lt_succ_self _) _) (Nat.lt_succ_self _) _) (Nat.lt_succ_self _) _) (Nat.lt_succ_self _) _) (Nat.lt_succ_self _) _
set_option maxRecDepth 100000 in
set_option maxHeartbeats 1000000 in
theorem both_any (f : ByteArray) (d : FDev) (v : Value) (w : World) (hv : IsSt w v d.ops) : Calls Tryz.prog 28 #[.string f, .agg #[.int .i64 d.sa, .int .i64 d.su, .int .i64 d.nx, .int .i64 d.gt, .int .i64 d.sl, v]] w fun r w' => r = .returned (.bool (mayF f && devB d)) ∧ Below w.heap.size w w' := by
  have HM := hide (fun w => NorRef.flashMay_any f w)
  have HD : Hid (∀ (w' : World), Below w.heap.size w w' → _) := fun w' hb => DevRef.refDev_any d v w' (hv.below hb)
  have hB := (Below.refl w.heap.size w).alloc (Nat.le_refl _) (.cells #[.int .i64 d.sa, .int .i64 d.su, .int .i64 d.nx, .int .i64 d.gt, .int .i64 d.sl, v] 24)
  obtain ⟨a, ca, rfl, _, _⟩ := hv
  have hmm : NorWalk.mayB f = mayF f := rfl
  rw [hmm] at HM
  clear hmm
  cases h1 : mayF f with
  | false =>
    rw [h1] at HM
    clear h1
    go_enter Tryz.func28, Tryz.ntmps28
    go_wp2_with (go_at_call 62; refine (HM.out _).mono ?_; rintro e w' ⟨rfl, rfl⟩)
    go_ret
    exact ⟨rfl, hB⟩
  | true =>
    rw [h1] at HM
    clear h1
    rw [Bool.true_and]
    generalize devB d = V at *
    go_enter Tryz.func28, Tryz.ntmps28
    go_wp2_with (first | (go_at_call 62; refine (HM.out _).mono ?_; rintro e w' ⟨rfl, rfl⟩) | (go_at_call 17; refine (HD.out _ hB).mono ?_; rintro e w' ⟨rfl, hb⟩; replace hB := thenB hB hb; clear hb))
    go_ret
    exact ⟨rfl, hB⟩
theorem ref_no {f : ByteArray} {d : FDev} {b : Int} {t : ByteArray} (h : okB f d b t = false) : (mayF f && devB d) = false ∨ ((mayF f && devB d) = true ∧ (d.sa != 0) = true ∧ (d.sa != 3) = true) ∨ ((mayF f && devB d) = true ∧ d.sa = 0 ∧ upB b 65535 = false) ∨ ((mayF f && devB d) = true ∧ d.sa = 3 ∧ upB b 65535 = false) ∨ ((mayF f && devB d) = true ∧ d.sa = 0 ∧ upB b 65535 = true ∧ 32 < (t.size : Int)) ∨ ((mayF f && devB d) = true ∧ d.sa = 3 ∧ upB b 65535 = true ∧ 32 < (t.size : Int)) := by
  have hn : ¬ okB f d b t = true := by rw [h]; simp
  rw [okB_parts] at hn
  cases h1 : mayF f with
  | false => exact .inl rfl
  | true =>
    cases h2 : devB d with
    | false => exact .inl rfl
    | true =>
      right
      by_cases h3 : d.sa = 0
      · cases h4 : upB b 65535 with
        | false => exact .inr (.inl ⟨rfl, h3, rfl⟩)
        | true => exact .inr (.inr (.inr (.inl ⟨rfl, h3, rfl, by have := upB_iff.1 h4; exact Int.lt_of_not_ge (fun h5 => hn ⟨h1, h2, .inl h3, this, by omega⟩)⟩)))
      by_cases h3' : d.sa = 3
      · cases h4 : upB b 65535 with
        | false => exact .inr (.inr (.inl ⟨rfl, h3', rfl⟩))
        | true => exact .inr (.inr (.inr (.inr ⟨rfl, h3', rfl, by have := upB_iff.1 h4; exact Int.lt_of_not_ge (fun h5 => hn ⟨h1, h2, .inr h3', this, by omega⟩)⟩)))
      exact .inl ⟨rfl, ne_t h3, ne_t h3'⟩
set_option maxRecDepth 100000 in
set_option maxHeartbeats 4000000 in
theorem refTake_no (f : ByteArray) (d : FDev) (v : Value) (b : Int) (t : ByteArray) (w : World) (hv : IsSt w v d.ops) (hok : okB f d b t = false) : Calls Tryz.prog 32 #[.string f, .agg #[.int .i64 d.sa, .int .i64 d.su, .int .i64 d.nx, .int .i64 d.gt, .int .i64 d.sl, v], .int .i64 b, .string t] w (Gave w newD 1700) := by
  have HD : Hid (∀ (w' : World), Below w.heap.size w w' → _) := fun w' hb => both_any f d v w' (hv.below hb)
  have HU := hide (fun w => DevRef.up16_any b 65535 w)
  obtain ⟨hX, hR, hB, hs⟩ := two_boxes w (.int .i64 d.sa) (.int .i64 d.su) (.int .i64 d.nx) (.int .i64 d.gt) (.int .i64 d.sl) v
  have b1 := build_d0
  unfold newD
  obtain ⟨a, ca, rfl, _, _⟩ := hv
  have HW := hide (ref_no hok)
  clear hok
  generalize (mayF f && devB d) = M at *
  generalize upB b 65535 = U at *
  obtain ⟨sa, su, nx, gt, sl, l⟩ := d
  dsimp only at *
  rcases HW.out with rfl | ⟨rfl, h1, h2⟩ | ⟨rfl, rfl, rfl⟩ | ⟨rfl, rfl, rfl⟩ | ⟨rfl, rfl, rfl, h3⟩ | ⟨rfl, rfl, rfl, h3⟩
  all_goals
    clear HW
    go_enter Tryz.func32, Tryz.ntmps32
    go_wp2_with (first | (go_at_call 28; refine (HD.out _ hB).mono ?_; rintro e w' ⟨rfl, hb⟩; replace hB := thenB hB hb; replace hX := resB hX hb; replace hR := resB hR hb; clear hb) | (go_at_call 43; refine (HU.out _).mono ?_; rintro e w' ⟨rfl, rfl⟩))
    exact bodyPost_ret (v := .tuple #[.agg #[.int .i64 0, .int .i64 0, .int .i64 0, .int .i64 0, .int .i64 0, .slice none 0 0], .int .i64 1700]) (by simp [results, Tryz.results32, go_sem, hR]) rfl ⟨_, rfl, owns_nil _ _ _, set6 hB (Nat.le_succ _)⟩
end Go.Proofs.YtmlfkbkpkgaefaaGreatDoor.DnlRef
