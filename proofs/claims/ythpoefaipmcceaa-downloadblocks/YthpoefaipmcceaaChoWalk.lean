/- The contracts of package choose: each call returns what the plain functions give, whatever its arguments; of what was there nothing has turned. -/
import Derived.Test.YthpoefaipmcceaaChoMath
import Derived.Test.YthpoefaipmcceaaImgWalk
import Derived.Test.YthpoefaipmcceaaJouWalk
import Derived.Deep.Cut
namespace Go.Proofs.Ythpoefaipmcceaa.ChoWalk
open Go.Proofs.Ythpoefaipmcceaa Go.RowKit Go.Proofs.Ythpoefaipmcceaa.Bytes Go.Proofs.Ythpoefaipmcceaa.NorWalk Go.Proofs.Ythpoefaipmcceaa.Ent Go.Proofs.Ythpoefaipmcceaa.EntRow Go.Proofs.Ythpoefaipmcceaa.EntWalk Go.Proofs.Ythpoefaipmcceaa.Jou Go.Proofs.Ythpoefaipmcceaa.JouRow Go.Proofs.Ythpoefaipmcceaa.JouWalk Go.Proofs.Ythpoefaipmcceaa.Ops Go.Proofs.Ythpoefaipmcceaa.Act Go.Proofs.Ythpoefaipmcceaa.ImgWalk Go.Proofs.Ythpoefaipmcceaa.Cho

theorem build_p0 (w : World) : (Instr.build 68 #[]).run Try.prog w = .ok (.agg #[.int .i64 0, .int .i64 0, .int .i64 0, .int .i64 0, .int .i64 0]) w := run_build w 68 _ _ (by kernel_rfl)
theorem ret_place {a b c d e x a' b' c' d' e' x' : Int} (h : a = a' ∧ b = b' ∧ c = c' ∧ d = d' ∧ e = e' ∧ x = x') : Ending.returned (.tuple #[.agg #[.int .i64 a, .int .i64 b, .int .i64 c, .int .i64 d, .int .i64 e], .int .i64 x]) = .returned (.tuple #[.agg #[.int .i64 a', .int .i64 b', .int .i64 c', .int .i64 d', .int .i64 e'], .int .i64 x']) := by
  obtain ⟨rfl, rfl, rfl, rfl, rfl, rfl⟩ := h
  rfl
theorem good_f {f : ByteArray} {q t z m : Int} (h : imgOk f q t z m = false) : goodB f q t z m = false := by unfold goodB; rw [h]; rfl
theorem set5b {w W : World} {a b c d e : Value} (h : Below w.heap.size w W) : Below w.heap.size w (((((W.setCell ⟨w.heap.size, 0, none⟩ a).setCell ⟨w.heap.size, 1, none⟩ b).setCell ⟨w.heap.size, 2, none⟩ c).setCell ⟨w.heap.size, 3, none⟩ d).setCell ⟨w.heap.size, 4, none⟩ e) :=
  ((((h.setCell (p := ⟨w.heap.size, 0, none⟩) (Nat.le_refl _) _).setCell (p := ⟨w.heap.size, 1, none⟩) (Nat.le_refl _) _).setCell (p := ⟨w.heap.size, 2, none⟩) (Nat.le_refl _) _).setCell (p := ⟨w.heap.size, 3, none⟩) (Nat.le_refl _) _).setCell (p := ⟨w.heap.size, 4, none⟩) (Nat.le_refl _) _
theorem ne_off {B i j : Nat} (h : i ≠ j) : (⟨B, i, none⟩ : Addr) ≠ ⟨B, j, none⟩ := fun e => by injection e; exact h (by omega)
theorem box5_set {W : World} {B : Nat} {a b c d e a' b' c' d' e' : Value} (h : Box5 W B a b c d e) : Box5 (((((W.setCell ⟨B, 0, none⟩ a').setCell ⟨B, 1, none⟩ b').setCell ⟨B, 2, none⟩ c').setCell ⟨B, 3, none⟩ d').setCell ⟨B, 4, none⟩ e') B a' b' c' d' e' := by
  obtain ⟨h0, h1, h2, h3, h4, h5, h6⟩ := h
  have o : ∀ (W : World) (i j : Nat) (v : Value), i ≠ j → (W.setCell ⟨B, i, none⟩ v).cell? ⟨B, j, none⟩ = W.cell? ⟨B, j, none⟩ := fun W i j v hij => World.cell?_setCell_other W _ _ _ (ne_off hij)
  refine ⟨by simp [World.setCell]; omega, ?_, ?_, ?_, ?_, ?_, fun i => by simp only [World.frozen?_setCell]; exact h6 i⟩
  · rw [o _ 4 0 _ (by omega), o _ 3 0 _ (by omega), o _ 2 0 _ (by omega), o _ 1 0 _ (by omega), World.cell?_setCell_same W _ _ h1]
  · rw [o _ 4 1 _ (by omega), o _ 3 1 _ (by omega), o _ 2 1 _ (by omega), World.cell?_setCell_same _ ⟨B, 1, none⟩ _ (by rw [o _ 0 1 _ (by omega)]; exact h2)]
  · rw [o _ 4 2 _ (by omega), o _ 3 2 _ (by omega), World.cell?_setCell_same _ ⟨B, 2, none⟩ _ (by rw [o _ 1 2 _ (by omega), o _ 0 2 _ (by omega)]; exact h3)]
  · rw [o _ 4 3 _ (by omega), World.cell?_setCell_same _ ⟨B, 3, none⟩ _ (by rw [o _ 2 3 _ (by omega), o _ 1 3 _ (by omega), o _ 0 3 _ (by omega)]; exact h4)]
  · rw [World.cell?_setCell_same _ ⟨B, 4, none⟩ _ (by rw [o _ 3 4 _ (by omega), o _ 2 4 _ (by omega), o _ 1 4 _ (by omega), o _ 0 4 _ (by omega)]; exact h5)]
set_option maxRecDepth 100000 in
set_option maxHeartbeats 400000 in
theorem cgood_any (f : ByteArray) (q t z m : Int) (w : World) : Calls Try.prog 73 #[.string f, .agg #[.int .i64 q, .int .i64 t, .int .i64 z, .int .i64 m]] w fun e w' => e = .returned (.bool (goodB f q t z m)) ∧ Below w.heap.size w w' := by
  have hB := (Below.refl w.heap.size w).alloc (Nat.le_refl _) (.cells #[.int .i64 q, .int .i64 t, .int .i64 z, .int .i64 m] 66)
  have hX := boxM w (.int .i64 q) (.int .i64 t) (.int .i64 z) (.int .i64 m) 66
  have HG := hide (fun w => good_any f q t z m w)
  have e0 : errI true = 0 := rfl
  have e1 : errI false = 600 := rfl
  cases h : imgOk f q t z m with
  | false =>
    rw [h, good_f h] at HG
    rw [good_f h]
    clear h
    go_enter Try.func73, Try.ntmps73
    go_wp2_with (go_at_call 81; refine (HG.out _).mono ?_; rintro e w' ⟨rfl, hb⟩; replace hB := hB.trans (hb.mono hB.size); replace hX := boxB hX hb; clear hb)
    go_ret
    exact ⟨rfl, hB⟩
  | true =>
    rw [h] at HG
    clear h
    generalize goodB f q t z m = G at *
    go_enter Try.func73, Try.ntmps73
    go_wp2_with (go_at_call 81; refine (HG.out _).mono ?_; rintro e w' ⟨rfl, hb⟩; replace hB := hB.trans (hb.mono hB.size); replace hX := boxB hX hb; clear hb)
    go_ret
    exact ⟨rfl, hB⟩
set_option maxRecDepth 100000 in
set_option maxHeartbeats 400000 in
theorem active_no (f : ByteArray) (w : World) (h : mayF f = false) : Calls Try.prog 60 #[.string f] w fun e w' => e = .returned (.tuple #[.agg #[.int .i64 0, .int .i64 0, .int .i64 0, .int .i64 0, .int .i64 0], .int .i64 700]) ∧ Below w.heap.size w w' := by
  have hm : mayB f = false := h
  have b1 := build_p0
  clear h
  go_enter Try.func60, Try.ntmps60
  go_wp2_with (first | (go_at_call 20; refine (may_any _ _).mono ?_; rintro e w' ⟨rfl, rfl⟩))
  exact bodyPost_ret (v := .tuple #[.agg #[.int .i64 0, .int .i64 0, .int .i64 0, .int .i64 0, .int .i64 0], .int .i64 700]) (by simp [results, Try.results60, go_sem]) rfl ⟨rfl, (Below.refl _ _).alloc (Nat.le_refl _) _⟩
set_option maxRecDepth 100000 in
set_option maxHeartbeats 2000000 in
theorem active_yes (f : ByteArray) (w : World) (h : mayF f = true) : Calls Try.prog 60 #[.string f] w fun e w' => e = .returned (.tuple #[.agg #[.int .i64 (actV f).pa, .int .i64 (actV f).pq, .int .i64 (actV f).pt, .int .i64 (actV f).pz, .int .i64 (actV f).pm], .int .i64 (errA f)]) ∧ Below w.heap.size w w' := by
  have hm : mayB f = true := h
  have HS := hide (fun w => scan_any f w)
  rw [h] at HS
  have e0 : errJ true = 0 := rfl
  have b1 := build_p0
  have hlen := scan_len f
  have HE := hide (fun c hc => cur_end h c hc)
  have HQ := hide (scan_seq f)
  have HG := hide (fun (p : FPl) (w : World) => cgood_any f p.pq p.pt p.pz p.pm w)
  clear h
  generalize scanL f = l at *
  have hB := (Below.refl w.heap.size w).alloc (Nat.le_refl _) (.cells #[.int .i64 0, .int .i64 0, .int .i64 0, .int .i64 0, .int .i64 0] 68)
  have HR := hide (box5M w (.int .i64 0) (.int .i64 0) (.int .i64 0) (.int .i64 0) (.int .i64 0) 68)
  go_enter Try.func60, Try.ntmps60
  go_wp2_with (first | (go_at_call 20; refine (may_any _ _).mono ?_; rintro e w' ⟨rfl, rfl⟩))
  refine (HS.out _).mono ?_
  rintro e w1 ⟨v, rfl, hown, hb⟩
  replace hB := thenB hB hb
  replace HR := hide (box5B HR.out hb)
  clear hb
  obtain ⟨a, cap, rfl, hin⟩ := ownsP_is hown
  clear hown HS
  have hC := box5M w1 (.int .i64 0) (.int .i64 0) (.int .i64 0) (.int .i64 0) (.int .i64 0) 68
  have hA := (Below.refl w1.heap.size w1).alloc (Nat.le_refl _) (.cells #[.int .i64 0, .int .i64 0, .int .i64 0, .int .i64 0, .int .i64 0] 68)
  go_wp2
  generalize w1.alloc (.cells #[.int .i64 0, .int .i64 0, .int .i64 0, .int .i64 0, .int .i64 0] 68) = W1 at *
  go_loopw [20] (fun y wr => ∃ (c : FPl) (n : Nat), n ≤ l.length ∧ y = .int .i64 n ∧ Hid (c = curTo f l n) ∧ Box5 wr w1.heap.size (.int .i64 c.pa) (.int .i64 c.pq) (.int .i64 c.pt) (.int .i64 c.pz) (.int .i64 c.pm) ∧ Below w1.heap.size w1 wr) (fun y _ => l.length - (intOf y).toNat)
  case atStart => exact ⟨zeroP, 0, Nat.zero_le _, rfl, rfl, hC, hA⟩
  case round =>
    obtain ⟨c, n, hn, rfl, HX, hcur, hbel⟩ := hrel
    clear hC hA
    by_cases hlt : n < l.length
    · rcases hin with hin | ⟨g, rfl, hg, hin⟩
      · rw [hin] at hlt; simp at hlt
      have hin1 := hin.below hbel hg
      have c0 := hin1.pa n hlt
      have c1 := hin1.pq n hlt
      have c2 := hin1.pt n hlt
      have c3 := hin1.pz n hlt
      have c4 := hin1.pm n hlt
      have HG1 := hide (HG.out l[n])
      clear hin hin1
      go_upto_region 8 with fail
      have hN := box5M wr (.int .i64 l[n].pa) (.int .i64 l[n].pq) (.int .i64 l[n].pt) (.int .i64 l[n].pz) (.int .i64 l[n].pm) 68
      have hal := (Below.refl wr.heap.size wr).alloc (Nat.le_refl _) (.cells #[.int .i64 l[n].pa, .int .i64 l[n].pq, .int .i64 l[n].pt, .int .i64 l[n].pz, .int .i64 l[n].pm] 68)
      replace hcur := box5B hcur hal
      replace hbel := thenB hbel hal
      clear hal c0 c1 c2 c3 c4
      generalize wr.alloc (.cells #[.int .i64 l[n].pa, .int .i64 l[n].pq, .int .i64 l[n].pt, .int .i64 l[n].pz, .int .i64 l[n].pm] 68) = W2 at *
      generalize wr.heap.size = B2 at *
      have hN' := hN
      have hc' := hcur
      unfold Box5 at hN' hc'
      by_cases hq : c.pq ≤ l[n].pq
      · cases hgd : goodP f l[n] with
        | false =>
          have HX2 : Hid (c = curTo f l (n + 1)) := HX.out.trans (cur_bad hlt hgd).symm
          rw [show goodB f l[n].pq l[n].pt l[n].pz l[n].pm = false from hgd] at HG1
          clear hgd HX
          have HC := hide hcur
          clear hcur
          generalize l[n].pa = A at *
          generalize l[n].pq = Q at *
          generalize l[n].pt = T at *
          generalize l[n].pz = Z at *
          generalize l[n].pm = M at *
          go_wp2_with (go_at_call 73; refine (HG1.out _).mono ?_; rintro e w2 ⟨rfl, hb2⟩)
          exact ⟨⟨c, n + 1, by omega, by go_num, HX2, box5B HC.out hb2, thenB hbel hb2⟩, by simp [intOf]; omega⟩
        | true =>
          have HX2 : Hid (l[n] = curTo f l (n + 1)) := (cur_take hlt hgd (by rw [← HX.out]; exact hq)).symm
          rw [show goodB f l[n].pq l[n].pt l[n].pz l[n].pm = true from hgd] at HG1
          clear hgd HX
          have HC := hide hcur
          have HN := hide hN
          clear hcur hN
          go_upto_region 9 with (go_at_call 73; refine (HG1.out _).mono ?_; rintro e w2 ⟨rfl, hb2⟩)
          clear hN' hc'
          have hN' := box5B HN.out hb2
          have hcur := box5B HC.out hb2
          have hc' := hcur
          unfold Box5 at hN' hc'
          have HC2 := hide hcur
          clear hcur
          go_wp2
          exact ⟨⟨l[n], n + 1, by omega, by go_num, HX2, box5_set HC2.out, set5b (thenB hbel hb2)⟩, by simp [intOf]; omega⟩
      · have HX2 : Hid (c = curTo f l (n + 1)) := HX.out.trans (cur_less HQ.out hlt (by rw [← HX.out]; exact hq)).symm
        clear HX
        have HC := hide hcur
        clear hcur
        go_wp2_with fail
        exact ⟨⟨c, n + 1, by omega, by go_num, HX2, HC.out, hbel⟩, by simp [intOf]; omega⟩
    · obtain rfl : n = l.length := by omega
      have hBe := thenB hB hbel
      have hRe := box5B HR.out hbel
      have hc' := hcur
      unfold Box5 at hRe hc'
      rcases HE.out c HX.out with ⟨g1, hV, hE⟩ | ⟨g1, hV, hE⟩
      · have HV := hide hV
        have HE2 := hide hE
        clear hV hE hin HE HG hcur
        go_wp2
        exact bodyPost_ret (v := .tuple #[.agg #[.int .i64 0, .int .i64 0, .int .i64 0, .int .i64 0, .int .i64 0], .int .i64 701]) (by simp [results, Try.results60, go_sem, hRe]) rfl ⟨ret_place (by rw [HV.out, HE2.out]; exact ⟨rfl, rfl, rfl, rfl, rfl, rfl⟩), set5b hBe⟩
      · have HV := hide hV
        have HE2 := hide hE
        clear hV hE hin HE HG hcur
        go_wp2
        exact bodyPost_ret (v := .tuple #[.agg #[.int .i64 c.pa, .int .i64 c.pq, .int .i64 c.pt, .int .i64 c.pz, .int .i64 c.pm], .int .i64 0]) (by simp [results, Try.results60, go_sem, hRe]) rfl ⟨ret_place (by rw [HV.out, HE2.out]; exact ⟨rfl, rfl, rfl, rfl, rfl, rfl⟩), set5b hBe⟩
theorem active_any (f : ByteArray) (w : World) : Calls Try.prog 60 #[.string f] w fun e w' => e = .returned (.tuple #[.agg #[.int .i64 (actV f).pa, .int .i64 (actV f).pq, .int .i64 (actV f).pt, .int .i64 (actV f).pz, .int .i64 (actV f).pm], .int .i64 (errA f)]) ∧ Below w.heap.size w w' := by
  cases h : mayF f with
  | false =>
    obtain ⟨_, h1, h2⟩ := act_no h
    rw [h1, h2]
    exact active_no f w h
  | true => exact active_yes f w h
set_option maxRecDepth 100000 in
set_option maxHeartbeats 400000 in
theorem other_any (f : ByteArray) (w : World) : Calls Try.prog 41 #[.string f] w fun e w' => e = .returned (.tuple #[.int .i64 (othI f), .int .i64 (errOt f)]) ∧ Below w.heap.size w w' := by
  have HA := hide (fun w => active_any f w)
  rcases three f with ⟨_, _, _, h1, h2, h3⟩ | ⟨_, _, _, h1, h2, h3⟩ | ⟨_, h0, h1, h2, h3⟩
  · rw [h1] at HA
    rw [h2, h3]
    clear h1 h2 h3
    generalize actV f = p at *
    go_enter Try.func41, Try.ntmps41
    go_wp2_with (go_at_call 60; refine (HA.out _).mono ?_; rintro e w' ⟨rfl, hb⟩)
    go_ret2
    exact ⟨rfl, hb.alloc hb.size _⟩
  · rw [h1] at HA
    rw [h2, h3]
    clear h1 h2 h3
    generalize actV f = p at *
    go_enter Try.func41, Try.ntmps41
    go_wp2_with (go_at_call 60; refine (HA.out _).mono ?_; rintro e w' ⟨rfl, hb⟩)
    go_ret2
    exact ⟨rfl, hb.alloc hb.size _⟩
  · have hs := act_slot h0
    rw [h1] at HA
    rw [h2, h3]
    clear h0 h1 h2 h3
    generalize actV f = p at *
    have g0 : 0 ≤ p.pt := by omega
    have g1 : p.pt ≤ 1 := by omega
    clear hs
    generalize p.pt = T at *
    go_enter Try.func41, Try.ntmps41
    go_wp2_with (go_at_call 60; refine (HA.out _).mono ?_; rintro e w' ⟨rfl, hb⟩)
    go_ret2
    exact ⟨rfl, hb.alloc hb.size _⟩
end Go.Proofs.Ythpoefaipmcceaa.ChoWalk
