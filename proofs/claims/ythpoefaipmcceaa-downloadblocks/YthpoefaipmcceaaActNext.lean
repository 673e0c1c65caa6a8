/- The contracts of the document's own next number and of the active one. -/
import Derived.Test.YthpoefaipmcceaaActRef
namespace Go.Proofs.Ythpoefaipmcceaa.ActNext
open Go.Proofs.Ythpoefaipmcceaa Go.RowKit Go.Proofs.Ythpoefaipmcceaa.Bytes Go.Proofs.Ythpoefaipmcceaa.NorWalk Go.Proofs.Ythpoefaipmcceaa.NorRef Go.Proofs.Ythpoefaipmcceaa.Ent Go.Proofs.Ythpoefaipmcceaa.EntRow Go.Proofs.Ythpoefaipmcceaa.EntWalk Go.Proofs.Ythpoefaipmcceaa.EntRef Go.Proofs.Ythpoefaipmcceaa.Jou Go.Proofs.Ythpoefaipmcceaa.JouRow Go.Proofs.Ythpoefaipmcceaa.JouWalk Go.Proofs.Ythpoefaipmcceaa.JouRef Go.Proofs.Ythpoefaipmcceaa.Ops Go.Proofs.Ythpoefaipmcceaa.Act Go.Proofs.Ythpoefaipmcceaa.ActRef

theorem run_maxI {P : Program} (a b k : Int) (h : k = max a b) (ts : Array TypeId) (t : TypeId) (w : World) : (Builtin.max_ ts t #[.int .i64 a, .int .i64 b]).run P w = .ok (.int .i64 k) w := by
  simp [Builtin.max_, Builtin.max2]
  subst h
  repeat split
  all_goals omega
theorem build_pl0 (w : World) : (Instr.build 68 #[]).run Try.prog w = .ok (.agg #[.int .i64 0, .int .i64 0, .int .i64 0, .int .i64 0, .int .i64 0]) w := run_build w 68 _ _ (by kernel_rfl)
theorem ret_pl {a b c d e x a' b' c' d' e' x' : Int} (h : a = a' ∧ b = b' ∧ c = c' ∧ d = d' ∧ e = e' ∧ x = x') : Ending.returned (.tuple #[.agg #[.int .i64 a, .int .i64 b, .int .i64 c, .int .i64 d, .int .i64 e], .int .i64 x]) = .returned (.tuple #[.agg #[.int .i64 a', .int .i64 b', .int .i64 c', .int .i64 d', .int .i64 e'], .int .i64 x']) := by
  obtain ⟨rfl, rfl, rfl, rfl, rfl, rfl⟩ := h
  rfl
set_option maxRecDepth 100000 in
set_option maxHeartbeats 400000 in
theorem refActive_no (f : ByteArray) (w : World) (h : mayF f = false) : Calls Try.prog 35 #[.string f] w fun e w' => e = .returned (.tuple #[.agg #[.int .i64 0, .int .i64 0, .int .i64 0, .int .i64 0, .int .i64 0], .int .i64 700]) ∧ Below w.heap.size w w' := by
  have HS := hide (fun w => refScan_no f w h)
  have b1 := build_pl0
  clear h
  go_enter Try.func35, Try.ntmps35
  go_wp2_with (go_at_call 51; refine (HS.out _).mono ?_; rintro e w' ⟨rfl, rfl⟩)
  exact bodyPost_ret (v := .tuple #[.agg #[.int .i64 0, .int .i64 0, .int .i64 0, .int .i64 0, .int .i64 0], .int .i64 700]) (by simp [results, Try.results35, go_sem]) rfl ⟨rfl, (Below.refl _ _).alloc (Nat.le_refl _) _⟩
theorem set5 {w W : World} (h : Below w.heap.size w W) (a b c d e : Value) : Below w.heap.size w (((((W.setCell ⟨w.heap.size, 0, none⟩ a).setCell ⟨w.heap.size, 1, none⟩ b).setCell ⟨w.heap.size, 2, none⟩ c).setCell ⟨w.heap.size, 3, none⟩ d).setCell ⟨w.heap.size, 4, none⟩ e) :=
  ((((h.setCell (p := ⟨w.heap.size, 0, none⟩) (Nat.le_refl _) _).setCell (p := ⟨w.heap.size, 1, none⟩) (Nat.le_refl _) _).setCell (p := ⟨w.heap.size, 2, none⟩) (Nat.le_refl _) _).setCell (p := ⟨w.heap.size, 3, none⟩) (Nat.le_refl _) _).setCell (p := ⟨w.heap.size, 4, none⟩) (Nat.le_refl _) _
set_option maxRecDepth 100000 in
set_option maxHeartbeats 2000000 in
theorem refActive_yes (f : ByteArray) (w : World) (h : mayF f = true) : Calls Try.prog 35 #[.string f] w fun e w' => e = .returned (.tuple #[.agg #[.int .i64 (actV f).pa, .int .i64 (actV f).pq, .int .i64 (actV f).pt, .int .i64 (actV f).pz, .int .i64 (actV f).pm], .int .i64 (errA f)]) ∧ Below w.heap.size w w' := by
  have HS := hide (fun w => refScan_any f w)
  rw [h] at HS
  have e0 : errJ true = 0 := rfl
  have b1 := build_pl0
  have hlen := scan_len f
  have HN : Hid (bestTo f (scanL f) (scanL f).length = none → actV f = zeroP ∧ errA f = 701) := fun hb => (act_none h hb).2
  have HK : Hid (∀ (k : Nat) (hk : k < (scanL f).length), bestTo f (scanL f) (scanL f).length = some k → actV f = (scanL f)[k] ∧ errA f = 0) := fun k hk hb => (act_some h hk hb).2
  have HG := hide (fun (p : FPl) (w : World) => refGood_any f p.pq p.pt p.pz p.pm w)
  clear h
  generalize scanL f = l at *
  have hB := (Below.refl w.heap.size w).alloc (Nat.le_refl _) (.cells #[.int .i64 0, .int .i64 0, .int .i64 0, .int .i64 0, .int .i64 0] 68)
  have HR := hide (box5M w (.int .i64 0) (.int .i64 0) (.int .i64 0) (.int .i64 0) (.int .i64 0) 68)
  go_enter Try.func35, Try.ntmps35
  go_wp2_with (go_at_call 51; refine (HS.out _).mono ?_; rintro e w1 ⟨v, rfl, hown, hb⟩)
  replace hB := thenB hB hb
  replace HR := hide (box5B HR.out hb)
  clear hb
  obtain ⟨a, cap, rfl, hin⟩ := ownsP_is hown
  clear hown HS
  go_loopw [6, 7] (fun x y wr => ∃ (b : Option Nat) (n : Nat), n ≤ l.length ∧ x = .int .i64 (bestI b) ∧ y = .int .i64 n ∧ Hid (bestTo f l n = b) ∧ Below w1.heap.size w1 wr) (fun _ y _ => l.length - (intOf y).toNat)
  case atStart => exact ⟨none, 0, Nat.zero_le _, rfl, rfl, rfl, Below.refl _ _⟩
  case round =>
    obtain ⟨b, n, hn, rfl, rfl, HX, hbel⟩ := hrel
    by_cases hlt : n < l.length
    · rcases hin with hin | ⟨g, rfl, hg, hin⟩
      · rw [hin] at hlt; simp at hlt
      have hin1 := hin.below hbel hg
      have hg1 : g < wr.heap.size := Nat.lt_of_lt_of_le hg hbel.size
      have c1 := hin1.pq n hlt
      have c2 := hin1.pt n hlt
      have c3 := hin1.pz n hlt
      have c4 := hin1.pm n hlt
      have HG1 := hide (HG.out l[n])
      have H2 : Hid (∀ w2, Below wr.heap.size wr w2 → Below w1.heap.size w1 w2) := fun w2 h => hbel.trans (h.mono hbel.size)
      have HIn := hide hin1
      clear hin hin1 hbel
      cases hgd : goodP f l[n] with
      | false =>
        have HX2 : Hid (bestTo f l (n + 1) = b) := (best_bad hlt hgd).trans HX.out
        rw [show goodB f l[n].pq l[n].pt l[n].pz l[n].pm = false from hgd] at HG1
        clear hgd HX
        go_wp2_with (go_at_call 52; refine (HG1.out _).mono ?_; rintro e w2 ⟨rfl, hb2⟩)
        go_quiet (fail)
        go_wp2
        exact ⟨⟨b, n + 1, by omega, rfl, by go_num, HX2, bel_drewN (H2.out _ hb2) _⟩, by simp [intOf]; omega⟩
      | true =>
        rw [show goodB f l[n].pq l[n].pt l[n].pz l[n].pm = true from hgd] at HG1
        cases b with
        | none =>
          have HX2 : Hid (bestTo f l (n + 1) = some n) := best_first hlt hgd HX.out
          have hbI : bestI none = -1 := rfl
          clear hgd HX
          go_wp2_with (go_at_call 52; refine (HG1.out _).mono ?_; rintro e w2 ⟨rfl, hb2⟩)
          go_quiet (fail)
          go_wp2
          exact ⟨⟨some n, n + 1, by omega, rfl, by go_num, HX2, bel_drewN (H2.out _ hb2) _⟩, by simp [intOf]; omega⟩
        | some k =>
          have hk := bestTo_lt HX.out
          have hkl : k < l.length := by omega
          have HX2 := hide (best_next hlt hkl hgd HX.out)
          have hbI : bestI (some k) = (k : Int) := rfl
          clear hgd HX
          by_cases hq : l[k].pq ≤ l[n].pq
          · rw [if_pos hq] at HX2
            go_wp2_with (go_at_call 52; refine (HG1.out _).mono ?_; rintro e w2 ⟨rfl, hb2⟩)
            have d1 := (HIn.out.below hb2 hg1).pq n hlt
            have d2 := (HIn.out.below hb2 hg1).pq k hkl
            go_quiet (fail)
            go_wp2
            exact ⟨⟨some n, n + 1, by omega, rfl, by go_num, HX2, bel_drewN (H2.out _ hb2) _⟩, by simp [intOf]; omega⟩
          · rw [if_neg hq] at HX2
            go_wp2_with (go_at_call 52; refine (HG1.out _).mono ?_; rintro e w2 ⟨rfl, hb2⟩)
            have d1 := (HIn.out.below hb2 hg1).pq n hlt
            have d2 := (HIn.out.below hb2 hg1).pq k hkl
            go_quiet (fail)
            go_wp2
            exact ⟨⟨some k, n + 1, by omega, rfl, by go_num, HX2, bel_drewN (H2.out _ hb2) _⟩, by simp [intOf]; omega⟩
    · obtain rfl : n = l.length := by omega
      have hBe := thenB hB hbel
      have hRe := box5B HR.out hbel
      unfold Box5 at hRe
      cases b with
      | none =>
        have hbI : bestI none = -1 := rfl
        obtain ⟨hV, hE⟩ := HN.out HX.out
        have HV := hide hV
        have HE := hide hE
        clear hV hE hin HN HK HG
        go_wp2
        exact bodyPost_ret (v := .tuple #[.agg #[.int .i64 0, .int .i64 0, .int .i64 0, .int .i64 0, .int .i64 0], .int .i64 701]) (by simp [results, Try.results35, go_sem, hRe]) rfl ⟨ret_pl (by rw [HV.out, HE.out]; exact ⟨rfl, rfl, rfl, rfl, rfl, rfl⟩), set5 hBe _ _ _ _ _⟩
      | some k =>
        have hk := bestTo_lt HX.out
        have hbI : bestI (some k) = (k : Int) := rfl
        obtain ⟨hV, hE⟩ := HK.out k hk HX.out
        have HV := hide hV
        have HE := hide hE
        rcases hin with hin | ⟨g, rfl, hg, hin⟩
        · rw [hin] at hk; simp at hk
        have hin1 := hin.below hbel hg
        have c0 := hin1.pa k hk
        have c1 := hin1.pq k hk
        have c2 := hin1.pt k hk
        have c3 := hin1.pz k hk
        have c4 := hin1.pm k hk
        clear hV hE hin hin1 HN HK HG
        go_wp2
        exact bodyPost_ret (v := .tuple #[.agg #[.int .i64 l[k].pa, .int .i64 l[k].pq, .int .i64 l[k].pt, .int .i64 l[k].pz, .int .i64 l[k].pm], .int .i64 0]) (by simp [results, Try.results35, go_sem, hRe]) rfl ⟨ret_pl (by rw [HV.out, HE.out]; exact ⟨rfl, rfl, rfl, rfl, rfl, rfl⟩), set5 hBe _ _ _ _ _⟩
theorem refActive_any (f : ByteArray) (w : World) : Calls Try.prog 35 #[.string f] w fun e w' => e = .returned (.tuple #[.agg #[.int .i64 (actV f).pa, .int .i64 (actV f).pq, .int .i64 (actV f).pt, .int .i64 (actV f).pz, .int .i64 (actV f).pm], .int .i64 (errA f)]) ∧ Below w.heap.size w w' := by
  cases h : mayF f with
  | false =>
    obtain ⟨_, h1, h2⟩ := act_no h
    rw [h1, h2]
    exact refActive_no f w h
  | true => exact refActive_yes f w h
end Go.Proofs.Ythpoefaipmcceaa.ActNext
