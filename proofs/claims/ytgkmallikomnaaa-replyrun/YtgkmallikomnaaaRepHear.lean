/- The contracts of what takes a reply, method by method: the host that it makes; of what was there nothing else has turned. -/
import Derived.Test.YtgkmallikomnaaaRepNear
import Derived.Test.YtgkmallikomnaaaRepFacts
import Derived.Test.YtgkmallikomnaaaBagAns
import Derived.Test.YtgkmallikomnaaaBagOps
import Derived.Test.YtgkmallikomnaaaBagEnt
import Derived.Test.YtgkmallikomnaaaBagSuf
import Derived.Deep.Cut
namespace Go.Proofs.Ytgkmallikomnaaa.RepHear
open Go.Proofs.Ytgkmallikomnaaa Go.RowKit Go.Proofs.Ytgkmallikomnaaa.Bytes Go.Proofs.Ytgkmallikomnaaa.NorWalk Go.Proofs.Ytgkmallikomnaaa.Hst Go.Proofs.Ytgkmallikomnaaa.HstWalk Go.Proofs.Ytgkmallikomnaaa.HstSet Go.Proofs.Ytgkmallikomnaaa.Rep Go.Proofs.Ytgkmallikomnaaa.RepNear
open Go.Proofs.Ytgkmallikomnaaa.Blo (nP)
open Go.Proofs.Ytgkmallikomnaaa.Ans (isAns aSt aTi aSa errW)
open Go.Proofs.Ytgkmallikomnaaa.EntRow (text_ne)
open Go.Proofs.Ytgkmallikomnaaa.SufWalk (text_eq)
open Go.Proofs.Ytgkmallikomnaaa.BloWalk (run_min2)
open Go.Proofs.Ytgkmallikomnaaa.Take
open Go.Proofs.Ytgkmallikomnaaa.OpsRow (thenD)
open List (setIfInBounds_toArray set_cons_zero set_cons_succ)
attribute [local go_sem ↓] Go.wp_at_zero Go.wp_at_succ
theorem not_bang {s : ByteArray} (h : ¬ s = bangS) : (s.toList == [33]) = false := by
  rw [beq_eq_false_iff_ne, ByteArray.toList_eq]
  exact fun e => h (ba_ext e)
theorem is_bang {s : ByteArray} (h : s = bangS) : (s.toList == [33]) = true := by
  rw [h, ByteArray.toList_eq]
  rfl

set_option maxRecDepth 100000 in
set_option maxHeartbeats 4000000 in
theorem sent_any (h : FHost) (t : ByteArray) {B base : Nat} (w : World) (hX : HostR w B h t) (hb : base ≤ B) : Calls Try.prog 56 #[.pointer (some ⟨B, 0, none⟩)] w (Gone B base w (toH h 3 h.bl false) t) := by
  obtain ⟨ph, im, bl, ag, tr, rd, rp⟩ := h
  try dsimp only at *
  unfold toH
  go_enter Try.func56, Try.ntmps56
  go_wp2_with fail
  exact bodyPost_ret (v := .tuple #[]) (by simp [results, Try.results56, go_sem]) rfl ⟨rfl, tkr3 (tkr0 hX (.int .i64 3)) (.bool false), ((((Below.refl base w).setCell (p := ⟨B, 0, none⟩) hb _)).setCell (p := ⟨B, 3, none⟩) hb _)⟩

set_option maxRecDepth 100000 in
set_option maxHeartbeats 4000000 in
theorem ended_any (h : FHost) (t : ByteArray) {B base : Nat} (w : World) (hX : HostR w B h t) (hb : base ≤ B) : Calls Try.prog 57 #[.pointer (some ⟨B, 0, none⟩)] w (Gone B base w (toH h 5 h.bl false) t) := by
  obtain ⟨ph, im, bl, ag, tr, rd, rp⟩ := h
  try dsimp only at *
  unfold toH
  go_enter Try.func57, Try.ntmps57
  go_wp2_with fail
  exact bodyPost_ret (v := .tuple #[]) (by simp [results, Try.results57, go_sem]) rfl ⟨rfl, tkr3 (tkr0 hX (.int .i64 5)) (.bool false), ((((Below.refl base w).setCell (p := ⟨B, 0, none⟩) hb _)).setCell (p := ⟨B, 3, none⟩) hb _)⟩

set_option maxRecDepth 100000 in
set_option maxHeartbeats 4000000 in
theorem cleared_any (h : FHost) (t : ByteArray) {B base : Nat} (w : World) (hX : HostR w B h t) (hb : base ≤ B) : Calls Try.prog 55 #[.pointer (some ⟨B, 0, none⟩)] w (Gone B base w ⟨if h.rd = bangS then 5 else h.ph, h.im, 0, false, h.tr, ⟨#[]⟩, h.rp⟩ t) := by
  obtain ⟨ph, im, bl, ag, tr, rd, rp⟩ := h
  try dsimp only at *
  by_cases c : rd = bangS
  · have q := is_bang c
    rw [if_pos c]
    clear c
    have HL : Hid (∀ w, HostR w B ⟨5, im, bl, ag, tr, rd, rp⟩ t → Calls Try.prog 54 #[.pointer (some ⟨B, 0, none⟩)] w (Gone B base w ⟨5, im, 0, false, tr, ⟨#[]⟩, rp⟩ t)) := fun w hX => leave_any _ t w hX hb
    go_enter Try.func55, Try.ntmps55
    go_wp2_with (go_at_call 54; refine (HL.out _ (tkr0 hX (.int .i64 5))).mono ?_; rintro e w2 ⟨rfl, hX2, hB2⟩)
    exact bodyPost_ret (v := .tuple #[]) (by simp [results, Try.results55, go_sem]) rfl ⟨rfl, hX2, (((Below.refl base w).setCell (p := ⟨B, 0, none⟩) hb _)).trans hB2⟩
  · have q := not_bang c
    rw [if_neg c]
    clear c
    have HL : Hid (∀ w, HostR w B ⟨ph, im, bl, ag, tr, rd, rp⟩ t → Calls Try.prog 54 #[.pointer (some ⟨B, 0, none⟩)] w (Gone B base w ⟨ph, im, 0, false, tr, ⟨#[]⟩, rp⟩ t)) := fun w hX => leave_any _ t w hX hb
    go_enter Try.func55, Try.ntmps55
    go_wp2_with (go_at_call 54; refine (HL.out _ hX).mono ?_; rintro e w2 ⟨rfl, hX2, hB2⟩)
    exact bodyPost_ret (v := .tuple #[]) (by simp [results, Try.results55, go_sem]) rfl ⟨rfl, hX2, hB2⟩

/-- What a state tells where the host looks. -/
def lookH (h : FHost) (s : Int) : FHost := if s = 0 then toH h 2 0 h.ag else if s = 7 then toH h h.ph 0 true else if s = 3 ∨ s = 6 then toH h h.ph 1 true else h
set_option maxRecDepth 100000 in
set_option maxHeartbeats 4000000 in
theorem looked_any (h : FHost) (t : ByteArray) {B base : Nat} (w : World) (hX : HostR w B h t) (hb : base ≤ B) (s : Int) : Calls Try.prog 68 #[.pointer (some ⟨B, 0, none⟩), .int .i64 s] w (Gone B base w (lookH h s) t) := by
  obtain ⟨ph, im, bl, ag, tr, rd, rp⟩ := h
  try dsimp only at *
  unfold lookH toH
  try dsimp only
  by_cases c0 : s = 0
  · subst c0
    rw [if_pos rfl]
    go_enter Try.func68, Try.ntmps68
    go_wp2_with fail
    exact bodyPost_ret (v := .tuple #[]) (by simp [results, Try.results68, go_sem]) rfl ⟨rfl, tkr2 (tkr0 hX (.int .i64 2)) (.int .i64 0), ((((Below.refl base w).setCell (p := ⟨B, 0, none⟩) hb _)).setCell (p := ⟨B, 2, none⟩) hb _)⟩
  rw [if_neg c0]
  by_cases c7 : s = 7
  · subst c7
    rw [if_pos rfl]
    go_enter Try.func68, Try.ntmps68
    go_wp2_with fail
    exact bodyPost_ret (v := .tuple #[]) (by simp [results, Try.results68, go_sem]) rfl ⟨rfl, tkr2 (tkr3 hX (.bool true)) (.int .i64 0), ((((Below.refl base w).setCell (p := ⟨B, 3, none⟩) hb _)).setCell (p := ⟨B, 2, none⟩) hb _)⟩
  rw [if_neg c7]
  by_cases c3 : s = 3
  · subst c3
    rw [if_pos (.inl rfl)]
    go_enter Try.func68, Try.ntmps68
    go_wp2_with fail
    exact bodyPost_ret (v := .tuple #[]) (by simp [results, Try.results68, go_sem]) rfl ⟨rfl, tkr2 (tkr3 hX (.bool true)) (.int .i64 1), ((((Below.refl base w).setCell (p := ⟨B, 3, none⟩) hb _)).setCell (p := ⟨B, 2, none⟩) hb _)⟩
  by_cases c6 : s = 6
  · subst c6
    rw [if_pos (.inr rfl)]
    go_enter Try.func68, Try.ntmps68
    go_wp2_with fail
    exact bodyPost_ret (v := .tuple #[]) (by simp [results, Try.results68, go_sem]) rfl ⟨rfl, tkr2 (tkr3 hX (.bool true)) (.int .i64 1), ((((Below.refl base w).setCell (p := ⟨B, 3, none⟩) hb _)).setCell (p := ⟨B, 2, none⟩) hb _)⟩
  rw [if_neg (fun g => g.elim c3 c6)]
  go_enter Try.func68, Try.ntmps68
  go_wp2_with fail
  exact bodyPost_ret (v := .tuple #[]) (by simp [results, Try.results68, go_sem]) rfl ⟨rfl, hX, Below.refl base w⟩

set_option maxRecDepth 100000 in
set_option maxHeartbeats 4000000 in
theorem proceed_any (h : FHost) (t : ByteArray) {B base : Nat} (w : World) (hX : HostR w B h t) (hb : base ≤ B) (hi : h.im.size ≤ 288) (h0 : 0 ≤ h.bl) (h1 : h.bl ≤ (nP h.im : Int)) (h9 : nP h.im ≤ 9) : Calls Try.prog 73 #[.pointer (some ⟨B, 0, none⟩)] w (Gone B base w (if (nP h.im : Int) ≤ h.bl + 1 then toH h 4 (nP h.im : Int) h.ag else toH h 2 (h.bl + 1) h.ag) t) := by
  have HP := hide (npieces_any h t w hX hi)
  have hB := Below.refl base w
  have hsz : base ≤ w.heap.size := Nat.le_trans hb (Nat.le_of_lt hX.1.1)
  obtain ⟨ph, im, bl, ag, tr, rd, rp⟩ := h
  try dsimp only at *
  unfold toH
  try dsimp only
  clear hi
  generalize nP im = n at *
  by_cases c : (n : Int) ≤ bl + 1
  · rw [if_pos c]
    have hmn := fun ts t w => run_min2 (P := Try.prog) (bl + 1) (n : Int) (n : Int) (by omega) ts t w
    go_enter Try.func73, Try.ntmps73
    go_wp2_with (go_at_call 63; refine HP.out.mono ?_; rintro e w1 ⟨rfl, hB1⟩; replace hX := tkrB hX hB1; replace hB := hB.trans (hB1.mono hsz))
    exact bodyPost_ret (v := .tuple #[]) (by simp [results, Try.results73, go_sem]) rfl ⟨rfl, tkr0 (tkr0 (tkr2 hX (.int .i64 (n : Int))) (.int .i64 2)) (.int .i64 4), ((((((hB).setCell (p := ⟨B, 2, none⟩) hb _)).setCell (p := ⟨B, 0, none⟩) hb _)).setCell (p := ⟨B, 0, none⟩) hb _)⟩
  · rw [if_neg c]
    have hmn := fun ts t w => run_min2 (P := Try.prog) (bl + 1) (n : Int) (bl + 1) (by omega) ts t w
    have hne : ((bl + 1 : Int) == (n : Int)) = false := by rw [beq_eq_false_iff_ne]; omega
    go_enter Try.func73, Try.ntmps73
    go_wp2_with (go_at_call 63; refine HP.out.mono ?_; rintro e w1 ⟨rfl, hB1⟩; replace hX := tkrB hX hB1; replace hB := hB.trans (hB1.mono hsz))
    exact bodyPost_ret (v := .tuple #[]) (by simp [results, Try.results73, go_sem]) rfl ⟨rfl, tkr0 (tkr2 hX (.int .i64 (bl + 1))) (.int .i64 2), ((((hB).setCell (p := ⟨B, 2, none⟩) hb _)).setCell (p := ⟨B, 0, none⟩) hb _)⟩

/-- What a state tells where the host polls. -/
def pollH (h : FHost) (s : Int) : FHost := if s = 1 ∨ s = 2 then h else if s = 3 ∧ h.ag = true ∨ s = 0 ∧ h.ag = true ∧ h.bl = 0 then toH h 2 h.bl false else if s = 3 ∧ (nP h.im : Int) ≤ h.bl + 1 then toH h 4 (nP h.im : Int) false else if s = 3 then toH h 2 (h.bl + 1) false else anewH h
set_option maxRecDepth 100000 in
set_option maxHeartbeats 4000000 in
theorem polled_any (h : FHost) (t : ByteArray) {B base : Nat} (w : World) (hX : HostR w B h t) (hb : base ≤ B) (s : Int) (hi : h.im.size ≤ 288) (h0 : 0 ≤ h.bl) (h1 : h.bl ≤ (nP h.im : Int)) (h9 : nP h.im ≤ 9) (g0 : 0 ≤ h.tr) : Calls Try.prog 69 #[.pointer (some ⟨B, 0, none⟩), .int .i64 s] w (Gone B base w (pollH h s) t) := by
  have HQ : Hid (∀ w, HostR w B h t → Calls Try.prog 73 #[.pointer (some ⟨B, 0, none⟩)] w (Gone B base w (if (nP h.im : Int) ≤ h.bl + 1 then toH h 4 (nP h.im : Int) h.ag else toH h 2 (h.bl + 1) h.ag) t)) := fun w hX => proceed_any h t w hX hb hi h0 h1 h9
  obtain ⟨ph, im, bl, ag, tr, rd, rp⟩ := h
  try dsimp only at *
  unfold pollH
  try dsimp only
  by_cases c1 : s = 1
  · subst c1
    rw [if_pos (.inl rfl)]
    clear HQ g0
    go_enter Try.func69, Try.ntmps69
    go_wp2_with fail
    exact bodyPost_ret (v := .tuple #[]) (by simp [results, Try.results69, go_sem]) rfl ⟨rfl, hX, Below.refl base w⟩
  by_cases c2 : s = 2
  · subst c2
    rw [if_pos (.inr rfl)]
    clear HQ g0
    go_enter Try.func69, Try.ntmps69
    go_wp2_with fail
    exact bodyPost_ret (v := .tuple #[]) (by simp [results, Try.results69, go_sem]) rfl ⟨rfl, hX, Below.refl base w⟩
  rw [if_neg (fun g => g.elim c1 c2)]
  by_cases c3 : s = 3
  · subst c3
    cases ag with
    | true =>
      rw [if_pos (.inl ⟨rfl, rfl⟩)]
      unfold toH
      clear HQ g0
      go_enter Try.func69, Try.ntmps69
      go_wp2_with fail
      exact bodyPost_ret (v := .tuple #[]) (by simp [results, Try.results69, go_sem]) rfl ⟨rfl, tkr3 (tkr0 hX (.int .i64 2)) (.bool false), ((((Below.refl base w).setCell (p := ⟨B, 0, none⟩) hb _)).setCell (p := ⟨B, 3, none⟩) hb _)⟩
    | false =>
      rw [if_neg (by simp)]
      have e : (if (3 : Int) = 3 ∧ (nP im : Int) ≤ bl + 1 then toH ⟨ph, im, bl, false, tr, rd, rp⟩ 4 (nP im : Int) false else if (3 : Int) = 3 then toH ⟨ph, im, bl, false, tr, rd, rp⟩ 2 (bl + 1) false else anewH ⟨ph, im, bl, false, tr, rd, rp⟩) = (if (nP im : Int) ≤ bl + 1 then toH ⟨ph, im, bl, false, tr, rd, rp⟩ 4 (nP im : Int) false else toH ⟨ph, im, bl, false, tr, rd, rp⟩ 2 (bl + 1) false) := by
        by_cases c : (nP im : Int) ≤ bl + 1
        · rw [if_pos ⟨rfl, c⟩, if_pos c]
        · rw [if_neg (fun g => c g.2), if_neg c, if_pos rfl]
      rw [e]
      clear e g0 h1 h0 hi h9
      generalize (if (nP im : Int) ≤ bl + 1 then toH ⟨ph, im, bl, false, tr, rd, rp⟩ 4 (nP im : Int) false else toH ⟨ph, im, bl, false, tr, rd, rp⟩ 2 (bl + 1) false) = X at *
      go_enter Try.func69, Try.ntmps69
      go_wp2_with (go_at_call 73; refine (HQ.out _ hX).mono ?_; rintro e w1 ⟨rfl, hX1, hB1⟩)
      exact bodyPost_ret (v := .tuple #[]) (by simp [results, Try.results69, go_sem]) rfl ⟨rfl, hX1, hB1⟩
  clear HQ
  by_cases c0 : s = 0
  · subst c0
    cases ag with
    | true =>
      by_cases cb : bl = 0
      · subst cb
        rw [if_pos (.inr ⟨rfl, rfl, rfl⟩)]
        unfold toH
        clear g0
        go_enter Try.func69, Try.ntmps69
        go_wp2_with fail
        exact bodyPost_ret (v := .tuple #[]) (by simp [results, Try.results69, go_sem]) rfl ⟨rfl, tkr3 (tkr0 hX (.int .i64 2)) (.bool false), ((((Below.refl base w).setCell (p := ⟨B, 0, none⟩) hb _)).setCell (p := ⟨B, 3, none⟩) hb _)⟩
      · rw [if_neg (by omega), if_neg (by omega), if_neg (by omega)]
        clear h1 h0 hi h9
        have HA : Hid (∀ w, HostR w B ⟨ph, im, bl, true, tr, rd, rp⟩ t → Calls Try.prog 39 #[.pointer (some ⟨B, 0, none⟩)] w (Gone B base w (anewH ⟨ph, im, bl, true, tr, rd, rp⟩) t)) := fun w hX => anew_any _ t w hX hb g0
        generalize anewH ⟨ph, im, bl, true, tr, rd, rp⟩ = X at *
        clear g0
        go_enter Try.func69, Try.ntmps69
        go_wp2_with (go_at_call 39; refine (HA.out _ hX).mono ?_; rintro e w1 ⟨rfl, hX1, hB1⟩)
        exact bodyPost_ret (v := .tuple #[]) (by simp [results, Try.results69, go_sem]) rfl ⟨rfl, hX1, hB1⟩
    | false =>
      rw [if_neg (by simp), if_neg (by omega), if_neg (by omega)]
      clear h1 h0 hi h9
      have HA : Hid (∀ w, HostR w B ⟨ph, im, bl, false, tr, rd, rp⟩ t → Calls Try.prog 39 #[.pointer (some ⟨B, 0, none⟩)] w (Gone B base w (anewH ⟨ph, im, bl, false, tr, rd, rp⟩) t)) := fun w hX => anew_any _ t w hX hb g0
      generalize anewH ⟨ph, im, bl, false, tr, rd, rp⟩ = X at *
      clear g0
      go_enter Try.func69, Try.ntmps69
      go_wp2_with (go_at_call 39; refine (HA.out _ hX).mono ?_; rintro e w1 ⟨rfl, hX1, hB1⟩)
      exact bodyPost_ret (v := .tuple #[]) (by simp [results, Try.results69, go_sem]) rfl ⟨rfl, hX1, hB1⟩
  rw [if_neg (by omega), if_neg (by omega), if_neg (by omega)]
  clear h1 h0 hi h9
  have q0 : (s == 0) = false := by rw [beq_eq_false_iff_ne]; exact c0
  have q1 : (s == 1) = false := by rw [beq_eq_false_iff_ne]; exact c1
  have q2 : (s == 2) = false := by rw [beq_eq_false_iff_ne]; exact c2
  have q3 : (s == 3) = false := by rw [beq_eq_false_iff_ne]; exact c3
  clear c0 c1 c2 c3
  have HA : Hid (∀ w, HostR w B ⟨ph, im, bl, ag, tr, rd, rp⟩ t → Calls Try.prog 39 #[.pointer (some ⟨B, 0, none⟩)] w (Gone B base w (anewH ⟨ph, im, bl, ag, tr, rd, rp⟩) t)) := fun w hX => anew_any _ t w hX hb g0
  generalize anewH ⟨ph, im, bl, ag, tr, rd, rp⟩ = X at *
  clear g0
  go_enter Try.func69, Try.ntmps69
  go_wp2_with (go_at_call 39; refine (HA.out _ hX).mono ?_; rintro e w1 ⟨rfl, hX1, hB1⟩)
  exact bodyPost_ret (v := .tuple #[]) (by simp [results, Try.results69, go_sem]) rfl ⟨rfl, hX1, hB1⟩

/-- What a state tells where the host waits. -/
def waitH (h : FHost) (s : Int) : FHost := if s = 0 then ⟨6, h.im, 0, false, h.tr, ⟨#[]⟩, h.rp⟩ else if s = 3 ∧ h.ag = true then toH h 4 h.bl false else if s = 4 ∨ s = 5 then h else anewH h
set_option maxRecDepth 100000 in
set_option maxHeartbeats 4000000 in
theorem waited_any (h : FHost) (t : ByteArray) {B base : Nat} (w : World) (hX : HostR w B h t) (hb : base ≤ B) (s : Int) (g0 : 0 ≤ h.tr) : Calls Try.prog 70 #[.pointer (some ⟨B, 0, none⟩), .int .i64 s] w (Gone B base w (waitH h s) t) := by
  obtain ⟨ph, im, bl, ag, tr, rd, rp⟩ := h
  try dsimp only at *
  unfold waitH
  try dsimp only
  by_cases c0 : s = 0
  · subst c0
    rw [if_pos rfl]
    clear g0
    have HL : Hid (∀ w, HostR w B ⟨6, im, bl, ag, tr, rd, rp⟩ t → Calls Try.prog 54 #[.pointer (some ⟨B, 0, none⟩)] w (Gone B base w ⟨6, im, 0, false, tr, ⟨#[]⟩, rp⟩ t)) := fun w hX => leave_any _ t w hX hb
    go_enter Try.func70, Try.ntmps70
    go_wp2_with (go_at_call 54; refine (HL.out _ (tkr0 hX (.int .i64 6))).mono ?_; rintro e w1 ⟨rfl, hX1, hB1⟩)
    exact bodyPost_ret (v := .tuple #[]) (by simp [results, Try.results70, go_sem]) rfl ⟨rfl, hX1, (((Below.refl base w).setCell (p := ⟨B, 0, none⟩) hb _)).trans hB1⟩
  rw [if_neg c0]
  by_cases c3 : s = 3
  · subst c3
    cases ag with
    | true =>
      rw [if_pos ⟨rfl, rfl⟩]
      unfold toH
      clear g0
      go_enter Try.func70, Try.ntmps70
      go_wp2_with fail
      exact bodyPost_ret (v := .tuple #[]) (by simp [results, Try.results70, go_sem]) rfl ⟨rfl, tkr3 (tkr0 hX (.int .i64 4)) (.bool false), ((((Below.refl base w).setCell (p := ⟨B, 0, none⟩) hb _)).setCell (p := ⟨B, 3, none⟩) hb _)⟩
    | false =>
      rw [if_neg (by simp), if_neg (by omega)]
      have HA : Hid (∀ w, HostR w B ⟨ph, im, bl, false, tr, rd, rp⟩ t → Calls Try.prog 39 #[.pointer (some ⟨B, 0, none⟩)] w (Gone B base w (anewH ⟨ph, im, bl, false, tr, rd, rp⟩) t)) := fun w hX => anew_any _ t w hX hb g0
      generalize anewH ⟨ph, im, bl, false, tr, rd, rp⟩ = X at *
      clear g0
      go_enter Try.func70, Try.ntmps70
      go_wp2_with (go_at_call 39; refine (HA.out _ hX).mono ?_; rintro e w1 ⟨rfl, hX1, hB1⟩)
      exact bodyPost_ret (v := .tuple #[]) (by simp [results, Try.results70, go_sem]) rfl ⟨rfl, hX1, hB1⟩
  rw [if_neg (fun g => c3 g.1)]
  by_cases c4 : s = 4
  · subst c4
    rw [if_pos (.inl rfl)]
    clear g0
    go_enter Try.func70, Try.ntmps70
    go_wp2_with fail
    exact bodyPost_ret (v := .tuple #[]) (by simp [results, Try.results70, go_sem]) rfl ⟨rfl, hX, Below.refl base w⟩
  by_cases c5 : s = 5
  · subst c5
    rw [if_pos (.inr rfl)]
    clear g0
    go_enter Try.func70, Try.ntmps70
    go_wp2_with fail
    exact bodyPost_ret (v := .tuple #[]) (by simp [results, Try.results70, go_sem]) rfl ⟨rfl, hX, Below.refl base w⟩
  rw [if_neg (fun g => g.elim c4 c5)]
  have q0 : (s == 0) = false := by rw [beq_eq_false_iff_ne]; exact c0
  have q3 : (s == 3) = false := by rw [beq_eq_false_iff_ne]; exact c3
  have q4 : (s == 4) = false := by rw [beq_eq_false_iff_ne]; exact c4
  have q5 : (s == 5) = false := by rw [beq_eq_false_iff_ne]; exact c5
  clear c0 c3 c4 c5
  have HA : Hid (∀ w, HostR w B ⟨ph, im, bl, ag, tr, rd, rp⟩ t → Calls Try.prog 39 #[.pointer (some ⟨B, 0, none⟩)] w (Gone B base w (anewH ⟨ph, im, bl, ag, tr, rd, rp⟩) t)) := fun w hX => anew_any _ t w hX hb g0
  generalize anewH ⟨ph, im, bl, ag, tr, rd, rp⟩ = X at *
  clear g0
  go_enter Try.func70, Try.ntmps70
  go_wp2_with (go_at_call 39; refine (HA.out _ hX).mono ?_; rintro e w1 ⟨rfl, hX1, hB1⟩)
  exact bodyPost_ret (v := .tuple #[]) (by simp [results, Try.results70, go_sem]) rfl ⟨rfl, hX1, hB1⟩
end Go.Proofs.Ytgkmallikomnaaa.RepHear
