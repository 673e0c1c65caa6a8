/- The contract of package reply: the host that the plain functions give; of what was there nothing has turned. -/
import Derived.Test.YtgkmallikomnaaaRepTake
import Derived.Test.YtgkmallikomnaaaRepGive
import Derived.Test.YtgkmallikomnaaaBagTxt
import Derived.Deep.CutRange
namespace Go.Proofs.Ytgkmallikomnaaa.RepWalk
open Go.Proofs.Ytgkmallikomnaaa Go.RowKit Go.Proofs.Ytgkmallikomnaaa.Bytes Go.Proofs.Ytgkmallikomnaaa.NorWalk Go.Proofs.Ytgkmallikomnaaa.Hst Go.Proofs.Ytgkmallikomnaaa.HstWalk Go.Proofs.Ytgkmallikomnaaa.HstAsk Go.Proofs.Ytgkmallikomnaaa.HstSet Go.Proofs.Ytgkmallikomnaaa.Rep Go.Proofs.Ytgkmallikomnaaa.RepRef Go.Proofs.Ytgkmallikomnaaa.RepTake
open Go.Proofs.Ytgkmallikomnaaa.RepNear (Tkr tkrB tkrD belD sizD Gone lose_any anew_any)
open Go.Proofs.Ytgkmallikomnaaa.RepHear
open Go.Proofs.Ytgkmallikomnaaa.HstHost (set7)
open Go.Proofs.Ytgkmallikomnaaa.ImgClone (clone_any)
open Go.Proofs.Ytgkmallikomnaaa.Blo (nP)
open Go.Proofs.Ytgkmallikomnaaa.Ans (isAns aSt aTi aSa errW)
open Go.Proofs.Ytgkmallikomnaaa.AnsWalk (aget_any)
open Go.Proofs.Ytgkmallikomnaaa.OpsRow (boxM boxB boxD thenD)
attribute [local go_sem ↓] Go.wp_at_zero Go.wp_at_succ
abbrev HostT (w : World) (B : Nat) (h : FHost) (t : ByteArray) : Prop := RepNear.HostR w B h t
theorem sevRD {w w' : World} {B : Nat} {x0 x1 x2 x3 x4 x5 x6 : Value} (hb : Below w.heap.size w w') (h : SevR w B x0 x1 x2 x3 x4 x5 x6) : SevR w' B x0 x1 x2 x3 x4 x5 x6 := sevRB h hb
set_option maxRecDepth 100000 in
set_option maxHeartbeats 4000000 in
theorem hfresh_any (h : FHost) (w : World) (h1 : h.im.size ≤ 281474976710656) (h2 : h.rd.size ≤ 281474976710656) : Calls Try.prog 18 #[.agg #[.int .i64 h.ph, .string h.im, .int .i64 h.bl, .bool h.ag, .int .i64 h.tr, .string h.rd, .int .i64 h.rp]] w fun e w' => e = .returned (.agg #[.int .i64 h.ph, .string h.im, .int .i64 h.bl, .bool h.ag, .int .i64 h.tr, .string h.rd, .int .i64 h.rp]) ∧ Below w.heap.size w w' := by
  obtain ⟨ph, im, bl, ag, tr, rd, rp⟩ := h
  have C1 := hide (fun w => clone_any im w h1)
  have C2 := hide (fun w => clone_any rd w h2)
  dsimp only at *
  clear h1 h2
  obtain ⟨W, hW, hX, hR, hB⟩ := host_boxes w (.int .i64 ph) (.string im) (.int .i64 bl) (.bool ag) (.int .i64 tr) (.string rd) (.int .i64 rp)
  subst hW
  go_enter Try.func18, Try.ntmps18
  go_upto_region 1 with fail
  generalize (w.alloc _).alloc _ = W at *
  go_region_with (first | (go_at_call 41; refine (C1.out _).mono ?_; rintro e w' ⟨rfl, hb⟩; replace hB := thenD hb hB rfl rfl rfl rfl; replace hX := sevRD hb hX; replace hR := sevRD hb hR; clear hb) | (go_at_call 41; refine (C2.out _).mono ?_; rintro e w' ⟨rfl, hb⟩; replace hB := thenD hb hB rfl rfl rfl rfl; replace hX := sevRD hb hX; replace hR := sevRD hb hR; clear hb))
  all_goals
    replace hX := set5 (set1 hX (.string im)) (.string rd)
    replace hR := setO (setO hR (Nat.ne_of_lt (Nat.lt_succ_self _)) 1 (.string im)) (Nat.ne_of_lt (Nat.lt_succ_self _)) 5 (.string rd)
    replace hB := (hB.setCell (p := ⟨w.heap.size, 1, none⟩) (Nat.le_refl _) (.string im)).setCell (p := ⟨w.heap.size, 5, none⟩) (Nat.le_refl _) (.string rd)
    generalize (w'.setCell _ _).setCell _ _ = W2 at *
    go_wp2_with fail
    exact bodyPost_ret (v := .agg #[.int .i64 ph, .string im, .int .i64 bl, .bool ag, .int .i64 tr, .string rd, .int .i64 rp]) (by simp [results, Try.results18, go_sem, hR]) rfl ⟨rfl, set7 hB (Nat.le_succ _)⟩
theorem learning_any (F : Nat) (h : FHost) (t : ByteArray) {B : Nat} (w : World) (hX : HostT w B h t) (hF : (h.ph = 1 ∧ F = 68) ∨ (h.ph = 3 ∧ F = 69) ∨ (h.ph = 5 ∧ F = 70)) : Calls Try.prog 65 #[.pointer (some ⟨B, 0, none⟩)] w fun e w' => e = .returned (.func (.func F) #[.pointer (some ⟨B, 0, none⟩)] #[]) ∧ w' = w := by
  have hmf : ∀ (fn : Fn) (first cap : Array Value) (w : World), (Instr.makeFunc fn first cap).run Try.prog w = .ok (.func fn first cap) w := fun _ _ _ _ => rfl
  obtain ⟨ph, im, bl, ag, tr, rd, rp⟩ := h
  dsimp only at *
  rcases hF with ⟨rfl, rfl⟩ | ⟨rfl, rfl⟩ | ⟨rfl, rfl⟩
  all_goals
    go_enter Try.func65, Try.ntmps65
    go_wp2
    go_ret
    exact ⟨rfl, rfl⟩
theorem hearing_any (F : Nat) (h : FHost) (t : ByteArray) {B : Nat} (w : World) (hX : HostT w B h t) (hF : (h.ph = 1 ∧ h.ag = true ∧ F = 55) ∨ (h.ph = 2 ∧ F = 56) ∨ (h.ph = 4 ∧ F = 57) ∨ (h.ph = 6 ∧ F = 58) ∨ (h.ph = 1 ∧ h.ag = false ∧ F = 59) ∨ (h.ph = 3 ∧ F = 59) ∨ (h.ph = 5 ∧ F = 59)) : Calls Try.prog 40 #[.pointer (some ⟨B, 0, none⟩)] w fun e w' => e = .returned (.func (.func F) #[.pointer (some ⟨B, 0, none⟩)] #[]) ∧ w' = w := by
  have hmf : ∀ (fn : Fn) (first cap : Array Value) (w : World), (Instr.makeFunc fn first cap).run Try.prog w = .ok (.func fn first cap) w := fun _ _ _ _ => rfl
  obtain ⟨ph, im, bl, ag, tr, rd, rp⟩ := h
  dsimp only at *
  rcases hF with ⟨rfl, rfl, rfl⟩ | ⟨rfl, rfl⟩ | ⟨rfl, rfl⟩ | ⟨rfl, rfl⟩ | ⟨rfl, rfl, rfl⟩ | ⟨rfl, rfl⟩ | ⟨rfl, rfl⟩
  all_goals
    go_enter Try.func40, Try.ntmps40
    go_wp2
    go_ret
    exact ⟨rfl, rfl⟩
theorem enterL (args : Array Value) (w : World) : (callFunc 68 args).run Try.prog w = .ok (.enter 68 args) w := by kernel_rfl
theorem enterP (args : Array Value) (w : World) : (callFunc 69 args).run Try.prog w = .ok (.enter 69 args) w := by kernel_rfl
theorem enterW (args : Array Value) (w : World) : (callFunc 70 args).run Try.prog w = .ok (.enter 70 args) w := by kernel_rfl
set_option maxRecDepth 100000 in
set_option maxHeartbeats 4000000 in
theorem answered_no (h : FHost) (t : ByteArray) {B base : Nat} (w : World) (hX : HostT w B h t) (hb : base ≤ B) (g0 : 0 ≤ h.tr) (hI : isAns t = false) : Calls Try.prog 59 #[.pointer (some ⟨B, 0, none⟩)] w (Gone B base w (anewH h) t) := by
  have HG := hide (AnsWalk.aget_no hI)
  have HA := hide (fun w (hX : HostT w B h t) => anew_any h t (base := base) w hX hb g0)
  have hB := Below.refl base w
  have hsz : base ≤ w.heap.size := Nat.le_trans hb (Nat.le_of_lt hX.1.1)
  obtain ⟨ph, im, bl, ag, tr, rd, rp⟩ := h
  dsimp only at *
  generalize anewH _ = X at *
  clear hI g0
  go_enter Try.func59, Try.ntmps59
  go_upto_region 1 with (go_at_call 64; refine (HG.out _).mono ?_; rintro e w1 ⟨rfl, hb1⟩; replace hX := tkrB hX hb1; replace hB := hB.trans (hb1.mono hsz))
  have hT := boxM w1 (.int .i64 0) (.int .i64 0) (.int .i64 0) 43
  have hn := hal w1 (.cells #[.int .i64 0, .int .i64 0, .int .i64 0] 43)
  replace hX := tkrB hX hn
  replace hB := hB.trans (hn.mono (Nat.le_trans hsz hb1.size))
  clear hn hb1
  generalize w1.alloc _ = W1 at *
  go_wp2_with (go_at_call 39; refine (HA.out _ hX).mono ?_; rintro e w2 ⟨rfl, hX2, hB2⟩)
  exact bodyPost_ret (v := .tuple #[]) (by simp [results, Try.results59, go_sem]) rfl ⟨rfl, hX2, hB.trans hB2⟩
set_option maxRecDepth 100000 in
set_option maxHeartbeats 4000000 in
theorem answered_run (F : Nat) (X : FHost) (h : FHost) (t : ByteArray) {B base : Nat} (w : World) (hX : HostT w B h t) (hb : base ≤ B) (hI : isAns t = true)
    (hN : ∀ (args : Array Value) (w : World), (callFunc F args).run Try.prog w = .ok (.enter F args) w)
    (hA : ∀ w, HostT w B h t → Calls Try.prog 65 #[.pointer (some ⟨B, 0, none⟩)] w fun e w' => e = .returned (.func (.func F) #[.pointer (some ⟨B, 0, none⟩)] #[]) ∧ w' = w)
    (hF : ∀ w, HostT w B h t → Calls Try.prog F #[.pointer (some ⟨B, 0, none⟩), .int .i64 (aSa t)] w (Gone B base w X t)) :
    Calls Try.prog 59 #[.pointer (some ⟨B, 0, none⟩)] w (Gone B base w X t) := by
  have HG := hide (aget_any t)
  rw [hI] at HG
  have hE0 : errW true = 0 := rfl
  rw [hE0] at HG
  generalize aSt t = a0 at *
  generalize aTi t = a1 at *
  generalize aSa t = a2 at *
  have HN := hide hN
  have HA := hide hA
  have HF := hide hF
  have hB := Below.refl base w
  have hsz : base ≤ w.heap.size := Nat.le_trans hb (Nat.le_of_lt hX.1.1)
  obtain ⟨ph, im, bl, ag, tr, rd, rp⟩ := h
  try dsimp only at *
  clear hI hE0 hN hA hF
  go_enter Try.func59, Try.ntmps59
  go_upto_region 1 with (go_at_call 64; refine (HG.out _).mono ?_; rintro e w1 ⟨rfl, hb1⟩; replace hX := tkrB hX hb1; replace hB := hB.trans (hb1.mono hsz))
  have hT := boxM w1 (.int .i64 a0) (.int .i64 a1) (.int .i64 a2) 43
  have hn := hal w1 (.cells #[.int .i64 a0, .int .i64 a1, .int .i64 a2] 43)
  replace hX := tkrB hX hn
  replace hB := hB.trans (hn.mono (Nat.le_trans hsz hb1.size))
  clear hn hb1
  generalize w1.alloc _ = W1 at *
  go_upto_region 3 with fail
  go_region_with (first | (go_at_call 65; refine (HA.out _ (tkrD hX)).mono ?_; rintro e w2 ⟨rfl, rfl⟩) | (rw [HN.out, Oper.upon_enter]; refine (HF.out _ (tkrD hX)).mono ?_; rintro e w3 ⟨rfl, hX2, hB2⟩; replace hB2 := (belD hB).trans hB2))
  all_goals
    go_wp2_with fail
    exact bodyPost_ret (v := .tuple #[]) (by simp [results, Try.results59, go_sem]) rfl ⟨rfl, hX2, hB2⟩
/-- What a state tells. -/
def learnH (h : FHost) (s : Int) : FHost := if h.ph = 1 then lookH h s else if h.ph = 3 then pollH h s else waitH h s
def ansH (h : FHost) (t : ByteArray) : FHost := if isAns t then learnH h (aSa t) else anewH h
theorem answered_any (h : FHost) (t : ByteArray) {B base : Nat} (w : World) (hX : HostT w B h t) (hb : base ≤ B) (g : okH h = true) (hp : h.ph = 1 ∨ h.ph = 3 ∨ h.ph = 5) : Calls Try.prog 59 #[.pointer (some ⟨B, 0, none⟩)] w (Gone B base w (ansH h t) t) := by
  obtain ⟨-, -, ⟨-, hi⟩, ⟨hb0, hb1⟩, ⟨ht, -⟩, -, -, hn9⟩ := ok_nums g
  unfold ansH
  cases hI : isAns t with
  | false =>
    rw [if_neg (by decide)]
    exact answered_no h t w hX hb ht hI
  | true =>
    rw [if_pos rfl]
    unfold learnH
    rcases hp with hp | hp | hp
    · rw [if_pos hp]
      exact answered_run _ _ h t w hX hb hI enterL (fun w hX => learning_any _ h t w hX (.inl ⟨hp, rfl⟩)) (fun w hX => looked_any h t w hX hb (aSa t))
    · rw [if_neg (by omega), if_pos hp]
      exact answered_run _ _ h t w hX hb hI enterP (fun w hX => learning_any _ h t w hX (.inr (.inl ⟨hp, rfl⟩))) (fun w hX => polled_any h t w hX hb (aSa t) hi hb0 hb1 hn9 ht)
    · rw [if_neg (by omega), if_neg (by omega)]
      exact answered_run _ _ h t w hX hb hI enterW (fun w hX => learning_any _ h t w hX (.inr (.inr ⟨hp, rfl⟩))) (fun w hX => waited_any h t w hX hb (aSa t) ht)
/-- Which of them takes it. -/
theorem taking_lost (h : FHost) (st : Bool) (t : ByteArray) {B : Nat} (w : World) (_hX : HostT w B h t) : Calls Try.prog 17 #[.pointer (some ⟨B, 0, none⟩), .agg #[.bool true, .bool st, .string t]] w fun e w' => e = .returned (.func (.func 38) #[.pointer (some ⟨B, 0, none⟩)] #[]) ∧ Below w.heap.size w w' := by
  have hmf : ∀ (fn : Fn) (first cap : Array Value) (w : World), (Instr.makeFunc fn first cap).run Try.prog w = .ok (.func fn first cap) w := fun _ _ _ _ => rfl
  have hR := boxM w (.bool true) (.bool st) (.string t) 25
  have hB := hal w (.cells #[.bool true, .bool st, .string t] 25)
  go_enter Try.func17, Try.ntmps17
  go_upto_region 1 with fail
  generalize w.alloc _ = W at *
  go_wp2
  go_ret
  exact ⟨rfl, hB⟩
theorem taking_stall (h : FHost) (t : ByteArray) {B : Nat} (w : World) (_hX : HostT w B h t) : Calls Try.prog 17 #[.pointer (some ⟨B, 0, none⟩), .agg #[.bool false, .bool true, .string t]] w fun e w' => e = .returned (.func (.func 39) #[.pointer (some ⟨B, 0, none⟩)] #[]) ∧ Below w.heap.size w w' := by
  have hmf : ∀ (fn : Fn) (first cap : Array Value) (w : World), (Instr.makeFunc fn first cap).run Try.prog w = .ok (.func fn first cap) w := fun _ _ _ _ => rfl
  have hR := boxM w (.bool false) (.bool true) (.string t) 25
  have hB := hal w (.cells #[.bool false, .bool true, .string t] 25)
  go_enter Try.func17, Try.ntmps17
  go_upto_region 1 with fail
  generalize w.alloc _ = W at *
  go_wp2
  go_ret
  exact ⟨rfl, hB⟩
theorem taking_text (F : Nat) (h : FHost) (t : ByteArray) {B : Nat} (w : World) (hX : HostT w B h t) (hH : ∀ w, HostT w B h t → Calls Try.prog 40 #[.pointer (some ⟨B, 0, none⟩)] w fun e w' => e = .returned (.func (.func F) #[.pointer (some ⟨B, 0, none⟩)] #[]) ∧ w' = w) : Calls Try.prog 17 #[.pointer (some ⟨B, 0, none⟩), .agg #[.bool false, .bool false, .string t]] w fun e w' => e = .returned (.func (.func F) #[.pointer (some ⟨B, 0, none⟩)] #[]) ∧ Below w.heap.size w w' := by
  have hR := boxM w (.bool false) (.bool false) (.string t) 25
  have hB := hal w (.cells #[.bool false, .bool false, .string t] 25)
  replace hX := tkrB hX hB
  have HH := hide hH
  clear hH
  go_enter Try.func17, Try.ntmps17
  go_upto_region 1 with fail
  generalize w.alloc _ = W at *
  go_wp2_with (go_at_call 40; refine (HH.out _ hX).mono ?_; rintro e w2 ⟨rfl, rfl⟩)
  go_ret
  exact ⟨rfl, hB⟩
theorem tkrM (w : World) (x0 x1 x2 x3 x4 x5 x6 t : Value) (e : TypeId) : Tkr (w.alloc (.cells #[x0, x1, x2, x3, x4, x5, x6, t] e)) w.heap.size x0 x1 x2 x3 x4 x5 x6 t := by
  have o : ∀ j, (w.alloc (.cells #[x0, x1, x2, x3, x4, x5, x6, t] e)).cell? ⟨w.heap.size, j, none⟩ = #[x0, x1, x2, x3, x4, x5, x6, t][j]? := fun j => World.cell?_alloc_at _ e _ _ rfl
  exact ⟨⟨by simp, o 0, o 1, o 2, o 3, o 4, o 5, o 6, fun i => World.frozen?_alloc_at _ e _ i rfl⟩, o 7⟩
theorem sevRU {n : Nat} {w w' : World} {B : Nat} {x0 x1 x2 x3 x4 x5 x6 : Value} (h : SevR w B x0 x1 x2 x3 x4 x5 x6) (hb : Below n w w') (hn : B < n) : SevR w' B x0 x1 x2 x3 x4 x5 x6 := by
  obtain ⟨h, h0, h1, h2, h3, h4, h5, h6, h7⟩ := h
  have o : ∀ j, w'.cell? ⟨B, j, none⟩ = w.cell? ⟨B, j, none⟩ := fun j => hb.cell (p := ⟨B, j, none⟩) hn
  exact ⟨Nat.lt_of_lt_of_le h hb.size, by rw [o]; exact h0, by rw [o]; exact h1, by rw [o]; exact h2, by rw [o]; exact h3, by rw [o]; exact h4, by rw [o]; exact h5, by rw [o]; exact h6, fun i => by rw [hb.frozen (p := ⟨B, i, none⟩) hn]; exact h7 i⟩
set_option maxRecDepth 100000 in
set_option maxHeartbeats 8000000 in
theorem take_run (F : Nat) (X h : FHost) (lo st : Bool) (t : ByteArray) (w : World) (g : okH h = true) (hX1 : X.im.size ≤ 281474976710656) (hX2 : X.rd.size ≤ 281474976710656)
    (hN : ∀ (args : Array Value) (w : World), (callFunc F args).run Try.prog w = .ok (.enter F args) w)
    (hT : ∀ w B, HostT w B h t → Calls Try.prog 17 #[.pointer (some ⟨B, 0, none⟩), .agg #[.bool lo, .bool st, .string t]] w fun e w' => e = .returned (.func (.func F) #[.pointer (some ⟨B, 0, none⟩)] #[]) ∧ Below w.heap.size w w')
    (hF : ∀ w B base, HostT w B h t → base ≤ B → Calls Try.prog F #[.pointer (some ⟨B, 0, none⟩)] w (Gone B base w X t)) :
    Calls Try.prog 9 #[.agg #[.int .i64 h.ph, .string h.im, .int .i64 h.bl, .bool h.ag, .int .i64 h.tr, .string h.rd, .int .i64 h.rp], .agg #[.bool lo, .bool st, .string t]] w (Taken w X 0) := by
  obtain ⟨k1, k0, k7⟩ := ok_parts.1 g
  unfold mayH at k1
  have HM := hide (fun w => hmay_any h.ph h.im h.bl h.ag h.tr h.rd h.rp w)
  rw [k1] at HM
  have HN := hide hN
  have HT := hide hT
  have HF := hide hF
  have HH := hide (fun w => hfresh_any X w hX1 hX2)
  clear hN hT hF hX1 hX2 k1 g
  obtain ⟨ph, im, bl, ag, tr, rd, rp⟩ := h
  obtain ⟨y0, y1, y2, y3, y4, y5, y6⟩ := X
  dsimp only at *
  obtain ⟨W, hW, hX, hY, hR, hB⟩ := take_boxes w (.int .i64 ph) (.string im) (.int .i64 bl) (.bool ag) (.int .i64 tr) (.string rd) (.int .i64 rp) (.bool lo) (.bool st) (.string t)
  have q0 : (ph == 0) = false := by rw [beq_eq_false_iff_ne]; exact k0
  have q7 : (ph == 7) = false := by rw [beq_eq_false_iff_ne]; exact k7
  clear k0 k7
  subst hW
  unfold Taken
  go_enter Try.func9, Try.ntmps9
  go_upto_region 1 with fail
  generalize ((w.alloc _).alloc _).alloc _ = W at *
  go_upto_region 4 with (go_at_call 16; refine (HM.out _).mono ?_; rintro e w1 ⟨rfl, hb⟩; replace hB := thenB hB hb; replace hX := sevB hX hb; replace hY := boxB hY hb; replace hR := sevRB hR hb; clear hb)
  have hT8 := tkrM w1 (.int .i64 ph) (.string im) (.int .i64 bl) (.bool ag) (.int .i64 tr) (.string rd) (.int .i64 rp) (.string t) 50
  have hn := hal w1 (.cells #[.int .i64 ph, .string im, .int .i64 bl, .bool ag, .int .i64 tr, .string rd, .int .i64 rp, .string t] 50)
  have hlt := hR.1
  have hG := hB.size
  replace hB := thenB hB hn
  replace hR := sevRB hR hn
  replace hY := boxB hY hn
  clear hX hn q0 q7
  generalize w1.alloc _ = W1 at *
  generalize w1.heap.size = G at *
  go_upto_region 5 with (first | (go_at_call 17; refine (HT.out _ _ hT8).mono ?_; rintro e w2 ⟨rfl, hb⟩; replace hT8 := tkrB hT8 hb; replace hR := sevRB hR hb; replace hB := thenB hB hb; clear hb) | (rw [HN.out, Oper.upon_enter]; refine (HF.out _ _ G hT8 (Nat.le_refl _)).mono ?_; rintro e w3 ⟨rfl, hX3, hb3⟩; replace hR := sevRU hR hb3 hlt; replace hB := hB.trans (hb3.mono hG); clear hb3))
  go_wp2_with (go_at_call 18; refine (HH.out _).mono ?_; rintro e w4 ⟨rfl, hb⟩; replace hR := sevRB hR hb; replace hB := thenB hB hb; clear hb)
  exact bodyPost_ret (v := .tuple #[.agg #[.int .i64 y0, .string y1, .int .i64 y2, .bool y3, .int .i64 y4, .string y5, .int .i64 y6], .int .i64 0]) (by simp [results, Try.results9, go_sem, hR]) rfl ⟨rfl, set7 hB (by omega)⟩
set_option maxRecDepth 100000 in
set_option maxHeartbeats 8000000 in
theorem take_none (h : FHost) (lo st : Bool) (t : ByteArray) (w : World) (g : okH h = false) : Calls Try.prog 9 #[.agg #[.int .i64 h.ph, .string h.im, .int .i64 h.bl, .bool h.ag, .int .i64 h.tr, .string h.rd, .int .i64 h.rp], .agg #[.bool lo, .bool st, .string t]] w (Taken w zeroH 2300) := by
  have hw : mayH h = false ∨ mayH h = true ∧ (h.ph == 0) = true ∨ mayH h = true ∧ (h.ph == 0) = false ∧ (h.ph == 7) = true := by
    cases hm : mayH h with
    | false => exact .inl rfl
    | true =>
      by_cases h0 : h.ph = 0
      · exact .inr (.inl ⟨rfl, by rw [h0]; rfl⟩)
      · by_cases h7 : h.ph = 7
        · exact .inr (.inr ⟨rfl, by rw [beq_eq_false_iff_ne]; exact h0, by rw [h7]; rfl⟩)
        · rw [ok_parts.2 ⟨hm, h0, h7⟩] at g
          cases g
  unfold mayH at hw
  have HM := hide (fun w => hmay_any h.ph h.im h.bl h.ag h.tr h.rd h.rp w)
  clear g
  obtain ⟨ph, im, bl, ag, tr, rd, rp⟩ := h
  dsimp only at *
  generalize hostB ph im bl tr rd rp = M at *
  obtain ⟨W, hW, hX, hY, hR, hB⟩ := take_boxes w (.int .i64 ph) (.string im) (.int .i64 bl) (.bool ag) (.int .i64 tr) (.string rd) (.int .i64 rp) (.bool lo) (.bool st) (.string t)
  unfold Taken
  rcases hw with rfl | ⟨rfl, h0⟩ | ⟨rfl, h0, h7⟩
  all_goals
    subst hW
    go_enter Try.func9, Try.ntmps9
    go_upto_region 1 with fail
    generalize ((w.alloc _).alloc _).alloc _ = W at *
    go_wp2_with (go_at_call 16; refine (HM.out _).mono ?_; rintro e w1 ⟨rfl, hb⟩; replace hB := thenB hB hb; replace hX := sevB hX hb; replace hY := boxB hY hb; replace hR := sevRB hR hb; clear hb)
    exact bodyPost_ret (v := .tuple #[.agg #[.int .i64 0, .string ⟨#[]⟩, .int .i64 0, .bool false, .int .i64 0, .string ⟨#[]⟩, .int .i64 0], .int .i64 2300]) (by simp [results, Try.results9, go_sem, hR]) rfl ⟨rfl, set7 hB (by omega)⟩
theorem enterLose (args : Array Value) (w : World) : (callFunc 38 args).run Try.prog w = .ok (.enter 38 args) w := by kernel_rfl
theorem enterAnew (args : Array Value) (w : World) : (callFunc 39 args).run Try.prog w = .ok (.enter 39 args) w := by kernel_rfl
theorem enterC (args : Array Value) (w : World) : (callFunc 55 args).run Try.prog w = .ok (.enter 55 args) w := by kernel_rfl
theorem enterS (args : Array Value) (w : World) : (callFunc 56 args).run Try.prog w = .ok (.enter 56 args) w := by kernel_rfl
theorem enterE (args : Array Value) (w : World) : (callFunc 57 args).run Try.prog w = .ok (.enter 57 args) w := by kernel_rfl
theorem enterG (args : Array Value) (w : World) : (callFunc 58 args).run Try.prog w = .ok (.enter 58 args) w := by kernel_rfl
theorem enterA (args : Array Value) (w : World) : (callFunc 59 args).run Try.prog w = .ok (.enter 59 args) w := by kernel_rfl
theorem kept_sizes {h x : FHost} (k : Kept h x) : x.im.size ≤ 281474976710656 ∧ x.rd.size ≤ 281474976710656 := by
  have k := k.may
  unfold mayH at k
  obtain ⟨_, _, _, _, a5, _, _, _, _, _, a11⟩ := host_parts.1 k
  exact ⟨by omega, by omega⟩
/-- Bytes that came: what takes them, and what it makes. -/
theorem take_text (F : Nat) (X h : FHost) (t : ByteArray) (w : World) (g : okH h = true) (e : goH h t = X)
    (hN : ∀ (args : Array Value) (w : World), (callFunc F args).run Try.prog w = .ok (.enter F args) w)
    (hH : ∀ w B, HostT w B h t → Calls Try.prog 40 #[.pointer (some ⟨B, 0, none⟩)] w fun e w' => e = .returned (.func (.func F) #[.pointer (some ⟨B, 0, none⟩)] #[]) ∧ w' = w)
    (hF : ∀ w B base, HostT w B h t → base ≤ B → Calls Try.prog F #[.pointer (some ⟨B, 0, none⟩)] w (Gone B base w X t)) :
    Calls Try.prog 9 #[.agg #[.int .i64 h.ph, .string h.im, .int .i64 h.bl, .bool h.ag, .int .i64 h.tr, .string h.rd, .int .i64 h.rp], .agg #[.bool false, .bool false, .string t]] w (Taken w (goH h t) 0) := by
  subst e
  obtain ⟨s1, s2⟩ := kept_sizes (kept_go g t)
  exact take_run F (goH h t) h false false t w g s1 s2 hN (fun w B hX => taking_text F h t w hX (fun w hX => hH w B hX)) hF
theorem go_1t {h : FHost} {t : ByteArray} (hp : h.ph = 1) (ha : h.ag = true) : goH h t = ⟨if h.rd = bangS then 5 else h.ph, h.im, 0, false, h.tr, ⟨#[]⟩, h.rp⟩ := by
  unfold goH clearedH
  rw [if_pos hp, if_pos ha, hp]
theorem go_1f {h : FHost} {t : ByteArray} (hp : h.ph = 1) (ha : h.ag = false) : goH h t = ansH h t := by
  unfold goH clearedH ansH learnH lookH
  rw [if_pos hp, if_neg (by rw [ha]; decide), if_pos hp, hp]
theorem go_3 {h : FHost} {t : ByteArray} (hp : h.ph = 3) : goH h t = ansH h t := by
  unfold goH polledH ansH learnH pollH
  rw [if_neg (show ¬ h.ph = 1 by omega), if_neg (show ¬ h.ph = 2 by omega), if_pos hp, if_neg (show ¬ h.ph = 1 by omega), if_pos hp]
theorem go_5 {h : FHost} {t : ByteArray} (hp : h.ph = 5) : goH h t = ansH h t := by
  unfold goH waitedH ansH learnH waitH
  rw [if_neg (show ¬ h.ph = 1 by omega), if_neg (show ¬ h.ph = 2 by omega), if_neg (show ¬ h.ph = 3 by omega), if_neg (show ¬ h.ph = 4 by omega), if_pos hp, if_neg (show ¬ h.ph = 1 by omega), if_neg (show ¬ h.ph = 3 by omega)]
theorem take_go (h : FHost) (t : ByteArray) (w : World) (g : okH h = true) (hz : t.size ≤ 140737488355328) : Calls Try.prog 9 #[.agg #[.int .i64 h.ph, .string h.im, .int .i64 h.bl, .bool h.ag, .int .i64 h.tr, .string h.rd, .int .i64 h.rp], .agg #[.bool false, .bool false, .string t]] w (Taken w (goH h t) 0) := by
  obtain ⟨⟨p1, p6⟩, -, ⟨-, hi⟩, ⟨hb0, hb1⟩, ⟨ht, -⟩, hr, -, hn9⟩ := ok_nums g
  have hp : h.ph = 1 ∨ h.ph = 2 ∨ h.ph = 3 ∨ h.ph = 4 ∨ h.ph = 5 ∨ h.ph = 6 := by omega
  rcases hp with hp | hp | hp | hp | hp | hp
  · cases ha : h.ag with
    | true =>
      have r := take_text _ _ h t w g (go_1t hp ha) enterC (fun w B hX => hearing_any _ h t w hX (.inl ⟨hp, ha, rfl⟩)) (fun w B base hX hb => cleared_any h t w hX hb)
      rw [ha] at r
      exact r
    | false =>
      have r := take_text _ _ h t w g (go_1f hp ha) enterA (fun w B hX => hearing_any _ h t w hX (.inr (.inr (.inr (.inr (.inl ⟨hp, ha, rfl⟩)))))) (fun w B base hX hb => answered_any h t w hX hb g (.inl hp))
      rw [ha] at r
      exact r
  · exact take_text _ _ h t w g (show goH h t = toH h 3 h.bl false by unfold goH; rw [if_neg (by omega), if_pos hp]) enterS (fun w B hX => hearing_any _ h t w hX (.inr (.inl ⟨hp, rfl⟩))) (fun w B base hX hb => sent_any h t w hX hb)
  · exact take_text _ _ h t w g (go_3 hp) enterA (fun w B hX => hearing_any _ h t w hX (.inr (.inr (.inr (.inr (.inr (.inl ⟨hp, rfl⟩))))))) (fun w B base hX hb => answered_any h t w hX hb g (.inr (.inl hp)))
  · exact take_text _ _ h t w g (show goH h t = toH h 5 h.bl false by unfold goH; rw [if_neg (by omega), if_neg (by omega), if_neg (by omega), if_pos hp]) enterE (fun w B hX => hearing_any _ h t w hX (.inr (.inr (.inl ⟨hp, rfl⟩)))) (fun w B base hX hb => ended_any h t w hX hb)
  · exact take_text _ _ h t w g (go_5 hp) enterA (fun w B hX => hearing_any _ h t w hX (.inr (.inr (.inr (.inr (.inr (.inr ⟨hp, rfl⟩))))))) (fun w B base hX hb => answered_any h t w hX hb g (.inr (.inr hp)))
  · exact take_text _ _ h t w g (show goH h t = readH h t by unfold goH; rw [if_neg (by omega), if_neg (by omega), if_neg (by omega), if_neg (by omega), if_neg (by omega)]) enterG (fun w B hX => hearing_any _ h t w hX (.inr (.inr (.inr (.inl ⟨hp, rfl⟩))))) (fun w B base hX hb => given_any h t w hX hb hi hb0 hb1 hn9 ht hr hz)
theorem take_any (h : FHost) (lo st : Bool) (t : ByteArray) (w : World) (hz : t.size ≤ 140737488355328) : Calls Try.prog 9 #[.agg #[.int .i64 h.ph, .string h.im, .int .i64 h.bl, .bool h.ag, .int .i64 h.tr, .string h.rd, .int .i64 h.rp], .agg #[.bool lo, .bool st, .string t]] w (Taken w (takeH h lo st t) (errR (okH h))) := by
  cases g : okH h with
  | false =>
    rw [take_no lo st t g]
    exact take_none h lo st t w g
  | true =>
    have k := kept_take g lo st t
    rw [take_ok lo st t g] at k ⊢
    obtain ⟨-, -, -, -, ⟨ht, -⟩, -⟩ := ok_nums g
    obtain ⟨s1, s2⟩ := kept_sizes k
    cases lo with
    | true => exact take_run _ (lostH h) h true st t w g s1 s2 enterLose (fun w B hX => taking_lost h st t w hX) (fun w B base hX hb => lose_any h t w hX hb ht)
    | false => cases st with
      | true => exact take_run _ (anewH h) h false true t w g s1 s2 enterAnew (fun w B hX => taking_stall h t w hX) (fun w B base hX hb => anew_any h t w hX hb ht)
      | false => exact take_go h t w g hz
end Go.Proofs.Ytgkmallikomnaaa.RepWalk
