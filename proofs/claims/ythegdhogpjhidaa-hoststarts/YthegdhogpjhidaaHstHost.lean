/- The contracts of package host's own three: what a host begins with, what it asks; of what was there nothing has turned. -/
import Derived.Test.YthegdhogpjhidaaHstAsk
namespace Go.Proofs.Ythegdhogpjhidaa.HstHost
open Go.Proofs.Ythegdhogpjhidaa Go.RowKit Go.Proofs.Ythegdhogpjhidaa.Bytes Go.Proofs.Ythegdhogpjhidaa.NorWalk Go.Proofs.Ythegdhogpjhidaa.Suf Go.Proofs.Ythegdhogpjhidaa.Idt Go.Proofs.Ythegdhogpjhidaa.Sup Go.Proofs.Ythegdhogpjhidaa.Hst Go.Proofs.Ythegdhogpjhidaa.HstWalk Go.Proofs.Ythegdhogpjhidaa.HstAsk
open Go.Proofs.Ythegdhogpjhidaa.SetWalk (resM resB set3 sput_any)
open Go.Proofs.Ythegdhogpjhidaa.OpsRow (boxM boxB boxD thenD)
open Go.Proofs.Ythegdhogpjhidaa.SufWalk (parse_any)
open Go.Proofs.Ythegdhogpjhidaa.IdtWalk (match_any imay_any)
open Go.Proofs.Ythegdhogpjhidaa.Blo (nP pieceS)
attribute [local go_sem ↓] Go.wp_at_zero Go.wp_at_succ

/-- The ways of a host that asks: its phase and so on; which of the five asks. -/
theorem asking_run (F : Nat) (ph : Int) (im : ByteArray) (bl : Int) (ag : Bool) (tr : Int) (rd : ByteArray) (rp : Int) (w : World) (h : (ph = 1 ∧ ag = true ∧ F = 44) ∨ (ph = 2 ∧ F = 45) ∨ (ph = 4 ∧ F = 46) ∨ (ph = 6 ∧ F = 47) ∨ (ph = 1 ∧ ag = false ∧ F = 48) ∨ (ph = 3 ∧ F = 48) ∨ (ph = 5 ∧ F = 48)) : Calls Try.prog 26 #[.agg #[.int .i64 ph, .string im, .int .i64 bl, .bool ag, .int .i64 tr, .string rd, .int .i64 rp]] w fun e w' => e = .returned (.func (.func F) #[.agg #[.int .i64 ph, .string im, .int .i64 bl, .bool ag, .int .i64 tr, .string rd, .int .i64 rp]] #[]) ∧ Below w.heap.size w w' := by
  have hmf : ∀ (fn : Fn) (first cap : Array Value) (w : World), (Instr.makeFunc fn first cap).run Try.prog w = .ok (.func fn first cap) w := fun _ _ _ _ => rfl
  have hX := sevM w (.int .i64 ph) (.string im) (.int .i64 bl) (.bool ag) (.int .i64 tr) (.string rd) (.int .i64 rp) 63
  have hB := hal w (.cells #[.int .i64 ph, .string im, .int .i64 bl, .bool ag, .int .i64 tr, .string rd, .int .i64 rp] 63)
  rcases h with ⟨rfl, rfl, rfl⟩ | ⟨rfl, rfl⟩ | ⟨rfl, rfl⟩ | ⟨rfl, rfl⟩ | ⟨rfl, rfl, rfl⟩ | ⟨rfl, rfl⟩ | ⟨rfl, rfl⟩
  all_goals
    go_enter Try.func26, Try.ntmps26
    go_upto_region 1 with fail
    generalize w.alloc _ = W at *
    go_wp2
    go_ret
    exact ⟨rfl, hB⟩
set_option maxRecDepth 100000 in
theorem enterC (args : Array Value) (w : World) : (callFunc 44 args).run Try.prog w = .ok (.enter 44 args) w := by kernel_rfl
theorem enterS (args : Array Value) (w : World) : (callFunc 45 args).run Try.prog w = .ok (.enter 45 args) w := by kernel_rfl
theorem enterE (args : Array Value) (w : World) : (callFunc 46 args).run Try.prog w = .ok (.enter 46 args) w := by kernel_rfl
theorem enterR (args : Array Value) (w : World) : (callFunc 47 args).run Try.prog w = .ok (.enter 47 args) w := by kernel_rfl
theorem enterP (args : Array Value) (w : World) : (callFunc 48 args).run Try.prog w = .ok (.enter 48 args) w := by kernel_rfl
set_option maxRecDepth 100000 in
set_option maxHeartbeats 4000000 in
theorem asks_run (F : Nat) (c v n : Int) (s : ByteArray) (ph : Int) (im : ByteArray) (bl : Int) (ag : Bool) (tr : Int) (rd : ByteArray) (rp : Int) (w : World) (hok : hostB ph im bl tr rd rp = true) (hr : restB ph = false) (hS : supB c v n = true)
    (hN : ∀ (args : Array Value) (w : World), (callFunc F args).run Try.prog w = .ok (.enter F args) w)
    (hA : ∀ w, Calls Try.prog 26 #[.agg #[.int .i64 ph, .string im, .int .i64 bl, .bool ag, .int .i64 tr, .string rd, .int .i64 rp]] w fun e w' => e = .returned (.func (.func F) #[.agg #[.int .i64 ph, .string im, .int .i64 bl, .bool ag, .int .i64 tr, .string rd, .int .i64 rp]] #[]) ∧ Below w.heap.size w w')
    (hF : ∀ w, Calls Try.prog F #[.agg #[.int .i64 ph, .string im, .int .i64 bl, .bool ag, .int .i64 tr, .string rd, .int .i64 rp]] w (Req w c v n s)) :
    Calls Try.prog 10 #[.agg #[.int .i64 ph, .string im, .int .i64 bl, .bool ag, .int .i64 tr, .string rd, .int .i64 rp]] w fun e w' => e = .returned (.tuple #[.string (supS c v n), .string s, .int .i64 0]) ∧ Below w.heap.size w w' := by
  have hX := sevM w (.int .i64 ph) (.string im) (.int .i64 bl) (.bool ag) (.int .i64 tr) (.string rd) (.int .i64 rp) 23
  have hB := hal w (.cells #[.int .i64 ph, .string im, .int .i64 bl, .bool ag, .int .i64 tr, .string rd, .int .i64 rp] 23)
  have HM := hide (fun w => hmay_any ph im bl ag tr rd rp w)
  have HI := hide (fun w => idle_any ph w)
  have HP := hide (fun w => sput_any c v n w)
  rw [hok] at HM
  rw [hr] at HI
  rw [hS] at HP
  have hE0 : errU true = 0 := rfl
  rw [hE0] at HP
  have HN := hide hN
  have HA := hide hA
  have HF := hide hF
  unfold Req at HF
  generalize supS c v n = U at *
  clear hok hr hS hN hA hF hE0
  go_enter Try.func10, Try.ntmps10
  go_upto_region 1 with fail
  generalize w.alloc _ = W at *
  go_upto_region 3 with (first | (go_at_call 13; refine (HM.out _).mono ?_; rintro e w' ⟨rfl, hb⟩; replace hB := thenB hB hb; replace hX := sevB hX hb; clear hb) | (go_at_call 25; refine (HI.out _).mono ?_; rintro e w' ⟨rfl, rfl⟩))
  go_wp2_with (first | (go_at_call 26; refine (HA.out _).mono ?_; rintro e w1 ⟨rfl, hb⟩; replace hB := thenB hB hb; replace hX := sevB hX hb; clear hb) | (rw [HN.out, Oper.upon_enter]; refine (HF.out _).mono ?_; rintro e w2 ⟨rfl, hb⟩; replace hB := thenB (thenB hB hb) (hal w2 (.cells #[.int .i64 c, .int .i64 v, .int .i64 n] 48)); have hY := boxM w2 (.int .i64 c) (.int .i64 v) (.int .i64 n) 48; clear hb) | (go_at_call 27; refine (HP.out _).mono ?_; rintro e w3 ⟨rfl, hb⟩; replace hB := thenB hB hb; clear hb))
  exact bodyPost_ret (v := .tuple #[.string U, .string s, .int .i64 0]) (by simp [results, Try.results10, go_sem]) rfl ⟨rfl, hB⟩
set_option maxRecDepth 100000 in
theorem asks_no (ph : Int) (im : ByteArray) (bl : Int) (ag : Bool) (tr : Int) (rd : ByteArray) (rp : Int) (w : World) (h : askB ph im bl tr rd rp = false) : Calls Try.prog 10 #[.agg #[.int .i64 ph, .string im, .int .i64 bl, .bool ag, .int .i64 tr, .string rd, .int .i64 rp]] w fun e w' => e = .returned (.tuple #[.string ⟨#[]⟩, .string ⟨#[]⟩, .int .i64 2200]) ∧ Below w.heap.size w w' := by
  have hX := sevM w (.int .i64 ph) (.string im) (.int .i64 bl) (.bool ag) (.int .i64 tr) (.string rd) (.int .i64 rp) 23
  have hB := hal w (.cells #[.int .i64 ph, .string im, .int .i64 bl, .bool ag, .int .i64 tr, .string rd, .int .i64 rp] 23)
  have HM := hide (fun w => hmay_any ph im bl ag tr rd rp w)
  have HI := hide (fun w => idle_any ph w)
  unfold askB at h
  generalize hostB ph im bl tr rd rp = M at *
  generalize restB ph = I at *
  cases M <;> cases I
  · clear h
    go_enter Try.func10, Try.ntmps10
    go_wp2_with (first | (go_at_call 13; refine (HM.out _).mono ?_; rintro e w' ⟨rfl, hb⟩; replace hB := thenB hB hb; replace hX := sevB hX hb; clear hb) | (go_at_call 25; refine (HI.out _).mono ?_; rintro e w' ⟨rfl, rfl⟩))
    exact bodyPost_ret (v := .tuple #[.string ⟨#[]⟩, .string ⟨#[]⟩, .int .i64 2200]) (by simp [results, Try.results10, go_sem]) rfl ⟨rfl, hB⟩
  · clear h
    go_enter Try.func10, Try.ntmps10
    go_wp2_with (first | (go_at_call 13; refine (HM.out _).mono ?_; rintro e w' ⟨rfl, hb⟩; replace hB := thenB hB hb; replace hX := sevB hX hb; clear hb) | (go_at_call 25; refine (HI.out _).mono ?_; rintro e w' ⟨rfl, rfl⟩))
    exact bodyPost_ret (v := .tuple #[.string ⟨#[]⟩, .string ⟨#[]⟩, .int .i64 2200]) (by simp [results, Try.results10, go_sem]) rfl ⟨rfl, hB⟩
  · exact absurd h (by decide)
  · clear h
    go_enter Try.func10, Try.ntmps10
    go_wp2_with (first | (go_at_call 13; refine (HM.out _).mono ?_; rintro e w' ⟨rfl, hb⟩; replace hB := thenB hB hb; replace hX := sevB hX hb; clear hb) | (go_at_call 25; refine (HI.out _).mono ?_; rintro e w' ⟨rfl, rfl⟩))
    exact bodyPost_ret (v := .tuple #[.string ⟨#[]⟩, .string ⟨#[]⟩, .int .i64 2200]) (by simp [results, Try.results10, go_sem]) rfl ⟨rfl, hB⟩
theorem asks_any (ph : Int) (im : ByteArray) (bl : Int) (ag : Bool) (tr : Int) (rd : ByteArray) (rp : Int) (w : World) : Calls Try.prog 10 #[.agg #[.int .i64 ph, .string im, .int .i64 bl, .bool ag, .int .i64 tr, .string rd, .int .i64 rp]] w fun e w' => e = .returned (.tuple #[.string (askS ph im bl ag tr rd rp), .string (askD ph im bl tr rd rp), .int .i64 (errH (askB ph im bl tr rd rp))]) ∧ Below w.heap.size w w' := by
  cases h : askB ph im bl tr rd rp with
  | false =>
    obtain ⟨e1, e2⟩ := ask_no ag h
    rw [e1, e2]
    exact asks_no ph im bl ag tr rd rp w h
  | true =>
    have hf := ask_few ag h
    obtain ⟨k1, k0, k7⟩ := ask_parts.1 h
    have hr : restB ph = false := decide_eq_false (by omega)
    obtain ⟨j, rfl, hj, h9, hz, hz2, hw⟩ := ask_ways ag h
    obtain ⟨e1, e2⟩ := ask_yes ag h
    rw [e1] at hw
    rw [e1]
    rcases hw with ⟨rfl, rfl, c1, c2⟩ | ⟨rfl, rfl, rfl, c1, c2⟩ | ⟨rfl, rfl, hne, c1, c2⟩ | ⟨rfl, c1, c2⟩ | ⟨hp, c1, c2⟩ | ⟨rfl, c1, c2⟩ | ⟨rfl, c1, c2⟩
    · rw [c2]
      exact asks_run _ _ _ _ _ 1 im j false tr rd rp w k1 hr hf enterP (fun w => asking_run _ 1 im j false tr rd rp w (.inr (.inr (.inr (.inr (.inl ⟨rfl, rfl, rfl⟩)))))) (fun w => polling_any 1 im j false tr rd rp w)
    · rw [c2]
      exact asks_run _ _ _ _ _ 1 im _ true tr rd rp w k1 hr hf enterC (fun w => asking_run _ 1 im _ true tr rd rp w (.inl ⟨rfl, rfl, rfl⟩)) (fun w => clearing_any 1 im _ true tr rd rp w)
    · rw [c2]
      exact asks_run _ _ _ _ _ 1 im j true tr rd rp w k1 hr hf enterC (fun w => asking_run _ 1 im j true tr rd rp w (.inl ⟨rfl, rfl, rfl⟩)) (fun w => clearing_any 1 im j true tr rd rp w)
    · rw [c2]
      have e3 : reqN 2 im (j : Int) ag = ((pieceS im j).size : Int) := by
        show ((pieceS im ((j : Int)).toNat).size : Int) = _
        rw [Int.toNat_natCast]
      rw [e3] at hf ⊢
      exact asks_run _ _ _ _ _ 2 im j ag tr rd rp w k1 hr hf enterS (fun w => asking_run _ 2 im j ag tr rd rp w (.inr (.inl ⟨rfl, rfl⟩))) (fun w => sending_any 2 im j ag tr rd rp w hz2 hj)
    · rw [c2]
      rcases hp with rfl | rfl
      · exact asks_run _ _ _ _ _ 3 im j ag tr rd rp w k1 hr hf enterP (fun w => asking_run _ 3 im j ag tr rd rp w (.inr (.inr (.inr (.inr (.inr (.inl ⟨rfl, rfl⟩))))))) (fun w => polling_any 3 im j ag tr rd rp w)
      · exact asks_run _ _ _ _ _ 5 im j ag tr rd rp w k1 hr hf enterP (fun w => asking_run _ 5 im j ag tr rd rp w (.inr (.inr (.inr (.inr (.inr (.inr ⟨rfl, rfl⟩))))))) (fun w => polling_any 5 im j ag tr rd rp w)
    · rw [c2]
      exact asks_run _ _ _ _ _ 4 im j ag tr rd rp w k1 hr hf enterE (fun w => asking_run _ 4 im j ag tr rd rp w (.inr (.inr (.inl ⟨rfl, rfl⟩)))) (fun w => ending_any 4 im j ag tr rd rp w)
    · rw [c2]
      exact asks_run _ _ _ _ _ 6 im j ag tr rd rp w k1 hr hf enterR (fun w => asking_run _ 6 im j ag tr rd rp w (.inr (.inr (.inr (.inl ⟨rfl, rfl⟩))))) (fun w => reading_any 6 im j ag tr rd rp w)
/-- The ways of a file that is looked at. -/
theorem to_ways (f : ByteArray) (v p r : Int) : (¬ errQ f = 0 ∧ toS f v p r = ⟨#[]⟩ ∧ toB f v p r = false) ∨ (errQ f = 0 ∧ mtB (parV f) (parP f) (parR f) v p r = false ∧ toS f v p r = ⟨#[]⟩ ∧ toB f v p r = false) ∨ (errQ f = 0 ∧ mtB (parV f) (parP f) (parR f) v p r = true ∧ errM (mtOk (parV f) (parP f) (parR f) v p r) = 0 ∧ toS f v p r = parI f ∧ toB f v p r = true) := by
  cases h1 : parB f with
  | false => exact .inl ⟨errQ_no h1, toS_f (to_no1 h1), to_no1 h1⟩
  | true => cases h2 : mtB (parV f) (parP f) (parR f) v p r with
    | false => exact .inr (.inl ⟨errQ_ok h1, rfl, toS_f (to_no2 h2), to_no2 h2⟩)
    | true =>
      have h3 := to_parts.2 ⟨h1, h2⟩
      exact .inr (.inr ⟨errQ_ok h1, rfl, by rw [mtB_ok2 h2]; rfl, toS_t h3, h3⟩)
set_option maxRecDepth 100000 in
set_option maxHeartbeats 4000000 in
theorem meant_any (f : ByteArray) (v p r : Int) (w : World) (hs : f.size < 9223372036854775808) : Calls Try.prog 24 #[.string f, .agg #[.int .i64 v, .int .i64 p, .int .i64 r]] w fun e w' => e = .returned (.tuple #[.string (toS f v p r), .bool (toB f v p r)]) ∧ Below w.heap.size w w' := by
  have hX := boxM w (.int .i64 v) (.int .i64 p) (.int .i64 r) 25
  have hB := hal w (.cells #[.int .i64 v, .int .i64 p, .int .i64 r] 25)
  have HP := hide (fun w => parse_any f w hs)
  have HM := hide (fun w => match_any (parV f) (parP f) (parR f) v p r w)
  have hw := to_ways f v p r
  clear hs
  generalize toS f v p r = T at *
  generalize toB f v p r = O at *
  generalize mtB (parV f) (parP f) (parR f) v p r = M at *
  generalize errM (mtOk (parV f) (parP f) (parR f) v p r) = E2 at *
  generalize parI f = I at *
  generalize parV f = V at *
  generalize parP f = Q at *
  generalize parR f = R at *
  generalize errQ f = E at *
  rcases hw with ⟨h1, rfl, rfl⟩ | ⟨rfl, rfl, rfl, rfl⟩ | ⟨rfl, rfl, rfl, rfl, rfl⟩
  all_goals
    go_enter Try.func24, Try.ntmps24
    go_upto_region 1 with fail
    generalize w.alloc _ = W at *
    go_upto_region 2 with (go_at_call 42; refine (HP.out _).mono ?_; rintro e w1 ⟨rfl, hb⟩; replace hB := thenB (thenB hB hb) (hal w1 (.cells #[.int .i64 V, .int .i64 Q, .int .i64 R] 25)); replace hX := boxB (boxB hX hb) (hal w1 (.cells #[.int .i64 V, .int .i64 Q, .int .i64 R] 25)); have hY := boxM w1 (.int .i64 V) (.int .i64 Q) (.int .i64 R) 25; clear hb)
    generalize w1.alloc _ = W1 at *
    go_wp2_with (go_at_call 43; refine (HM.out _).mono ?_; rintro e w2 ⟨rfl, hb⟩; replace hB := thenB hB hb; clear hb)
    go_ret2
    exact ⟨rfl, hB⟩
/-- A host and an error given. -/
def Begun (w : World) (p : Int) (s : ByteArray) (r k : Int) (e : Ending) (w' : World) : Prop := e = .returned (.tuple #[.agg #[.int .i64 p, .string s, .int .i64 0, .bool false, .int .i64 0, .string ⟨#[]⟩, .int .i64 r], .int .i64 k]) ∧ Below w.heap.size w w'
theorem set7 {B0 : Nat} {w w' : World} {B : Nat} {x0 x1 x2 x3 x4 x5 x6 : Value} (h : Below B0 w w') (hB : B0 ≤ B) : Below B0 w (((((((w'.setCell ⟨B, 0, none⟩ x0).setCell ⟨B, 1, none⟩ x1).setCell ⟨B, 2, none⟩ x2).setCell ⟨B, 3, none⟩ x3).setCell ⟨B, 4, none⟩ x4).setCell ⟨B, 5, none⟩ x5).setCell ⟨B, 6, none⟩ x6) :=
  ((((((h.setCell (p := ⟨B, 0, none⟩) hB _).setCell (p := ⟨B, 1, none⟩) hB _).setCell (p := ⟨B, 2, none⟩) hB _).setCell (p := ⟨B, 3, none⟩) hB _).setCell (p := ⟨B, 4, none⟩) hB _).setCell (p := ⟨B, 5, none⟩) hB _).setCell (p := ⟨B, 6, none⟩) hB _
/-- What is asked: a request, what goes with it, an error. -/
def Asked (w : World) (U s : ByteArray) (k : Int) (e : Ending) (w' : World) : Prop := e = .returned (.tuple #[.string U, .string s, .int .i64 k]) ∧ Below w.heap.size w w'
/-- The boxes at a beginning: whom for, the host that is given. -/
theorem start_boxes (w : World) (v p r : Value) : ∃ W, (w.alloc (.cells #[v, p, r] 25)).alloc (.cells #[.int .i64 0, .string ⟨#[]⟩, .int .i64 0, .bool false, .int .i64 0, .string ⟨#[]⟩, .int .i64 0] 23) = W ∧ (w.heap.size < W.heap.size ∧ W.cell? ⟨w.heap.size, 0, none⟩ = some v ∧ W.cell? ⟨w.heap.size, 1, none⟩ = some p ∧ W.cell? ⟨w.heap.size, 2, none⟩ = some r) ∧ SevR W (w.heap.size + 1) (.int .i64 0) (.string ⟨#[]⟩) (.int .i64 0) (.bool false) (.int .i64 0) (.string ⟨#[]⟩) (.int .i64 0) ∧ Below w.heap.size w W := by
  refine ⟨_, rfl, ?_⟩
  have h1 := boxM w v p r 25
  have n1 := hal w (.cells #[v, p, r] 25)
  have s1 : (w.alloc (.cells #[v, p, r] 25)).heap.size = w.heap.size + 1 := by simp
  generalize w.alloc (.cells #[v, p, r] 25) = W1 at *
  have h2 := sevRM W1 (.int .i64 0) (.string ⟨#[]⟩) (.int .i64 0) (.bool false) (.int .i64 0) (.string ⟨#[]⟩) (.int .i64 0) 23
  have n2 := hal W1 (.cells #[.int .i64 0, .string ⟨#[]⟩, .int .i64 0, .bool false, .int .i64 0, .string ⟨#[]⟩, .int .i64 0] 23)
  rw [s1] at h2
  exact ⟨boxB h1 n2, h2, thenB n1 n2⟩
set_option maxRecDepth 100000 in
set_option maxHeartbeats 4000000 in
theorem start_any (f : ByteArray) (v p r : Int) (w : World) (hs : f.size < 9223372036854775808) : Calls Try.prog 8 #[.string f, .agg #[.int .i64 v, .int .i64 p, .int .i64 r]] w (Begun w (stP f v p r) (stI f v p r) (stR f v p r) (errH (idsB v p r))) := by
  obtain ⟨W, hW, hX, hR, hB⟩ := start_boxes w (.int .i64 v) (.int .i64 p) (.int .i64 r)
  have b1 := build_h0
  have b2 := build_h7
  have b3 := build_h1
  have HM := hide (fun w => imay_any v p r w)
  have HT := hide (fun w => meant_any f v p r w hs)
  have hT : toB f v p r = true → toS f v p r = parI f := toS_t
  have hw := st_ways f v p r
  clear hs
  unfold Begun
  rcases hw with ⟨g1, h1, h2, h3, h4⟩ | ⟨g1, g2, h1, h2, h3, h4⟩ | ⟨g1, g2, h1, h2, h3, h4⟩
  · rw [h1, h2, h3, h4]
    rw [g1] at HM
    clear h1 h2 h3 h4 g1 hT HT
    subst hW
    go_enter Try.func8, Try.ntmps8
    go_upto_region 1 with fail
    generalize (w.alloc _).alloc _ = W at *
    go_wp2_with (go_at_call 23; refine (HM.out _).mono ?_; rintro e w1 ⟨rfl, hb⟩; replace hB := thenB hB hb; replace hX := boxB hX hb; replace hR := sevRB hR hb; clear hb)
    exact bodyPost_ret (v := .tuple #[.agg #[.int .i64 0, .string ⟨#[]⟩, .int .i64 0, .bool false, .int .i64 0, .string ⟨#[]⟩, .int .i64 0], .int .i64 2200]) (by simp [results, Try.results8, go_sem, hR]) rfl ⟨rfl, set7 hB (Nat.le_succ _)⟩
  · rw [h1, h2, h3, h4]
    rw [g1] at HM
    rw [g2] at HT
    clear h1 h2 h3 h4 g1 g2 hT
    generalize toS f v p r = T at *
    subst hW
    go_enter Try.func8, Try.ntmps8
    go_upto_region 1 with fail
    generalize (w.alloc _).alloc _ = W at *
    go_wp2_with (first | (go_at_call 23; refine (HM.out _).mono ?_; rintro e w1 ⟨rfl, hb⟩; replace hB := thenB hB hb; replace hX := boxB hX hb; replace hR := sevRB hR hb; clear hb) | (go_at_call 24; refine (HT.out _).mono ?_; rintro e w2 ⟨rfl, hb⟩; replace hB := thenB hB hb; replace hX := boxB hX hb; replace hR := sevRB hR hb; clear hb))
    exact bodyPost_ret (v := .tuple #[.agg #[.int .i64 7, .string ⟨#[]⟩, .int .i64 0, .bool false, .int .i64 0, .string ⟨#[]⟩, .int .i64 3], .int .i64 0]) (by simp [results, Try.results8, go_sem, hR]) rfl ⟨rfl, set7 hB (Nat.le_succ _)⟩
  · rw [h1, h2, h3, h4]
    rw [g1] at HM
    rw [g2, hT g2] at HT
    clear h1 h2 h3 h4 g1 g2 hT
    generalize parI f = T at *
    subst hW
    go_enter Try.func8, Try.ntmps8
    go_upto_region 1 with fail
    generalize (w.alloc _).alloc _ = W at *
    go_wp2_with (first | (go_at_call 23; refine (HM.out _).mono ?_; rintro e w1 ⟨rfl, hb⟩; replace hB := thenB hB hb; replace hX := boxB hX hb; replace hR := sevRB hR hb; clear hb) | (go_at_call 24; refine (HT.out _).mono ?_; rintro e w2 ⟨rfl, hb⟩; replace hB := thenB hB hb; replace hX := boxB hX hb; replace hR := sevRB hR hb; clear hb))
    exact bodyPost_ret (v := .tuple #[.agg #[.int .i64 1, .string T, .int .i64 0, .bool false, .int .i64 0, .string ⟨#[]⟩, .int .i64 0], .int .i64 0]) (by simp [results, Try.results8, go_sem, hR]) rfl ⟨rfl, set7 hB (Nat.le_succ _)⟩
end Go.Proofs.Ythegdhogpjhidaa.HstHost
