/- Reading back: what may be asked, what becomes of the device, which bytes it tells. No program is named here. -/
import Derived.Test.YtmlfkbkpkgaefaaGreatDoorBagDnl
import Derived.Test.YtmlfkbkpkgaefaaGreatDoorBagCho
import Derived.Test.YtmlfkbkpkgaefaaGreatDoorBagTim
import Derived.Test.YtmlfkbkpkgaefaaGreatDoorBagSet
namespace Go.Proofs.YtmlfkbkpkgaefaaGreatDoor.Upl
open Go.Proofs.YtmlfkbkpkgaefaaGreatDoor Go.Proofs.YtmlfkbkpkgaefaaGreatDoor.Bytes Go.Proofs.YtmlfkbkpkgaefaaGreatDoor.Nor Go.Proofs.YtmlfkbkpkgaefaaGreatDoor.Ent Go.Proofs.YtmlfkbkpkgaefaaGreatDoor.Ops Go.Proofs.YtmlfkbkpkgaefaaGreatDoor.Jou Go.Proofs.YtmlfkbkpkgaefaaGreatDoor.Act Go.Proofs.YtmlfkbkpkgaefaaGreatDoor.Cho Go.Proofs.YtmlfkbkpkgaefaaGreatDoor.Ans Go.Proofs.YtmlfkbkpkgaefaaGreatDoor.Dev Go.Proofs.YtmlfkbkpkgaefaaGreatDoor.Dnl Go.Proofs.YtmlfkbkpkgaefaaGreatDoor.Tic

/-- May this be asked? -/
def readsB (s : Int) : Bool := decide (s = 0 ∨ s = 6)
def askB (b n : Int) : Bool := upB b 65535 && upB n 32
def okU (f : ByteArray) (d : FDev) (b n : Int) : Bool := bothB f d && readsB d.sa && askB b n
def errV (ok : Bool) : Int := if ok then 0 else 2000
/-- The active image: none, no byte. -/
def actS (f : ByteArray) : ByteArray := imgS f (actV f).pq (actV f).pt (actV f).pz (actV f).pm
/-- The block that it waits for. -/
def nextU (d : FDev) : Int := if d.sa = 0 then 0 else d.nx
def begunD (d : FDev) : FDev := ⟨d.sa, d.su, nextU d, d.gt, d.sl, d.ops⟩
def fromN (t : ByteArray) (b : Nat) : Nat := min (b * 32) t.size
def endN (t : ByteArray) (b n : Nat) : Nat := min (fromN t b + n) t.size
def pieceN (t : ByteArray) (b n : Nat) : ByteArray := t.extract (fromN t b) (endN t b n)
def behindD (d : FDev) (k : Nat) : FDev := if k < 32 then newD else ⟨6, d.su, min (d.nx + 1) 16, d.gt, d.sl, d.ops⟩
/-- The bytes that it tells, where nothing is wrong. -/
def dataS (f : ByteArray) (d : FDev) (n : Int) : ByteArray := pieceN (actS f) (nextU d).toNat n.toNat
def toldD (f : ByteArray) (d : FDev) (b n : Int) : FDev := if errA f = 0 then (if b = nextU d then behindD (begunD d) (dataS f d n).size else failedD 4) else failedD 2
def toldS (f : ByteArray) (d : FDev) (b n : Int) : ByteArray := if errA f = 0 then (if b = nextU d then dataS f d n else ⟨#[]⟩) else ⟨#[]⟩
/-- What Give answers, whatever it is asked. -/
def giveD (f : ByteArray) (d : FDev) (b n : Int) : FDev := if okU f d b n then toldD f d b n else newD
def giveS (f : ByteArray) (d : FDev) (b n : Int) : ByteArray := if okU f d b n then toldS f d b n else ⟨#[]⟩
theorem errV_t {ok : Bool} (h : ok = true) : errV ok = 0 := by rw [h]; rfl
theorem errV_f {ok : Bool} (h : ok = false) : errV ok = 2000 := by rw [h]; rfl
theorem give_no {f : ByteArray} {d : FDev} {b n : Int} (h : okU f d b n = false) : giveD f d b n = newD ∧ giveS f d b n = ⟨#[]⟩ := by unfold giveD giveS; rw [h]; exact ⟨rfl, rfl⟩
theorem give_ok {f : ByteArray} {d : FDev} {b n : Int} (h : okU f d b n = true) : giveD f d b n = toldD f d b n ∧ giveS f d b n = toldS f d b n := by unfold giveD giveS; rw [if_pos h, if_pos h]; exact ⟨rfl, rfl⟩
theorem okU_parts {f : ByteArray} {d : FDev} {b n : Int} : okU f d b n = true ↔ mayF f = true ∧ devB d = true ∧ (d.sa = 0 ∨ d.sa = 6) ∧ (0 ≤ b ∧ b ≤ 65535) ∧ 0 ≤ n ∧ n ≤ 32 := by
  unfold okU readsB askB
  simp only [Bool.and_eq_true, decide_eq_true_iff, upB_iff, both_parts]
  constructor
  · rintro ⟨⟨⟨h1, h2⟩, h3⟩, h4, h5⟩; exact ⟨h1, h2, h3, h4, h5⟩
  · rintro ⟨h1, h2, h3, h4, h5⟩; exact ⟨⟨⟨h1, h2⟩, h3⟩, h4, h5⟩
theorem okU_no {f : ByteArray} {d : FDev} {b n : Int} (h : okU f d b n = false) : mayF f = false ∨ (mayF f = true ∧ devB d = false) ∨ (mayF f = true ∧ devB d = true ∧ readsB d.sa = false) ∨ (mayF f = true ∧ devB d = true ∧ readsB d.sa = true ∧ askB b n = false) := by
  unfold okU bothB at h
  cases h1 : mayF f with
  | false => exact .inl rfl
  | true =>
    cases h2 : devB d with
    | false => exact .inr (.inl ⟨rfl, rfl⟩)
    | true =>
      cases h3 : readsB d.sa with
      | false => exact .inr (.inr (.inl ⟨rfl, rfl, rfl⟩))
      | true =>
        rw [h1, h2, h3] at h
        exact .inr (.inr (.inr ⟨rfl, rfl, rfl, h⟩))
theorem okU_all {f : ByteArray} {d : FDev} {b n : Int} (h : okU f d b n = true) : mayF f = true ∧ devB d = true ∧ readsB d.sa = true ∧ askB b n = true := by
  unfold okU bothB at h
  rw [Bool.and_eq_true, Bool.and_eq_true, Bool.and_eq_true] at h
  exact ⟨h.1.1.1, h.1.1.2, h.1.2, h.2⟩
theorem next_in {d : FDev} (h : devB d = true) : 0 ≤ nextU d ∧ nextU d ≤ 16 := by
  have := (dev_parts h).1
  unfold nextU
  split <;> omega
theorem begun_may {d : FDev} (h : devB d = true) : devB (begunD d) = true := by
  have h0 := next_in h
  unfold devB at h ⊢
  unfold begunD
  dsimp only
  rw [show upB (nextU d) 16 = true from upB_iff.2 h0]
  simp only [Bool.and_eq_true] at h ⊢
  exact ⟨⟨⟨⟨⟨h.1.1.1.1.1, h.1.1.1.1.2⟩, trivial⟩, h.1.1.2⟩, h.1.2⟩, h.2⟩
theorem told_none {f : ByteArray} (d : FDev) (b n : Int) (h : ¬ errA f = 0) : toldD f d b n = failedD 2 ∧ toldS f d b n = ⟨#[]⟩ := by unfold toldD toldS; rw [if_neg h, if_neg h]; exact ⟨rfl, rfl⟩
theorem told_other {f : ByteArray} {d : FDev} {b : Int} (n : Int) (h : errA f = 0) (g : ¬ b = nextU d) : toldD f d b n = failedD 4 ∧ toldS f d b n = ⟨#[]⟩ := by unfold toldD toldS; rw [if_pos h, if_pos h, if_neg g, if_neg g]; exact ⟨rfl, rfl⟩
theorem told_is {f : ByteArray} {d : FDev} {b : Int} (n : Int) (h : errA f = 0) (g : b = nextU d) : toldD f d b n = behindD (begunD d) (dataS f d n).size ∧ toldS f d b n = dataS f d n := by unfold toldD toldS; rw [if_pos h, if_pos h, if_pos g, if_pos g]; exact ⟨rfl, rfl⟩
theorem act_yes {f : ByteArray} (h : errA f = 0) : ∃ p, actO f = some p ∧ actV f = p := by
  cases ha : actO f with
  | none =>
    unfold errA at h
    rw [ha] at h
    cases hm : mayF f <;> rw [hm] at h <;> simp at h
  | some p => exact ⟨p, rfl, (act_may ha).2.1⟩
theorem act_img {f : ByteArray} (h : errA f = 0) : imgOk f (actV f).pq (actV f).pt (actV f).pz (actV f).pm = true := by
  obtain ⟨p, ha, hp⟩ := act_yes h
  obtain ⟨h1, h2, _⟩ := act_rec ha
  rw [hp]
  exact imgOk_parts.2 ⟨h1, h2⟩
theorem size_actS (f : ByteArray) : (actS f).size ≤ 288 := size_imgS _ _ _ _ _
theorem from_le (t : ByteArray) (b : Nat) : fromN t b ≤ t.size := Nat.min_le_right _ _
theorem end_le (t : ByteArray) (b n : Nat) : endN t b n ≤ t.size := Nat.min_le_right _ _
theorem from_end (t : ByteArray) (b n : Nat) : fromN t b ≤ endN t b n := by
  have := from_le t b
  unfold endN
  omega
theorem size_pieceN (t : ByteArray) (b n : Nat) : (pieceN t b n).size = min n (t.size - b * 32) := by
  unfold pieceN
  rw [ByteArray.size_extract]
  unfold endN fromN
  omega
theorem size_dataS (f : ByteArray) (d : FDev) (n : Int) : (dataS f d n).size ≤ n.toNat := by unfold dataS; rw [size_pieceN]; omega
theorem behind_few (d : FDev) (k : Nat) (h : d.ops.length ≤ 768) : (behindD d k).ops.length ≤ 768 := by
  unfold behindD
  split
  · exact Nat.zero_le _
  · exact h
theorem told_few (f : ByteArray) (d : FDev) (b n : Int) (h : d.ops.length ≤ 768) : (toldD f d b n).ops.length ≤ 768 := by
  unfold toldD
  split
  · split
    · exact behind_few _ _ h
    · exact Nat.zero_le _
  · exact Nat.zero_le _
theorem give_few (f : ByteArray) (d : FDev) (b n : Int) : (giveD f d b n).ops.length ≤ 768 := by
  cases h : okU f d b n with
  | false => rw [(give_no h).1]; exact Nat.zero_le _
  | true => rw [(give_ok h).1]; exact told_few _ _ _ _ (dev_parts (okU_parts.1 h).2.1).2.2.2
end Go.Proofs.YtmlfkbkpkgaefaaGreatDoor.Upl

/- The contracts of package upload, part for part: each call answers what the plain functions give, whatever its arguments; the device's steps lie in memory of their own. -/
namespace Go.Proofs.YtmlfkbkpkgaefaaGreatDoor.UplWalk
open Go.Proofs.YtmlfkbkpkgaefaaGreatDoor Go.RowKit Go.Proofs.YtmlfkbkpkgaefaaGreatDoor.Bytes Go.Proofs.YtmlfkbkpkgaefaaGreatDoor.Ops Go.Proofs.YtmlfkbkpkgaefaaGreatDoor.OpsRow Go.Proofs.YtmlfkbkpkgaefaaGreatDoor.Jou Go.Proofs.YtmlfkbkpkgaefaaGreatDoor.JouRow Go.Proofs.YtmlfkbkpkgaefaaGreatDoor.Act Go.Proofs.YtmlfkbkpkgaefaaGreatDoor.Dev Go.Proofs.YtmlfkbkpkgaefaaGreatDoor.DevRow Go.Proofs.YtmlfkbkpkgaefaaGreatDoor.DevSet Go.Proofs.YtmlfkbkpkgaefaaGreatDoor.Dnl Go.Proofs.YtmlfkbkpkgaefaaGreatDoor.DnlCopy Go.Proofs.YtmlfkbkpkgaefaaGreatDoor.Tic Go.Proofs.YtmlfkbkpkgaefaaGreatDoor.TicRow Go.Proofs.YtmlfkbkpkgaefaaGreatDoor.Upl
open Go.Proofs.YtmlfkbkpkgaefaaGreatDoor.NorWalk (ret_bool)
open Go.Proofs.YtmlfkbkpkgaefaaGreatDoor.JouWalk (ret_str)
open Go.Proofs.YtmlfkbkpkgaefaaGreatDoor.DevWalk (build_d0)
open Go.Proofs.YtmlfkbkpkgaefaaGreatDoor.DnlWalk (fail_is ne_t eq_f)
attribute [local go_sem ↓] Go.wp_at_zero Go.wp_at_succ
theorem hal (w : World) (o : Obj) : Below w.heap.size w (w.alloc o) := (Below.refl _ _).alloc (Nat.le_refl _) _
theorem run_min2 {P : Program} (a b k : Int) (h : k = min a b) (ts : Array TypeId) (t : TypeId) (w : World) : (Builtin.min_ ts t #[.int .i64 a, .int .i64 b]).run P w = .ok (.int .i64 k) w := by
  simp [Builtin.min_, Builtin.min2]
  subst h
  repeat split
  all_goals omega
set_option maxRecDepth 100000 in
theorem reads_any (s : Int) (w : World) : Calls Tryz.prog 101 #[.int .i64 s] w fun e w' => e = .returned (.bool (readsB s)) ∧ w' = w := by
  go_enter Tryz.func101, Tryz.ntmps101
  go_wp2
  all_goals
    go_ret
    exact ⟨ret_bool (by unfold readsB; rw [Bool.eq_iff_iff]; simp; try omega), rfl⟩
set_option maxRecDepth 100000 in
theorem umay_any (b n : Int) (w : World) : Calls Tryz.prog 102 #[.int .i64 b, .int .i64 n] w fun e w' => e = .returned (.bool (askB b n)) ∧ Below w.heap.size w w' := by
  have b1 := SetWalk.build_set
  have hs : Sup.supB 2 b n = askB b n := by unfold askB upB; rw [Bool.eq_iff_iff, Sup.supB_parts]; simp; omega
  have C := hide (fun w => SetWalk.smay_any 2 b n w)
  rw [hs] at C
  clear hs
  generalize askB b n = R at *
  go_enter Tryz.func102, Tryz.ntmps102
  go_wp2_with fail
  refine (C.out _).mono ?_
  rintro e w' ⟨rfl, hb⟩
  go_wp2_with fail
  go_ret
  exact ⟨rfl, hb⟩
set_option maxRecDepth 100000 in
set_option maxHeartbeats 1000000 in
theorem active_no (f : ByteArray) (w : World) (h : ¬ errA f = 0) : Calls Tryz.prog 103 #[.string f] w fun e w' => e = .returned (.tuple #[.string ⟨#[]⟩, .bool false]) ∧ Below w.heap.size w w' := by
  have C := hide (fun w => ChoWalk.active_any f w)
  have h1 := ne_t h
  clear h
  generalize errA f = E at *
  generalize actV f = p at *
  go_enter Tryz.func103, Tryz.ntmps103
  go_wp2_with fail
  refine (C.out _).mono ?_
  rintro e w' ⟨rfl, hb⟩
  go_wp2_with fail
  go_ret2
  exact ⟨rfl, thenB hb (hal _ _)⟩
set_option maxRecDepth 100000 in
set_option maxHeartbeats 1000000 in
theorem active_yes (f : ByteArray) (w : World) (h : errA f = 0) : Calls Tryz.prog 103 #[.string f] w fun e w' => e = .returned (.tuple #[.string (actS f), .bool true]) ∧ Below w.heap.size w w' := by
  have C := hide (fun w => ChoWalk.active_any f w)
  have D := hide (fun w => ImgWalk.of_any f (actV f).pq (actV f).pt (actV f).pz (actV f).pm w)
  have hi := act_img h
  rw [hi, show errI true = 0 from rfl] at D
  rw [h] at C
  have hS : imgS f (actV f).pq (actV f).pt (actV f).pz (actV f).pm = actS f := rfl
  rw [hS] at D
  clear h hi hS
  generalize actS f = S at *
  generalize actV f = p at *
  obtain ⟨pa, pq, pt, pz, pm⟩ := p
  dsimp only at *
  go_enter Tryz.func103, Tryz.ntmps103
  go_wp2_with fail
  refine (C.out _).mono ?_
  rintro e w1 ⟨rfl, hb⟩
  have hX := box5M w1 (.int .i64 pa) (.int .i64 pq) (.int .i64 pt) (.int .i64 pz) (.int .i64 pm) 96
  replace hb := thenB hb (hal w1 (.cells #[.int .i64 pa, .int .i64 pq, .int .i64 pt, .int .i64 pz, .int .i64 pm] 96))
  unfold Box5 at hX
  clear C
  go_wp2_with fail
  refine (D.out _).mono ?_
  rintro e w2 ⟨rfl, hb2⟩
  go_wp2_with fail
  go_ret2
  exact ⟨rfl, thenB hb hb2⟩
set_option maxRecDepth 100000 in
set_option maxHeartbeats 1000000 in
theorem begun_any (d : FDev) (v : Value) (w : World) (hv : IsSt w v d.ops) : Calls Tryz.prog 105 #[.agg #[.int .i64 d.sa, .int .i64 d.su, .int .i64 d.nx, .int .i64 d.gt, .int .i64 d.sl, v]] w fun e w' => e = .returned (.agg #[.int .i64 d.sa, .int .i64 d.su, .int .i64 (nextU d), .int .i64 d.gt, .int .i64 d.sl, v]) ∧ Below w.heap.size w w' := by
  obtain ⟨hX, hR, hB, hs⟩ := two_boxes w (.int .i64 d.sa) (.int .i64 d.su) (.int .i64 d.nx) (.int .i64 d.gt) (.int .i64 d.sl) v
  have hne : w.heap.size ≠ w.heap.size + 1 := Nat.ne_of_lt (Nat.lt_succ_self _)
  obtain ⟨a, ca, rfl, _, _⟩ := hv
  by_cases h : d.sa = 0
  · have hn : nextU d = 0 := by unfold nextU; rw [if_pos h]
    rw [hn]
    clear hn
    obtain ⟨sa, su, nx, gt, sl, l⟩ := d
    dsimp only at *
    subst h
    go_enter Tryz.func105, Tryz.ntmps105
    go_upto_region 1 with fail
    generalize (w.alloc _).alloc _ = W at *
    have HB := hide hB
    have HR := hide hR
    clear hB hR
    go_upto_region 3 with fail
    replace hX := res2 hX (.int .i64 0)
    have hR := resO HR.out hne 2 (.int .i64 0)
    have hB := HB.out.setCell (p := ⟨w.heap.size, 2, none⟩) (Nat.le_refl _) (.int .i64 0)
    clear HB HR
    generalize World.setCell _ _ _ = W2 at *
    go_wp2_with fail
    exact bodyPost_ret (v := .agg #[.int .i64 0, .int .i64 su, .int .i64 0, .int .i64 gt, .int .i64 sl, .slice a l.length ca]) (by simp [results, Tryz.results105, go_sem, hR]) rfl ⟨rfl, set6 hB (Nat.le_succ _)⟩
  · have hn : nextU d = d.nx := by unfold nextU; rw [if_neg h]
    rw [hn]
    clear hn
    have h1 := eq_f h
    obtain ⟨sa, su, nx, gt, sl, l⟩ := d
    dsimp only at *
    go_enter Tryz.func105, Tryz.ntmps105
    go_upto_region 1 with fail
    generalize (w.alloc _).alloc _ = W at *
    go_wp2_with fail
    exact bodyPost_ret (v := .agg #[.int .i64 sa, .int .i64 su, .int .i64 nx, .int .i64 gt, .int .i64 sl, .slice a l.length ca]) (by simp [results, Tryz.results105, go_sem, hR]) rfl ⟨rfl, set6 hB (Nat.le_succ _)⟩
set_option maxRecDepth 100000 in
set_option maxHeartbeats 1000000 in
theorem failed_any (d : FDev) (v : Value) (s : Int) (w : World) (hv : IsSt w v d.ops) (hd : devB d = true) (hs : flB s = true) : Calls Tryz.prog 104 #[.agg #[.int .i64 d.sa, .int .i64 d.su, .int .i64 d.nx, .int .i64 d.gt, .int .i64 d.sl, v], .int .i64 s] w fun e w' => e = .returned (.tuple #[.agg #[.int .i64 7, .int .i64 s, .int .i64 0, .int .i64 0, .int .i64 0, .slice none 0 0], .string ⟨#[]⟩, .int .i64 0]) ∧ Below w.heap.size w w' := by
  have HF : Hid (∀ (w' : World), Below w.heap.size w w' → _) := fun w' hb => fail_is d v s w' (hv.below hb) hd hs
  obtain ⟨hX, hR, hB, _⟩ := two_boxes w (.int .i64 d.sa) (.int .i64 d.su) (.int .i64 d.nx) (.int .i64 d.gt) (.int .i64 d.sl) v
  have hne : w.heap.size ≠ w.heap.size + 1 := Nat.ne_of_lt (Nat.lt_succ_self _)
  clear hd hs
  obtain ⟨a, ca, rfl, _, _⟩ := hv
  obtain ⟨sa, su, nx, gt, sl, l⟩ := d
  dsimp only at *
  go_enter Tryz.func104, Tryz.ntmps104
  go_wp2_with fail
  refine (HF.out _ hB).mono ?_
  generalize (w.alloc _).alloc _ = W at *
  rintro e w2 ⟨rfl, hb⟩
  replace hB := thenB hB hb
  replace hX := resB hX hb
  replace hR := resB hR hb
  clear hb HF
  have HB := hide hB
  have HR := hide hR
  clear hB hR
  go_upto_region 2 with fail
  replace hX := res6 hX (.int .i64 7) (.int .i64 s) (.int .i64 0) (.int .i64 0) (.int .i64 0) (.slice none 0 0)
  have hR := resO6 HR.out hne (.int .i64 7) (.int .i64 s) (.int .i64 0) (.int .i64 0) (.int .i64 0) (.slice none 0 0)
  have hB := set6 (x0 := .int .i64 7) (x1 := .int .i64 s) (x2 := .int .i64 0) (x3 := .int .i64 0) (x4 := .int .i64 0) (x5 := .slice none 0 0) HB.out (Nat.le_refl w.heap.size)
  clear HB HR
  generalize (((((w2.setCell _ _).setCell _ _).setCell _ _).setCell _ _).setCell _ _).setCell _ _ = W4 at *
  go_wp2_with fail
  exact bodyPost_ret (v := .tuple #[.agg #[.int .i64 7, .int .i64 s, .int .i64 0, .int .i64 0, .int .i64 0, .slice none 0 0], .string ⟨#[]⟩, .int .i64 0]) (by simp [results, Tryz.results104, go_sem, hR]) rfl ⟨rfl, set6 hB (Nat.le_succ _)⟩
set_option maxRecDepth 100000 in
set_option maxHeartbeats 1000000 in
theorem piece_any (t : ByteArray) (b n : Nat) (w : World) (ht : t.size ≤ 288) (hb : b ≤ 16) (hn : n ≤ 32) : Calls Tryz.prog 106 #[.string t, .int .i64 (b : Int), .int .i64 (n : Int)] w fun e w' => e = .returned (.string (pieceN t b n)) ∧ w' = w := by
  obtain ⟨p, hp⟩ : ∃ p : Nat, p = fromN t b := ⟨_, rfl⟩
  obtain ⟨q, hq⟩ : ∃ q : Nat, q = endN t b n := ⟨_, rfl⟩
  have hp1 : p ≤ t.size := by rw [hp]; exact from_le _ _
  have hq1 : q ≤ t.size := by rw [hq]; exact end_le _ _ _
  have hpq : p ≤ q := by rw [hp, hq]; exact from_end _ _ _
  have m1 := fun ts t' w => run_min2 (P := Tryz.prog) ((b : Int) * 32) (t.size : Int) (p : Int) (by rw [hp]; unfold fromN; omega) ts t' w
  have m2 := fun ts t' w => run_min2 (P := Tryz.prog) ((p : Int) + (n : Int)) (t.size : Int) (q : Int) (by rw [hq]; unfold endN; rw [← hp]; omega) ts t' w
  have HX : Hid (t.extract p q = pieceN t b n) := by subst hp hq; rfl
  clear hp hq
  go_enter Tryz.func106, Tryz.ntmps106
  go_wp2_with fail
  go_ret
  exact ⟨ret_str HX.out, rfl⟩
set_option maxRecDepth 100000 in
set_option maxHeartbeats 2000000 in
theorem behind_any (d : FDev) (v : Value) (k : Nat) (w : World) (hv : IsSt w v d.ops) (hd : devB d = true) : Calls Tryz.prog 107 #[.agg #[.int .i64 d.sa, .int .i64 d.su, .int .i64 d.nx, .int .i64 d.gt, .int .i64 d.sl, v], .int .i64 (k : Int)] w fun e w' => ∃ u, e = .returned (.agg #[.int .i64 (behindD d k).sa, .int .i64 (behindD d k).su, .int .i64 (behindD d k).nx, .int .i64 (behindD d k).gt, .int .i64 (behindD d k).sl, u]) ∧ OwnSt w' w.heap.size u (behindD d k).ops ∧ Below w.heap.size w w' := by
  have hl := (dev_parts hd).2.2.2
  have hx := (dev_parts hd).1
  have hm := DnlWalk.dev_steps hd
  have HF : Hid (∀ (w' : World), Below w.heap.size w w' → _) := fun w' hb => fresh_any d v w' (hv.below hb) hm hl
  obtain ⟨hX, hR, hB, hs⟩ := two_boxes w (.int .i64 d.sa) (.int .i64 d.su) (.int .i64 d.nx) (.int .i64 d.gt) (.int .i64 d.sl) v
  have hne : w.heap.size ≠ w.heap.size + 1 := Nat.ne_of_lt (Nat.lt_succ_self _)
  clear hd hm hl
  by_cases h : k < 32
  · have hn : behindD d k = newD := by unfold behindD; rw [if_pos h]
    rw [hn]
    clear hn HF hx
    have C := hide (fun w => DevWalk.new_any w)
    obtain ⟨a, ca, rfl, _, _⟩ := hv
    go_enter Tryz.func107, Tryz.ntmps107
    go_wp2_with fail
    refine (C.out _).mono ?_
    generalize (w.alloc _).alloc _ = W at *
    rintro e w2 ⟨rfl, hb⟩
    replace hB := thenB hB hb
    replace hR := resB hR hb
    go_wp2_with fail
    exact bodyPost_ret (v := .agg #[.int .i64 0, .int .i64 0, .int .i64 0, .int .i64 0, .int .i64 0, .slice none 0 0]) (by simp [results, Tryz.results107, go_sem, hR]) rfl ⟨_, rfl, own_none _ _, set6 hB (Nat.le_succ _)⟩
  · have hn : behindD d k = ⟨6, d.su, min (d.nx + 1) 16, d.gt, d.sl, d.ops⟩ := by unfold behindD; rw [if_neg h]
    rw [hn]
    clear hn
    obtain ⟨a, ca, rfl, _, _⟩ := hv
    obtain ⟨sa, su, nx, gt, sl, l⟩ := d
    dsimp only at *
    have hmn := fun ts t w => run_min2 (P := Tryz.prog) (nx + 1) 16 (min (nx + 1) 16) rfl ts t w
    generalize min (nx + 1) 16 = K at *
    go_enter Tryz.func107, Tryz.ntmps107
    go_wp2_with fail
    refine (HF.out _ hB).mono ?_
    generalize (w.alloc _).alloc _ = W at *
    rintro e w2 ⟨u, rfl, hown, hb⟩
    obtain ⟨a', c', rfl⟩ := owns_form hown
    have hO := (own_of hown).mono (Nat.le_of_eq hs)
    replace hB := thenB hB hb
    replace hX := resB hX hb
    replace hR := resB hR hb
    clear hb hown HF
    have HB := hide hB
    have HR := hide hR
    have HO := hide hO
    clear hB hR hO
    go_upto_region 4 with fail
    replace hX := res6 hX (.int .i64 sa) (.int .i64 su) (.int .i64 nx) (.int .i64 gt) (.int .i64 sl) (.slice a' l.length c')
    have hR := resO6 HR.out hne (.int .i64 sa) (.int .i64 su) (.int .i64 nx) (.int .i64 gt) (.int .i64 sl) (.slice a' l.length c')
    have hB := set6 (x0 := .int .i64 sa) (x1 := .int .i64 su) (x2 := .int .i64 nx) (x3 := .int .i64 gt) (x4 := .int .i64 sl) (x5 := .slice a' l.length c') HB.out (Nat.le_refl w.heap.size)
    have hO := HO.out.set6 (show w.heap.size < w.heap.size + 1 + 1 by omega) (.int .i64 sa) (.int .i64 su) (.int .i64 nx) (.int .i64 gt) (.int .i64 sl) (.slice a' l.length c')
    clear HB HR HO
    generalize (((((w2.setCell _ _).setCell _ _).setCell _ _).setCell _ _).setCell _ _).setCell _ _ = W4 at *
    have HB := hide hB
    have HR := hide hR
    have HO := hide hO
    clear hB hR hO
    go_upto_region 5 with fail
    replace hX := res2 (res0 hX (.int .i64 6)) (.int .i64 K)
    have hR := resO (resO HR.out hne 0 (.int .i64 6)) hne 2 (.int .i64 K)
    have hB := (HB.out.setCell (p := ⟨w.heap.size, 0, none⟩) (Nat.le_refl _) (.int .i64 6)).setCell (p := ⟨w.heap.size, 2, none⟩) (Nat.le_refl _) (.int .i64 K)
    have hO := (HO.out.set (show w.heap.size < w.heap.size + 1 + 1 by omega) 0 (.int .i64 6)).set (show w.heap.size < w.heap.size + 1 + 1 by omega) 2 (.int .i64 K)
    clear HB HR HO
    generalize (World.setCell _ _ _).setCell _ _ = W5 at *
    go_wp2_with fail
    exact bodyPost_ret (v := .agg #[.int .i64 6, .int .i64 su, .int .i64 K, .int .i64 gt, .int .i64 sl, .slice a' l.length c']) (by simp [results, Tryz.results107, go_sem, hR]) rfl ⟨_, rfl, (hO.set6 (show w.heap.size + 1 < w.heap.size + 1 + 1 by omega) _ _ _ _ _ _).mono (by omega), set6 hB (Nat.le_succ _)⟩
end Go.Proofs.YtmlfkbkpkgaefaaGreatDoor.UplWalk

/- The contract of upload.Give: whatever it is asked, the device, the bytes and the error that the plain functions give. -/
namespace Go.Proofs.YtmlfkbkpkgaefaaGreatDoor.UplGive
open Go.Proofs.YtmlfkbkpkgaefaaGreatDoor Go.RowKit Go.Proofs.YtmlfkbkpkgaefaaGreatDoor.Bytes Go.Proofs.YtmlfkbkpkgaefaaGreatDoor.Ops Go.Proofs.YtmlfkbkpkgaefaaGreatDoor.OpsRow Go.Proofs.YtmlfkbkpkgaefaaGreatDoor.Jou Go.Proofs.YtmlfkbkpkgaefaaGreatDoor.Act Go.Proofs.YtmlfkbkpkgaefaaGreatDoor.Dev Go.Proofs.YtmlfkbkpkgaefaaGreatDoor.DevRow Go.Proofs.YtmlfkbkpkgaefaaGreatDoor.DevSet Go.Proofs.YtmlfkbkpkgaefaaGreatDoor.Dnl Go.Proofs.YtmlfkbkpkgaefaaGreatDoor.DnlCopy Go.Proofs.YtmlfkbkpkgaefaaGreatDoor.Tic Go.Proofs.YtmlfkbkpkgaefaaGreatDoor.TicRow Go.Proofs.YtmlfkbkpkgaefaaGreatDoor.Upl Go.Proofs.YtmlfkbkpkgaefaaGreatDoor.UplWalk
open Go.Proofs.YtmlfkbkpkgaefaaGreatDoor.DevWalk (build_d0)
open Go.Proofs.YtmlfkbkpkgaefaaGreatDoor.DnlWalk (ne_t eq_f)
attribute [local go_sem ↓] Go.wp_at_zero Go.wp_at_succ
/-- What a call to Give gives: a device whose steps lie in memory made since and may be written, bytes, an error. -/
def Given (w : World) (d : FDev) (s : ByteArray) (e : Int) (r : Ending) (w' : World) : Prop := ∃ u, r = .returned (.tuple #[.agg #[.int .i64 d.sa, .int .i64 d.su, .int .i64 d.nx, .int .i64 d.gt, .int .i64 d.sl, u], .string s, .int .i64 e]) ∧ OwnSt w' w.heap.size u d.ops ∧ Below w.heap.size w w'
set_option maxRecDepth 100000 in
set_option maxHeartbeats 4000000 in
theorem give_no1 (f : ByteArray) (d : FDev) (v : Value) (b n : Int) (w : World) (hv : IsSt w v d.ops) (g0 : mayF f = false) : Calls Tryz.prog 89 #[.string f, .agg #[.int .i64 d.sa, .int .i64 d.su, .int .i64 d.nx, .int .i64 d.gt, .int .i64 d.sl, v], .int .i64 b, .int .i64 n] w (Given w newD ⟨#[]⟩ 2000) := by
  have HM := hide (fun w => NorWalk.may_any f w)
  have hmm : NorWalk.mayB f = mayF f := rfl
  rw [hmm, g0] at HM
  clear hmm g0
  obtain ⟨hX, hR, hB, hs⟩ := two_boxes w (.int .i64 d.sa) (.int .i64 d.su) (.int .i64 d.nx) (.int .i64 d.gt) (.int .i64 d.sl) v
  have b1 := build_d0
  unfold newD
  unfold Given
  obtain ⟨a, ca, rfl, _, _⟩ := hv
  obtain ⟨sa, su, nx, gt, sl, l⟩ := d
  dsimp only at *
  go_enter Tryz.func89, Tryz.ntmps89
  go_upto_region 2 with (first | (go_at_call 21; refine (HM.out _).mono ?_; rintro e w' ⟨rfl, rfl⟩))
  generalize (w.alloc _).alloc _ = W at *
  go_wp2_with fail
  exact bodyPost_ret (v := .tuple #[.agg #[.int .i64 0, .int .i64 0, .int .i64 0, .int .i64 0, .int .i64 0, .slice none 0 0], .string ⟨#[]⟩, .int .i64 2000]) (by simp [results, Tryz.results89, go_sem, hR]) rfl ⟨_, rfl, own_none _ _, set6 hB (Nat.le_succ _)⟩
set_option maxRecDepth 100000 in
set_option maxHeartbeats 4000000 in
theorem give_no2 (f : ByteArray) (d : FDev) (v : Value) (b n : Int) (w : World) (hv : IsSt w v d.ops) (g0 : mayF f = true) (g1 : devB d = false) : Calls Tryz.prog 89 #[.string f, .agg #[.int .i64 d.sa, .int .i64 d.su, .int .i64 d.nx, .int .i64 d.gt, .int .i64 d.sl, v], .int .i64 b, .int .i64 n] w (Given w newD ⟨#[]⟩ 2000) := by
  have HM := hide (fun w => NorWalk.may_any f w)
  have hmm : NorWalk.mayB f = mayF f := rfl
  rw [hmm, g0] at HM
  clear hmm g0
  have HD : Hid (∀ (w' : World), Below w.heap.size w w' → _) := fun w' hb => DevWalk.dmay_any d v w' (hv.below hb)
  rw [g1] at HD
  clear g1
  obtain ⟨hX, hR, hB, hs⟩ := two_boxes w (.int .i64 d.sa) (.int .i64 d.su) (.int .i64 d.nx) (.int .i64 d.gt) (.int .i64 d.sl) v
  have b1 := build_d0
  unfold newD
  unfold Given
  obtain ⟨a, ca, rfl, _, _⟩ := hv
  obtain ⟨sa, su, nx, gt, sl, l⟩ := d
  dsimp only at *
  go_enter Tryz.func89, Tryz.ntmps89
  go_wp2_with (first | (go_at_call 21; refine (HM.out _).mono ?_; rintro e w' ⟨rfl, rfl⟩) | (go_at_call 22; refine (HD.out _ hB).mono ?_; rintro e w' ⟨rfl, hb⟩; replace hB := thenB hB hb; replace hX := resB hX hb; replace hR := resB hR hb; clear hb))
  exact bodyPost_ret (v := .tuple #[.agg #[.int .i64 0, .int .i64 0, .int .i64 0, .int .i64 0, .int .i64 0, .slice none 0 0], .string ⟨#[]⟩, .int .i64 2000]) (by simp [results, Tryz.results89, go_sem, hR]) rfl ⟨_, rfl, own_none _ _, set6 hB (Nat.le_succ _)⟩
set_option maxRecDepth 100000 in
set_option maxHeartbeats 4000000 in
theorem give_no3 (f : ByteArray) (d : FDev) (v : Value) (b n : Int) (w : World) (hv : IsSt w v d.ops) (g0 : mayF f = true) (g1 : devB d = true) (g2 : readsB d.sa = false) : Calls Tryz.prog 89 #[.string f, .agg #[.int .i64 d.sa, .int .i64 d.su, .int .i64 d.nx, .int .i64 d.gt, .int .i64 d.sl, v], .int .i64 b, .int .i64 n] w (Given w newD ⟨#[]⟩ 2000) := by
  have HM := hide (fun w => NorWalk.may_any f w)
  have hmm : NorWalk.mayB f = mayF f := rfl
  rw [hmm, g0] at HM
  clear hmm g0
  have HD : Hid (∀ (w' : World), Below w.heap.size w w' → _) := fun w' hb => DevWalk.dmay_any d v w' (hv.below hb)
  rw [g1] at HD
  clear g1
  have HG := hide (fun w => reads_any d.sa w)
  rw [g2] at HG
  clear g2
  obtain ⟨hX, hR, hB, hs⟩ := two_boxes w (.int .i64 d.sa) (.int .i64 d.su) (.int .i64 d.nx) (.int .i64 d.gt) (.int .i64 d.sl) v
  have b1 := build_d0
  unfold newD
  unfold Given
  obtain ⟨a, ca, rfl, _, _⟩ := hv
  obtain ⟨sa, su, nx, gt, sl, l⟩ := d
  dsimp only at *
  go_enter Tryz.func89, Tryz.ntmps89
  go_wp2_with (first | (go_at_call 21; refine (HM.out _).mono ?_; rintro e w' ⟨rfl, rfl⟩) | (go_at_call 22; refine (HD.out _ hB).mono ?_; rintro e w' ⟨rfl, hb⟩; replace hB := thenB hB hb; replace hX := resB hX hb; replace hR := resB hR hb; clear hb) | (go_at_call 101; refine (HG.out _).mono ?_; rintro e w' ⟨rfl, rfl⟩))
  exact bodyPost_ret (v := .tuple #[.agg #[.int .i64 0, .int .i64 0, .int .i64 0, .int .i64 0, .int .i64 0, .slice none 0 0], .string ⟨#[]⟩, .int .i64 2000]) (by simp [results, Tryz.results89, go_sem, hR]) rfl ⟨_, rfl, own_none _ _, set6 hB (Nat.le_succ _)⟩
set_option maxRecDepth 100000 in
set_option maxHeartbeats 4000000 in
theorem give_no4 (f : ByteArray) (d : FDev) (v : Value) (b n : Int) (w : World) (hv : IsSt w v d.ops) (g0 : mayF f = true) (g1 : devB d = true) (g2 : readsB d.sa = true) (g3 : askB b n = false) : Calls Tryz.prog 89 #[.string f, .agg #[.int .i64 d.sa, .int .i64 d.su, .int .i64 d.nx, .int .i64 d.gt, .int .i64 d.sl, v], .int .i64 b, .int .i64 n] w (Given w newD ⟨#[]⟩ 2000) := by
  have HM := hide (fun w => NorWalk.may_any f w)
  have hmm : NorWalk.mayB f = mayF f := rfl
  rw [hmm, g0] at HM
  clear hmm g0
  have HD : Hid (∀ (w' : World), Below w.heap.size w w' → _) := fun w' hb => DevWalk.dmay_any d v w' (hv.below hb)
  rw [g1] at HD
  clear g1
  have HG := hide (fun w => reads_any d.sa w)
  rw [g2] at HG
  clear g2
  have HA := hide (fun w => umay_any b n w)
  rw [g3] at HA
  clear g3
  obtain ⟨hX, hR, hB, hs⟩ := two_boxes w (.int .i64 d.sa) (.int .i64 d.su) (.int .i64 d.nx) (.int .i64 d.gt) (.int .i64 d.sl) v
  have b1 := build_d0
  unfold newD
  unfold Given
  obtain ⟨a, ca, rfl, _, _⟩ := hv
  obtain ⟨sa, su, nx, gt, sl, l⟩ := d
  dsimp only at *
  go_enter Tryz.func89, Tryz.ntmps89
  go_wp2_with (first | (go_at_call 21; refine (HM.out _).mono ?_; rintro e w' ⟨rfl, rfl⟩) | (go_at_call 22; refine (HD.out _ hB).mono ?_; rintro e w' ⟨rfl, hb⟩; replace hB := thenB hB hb; replace hX := resB hX hb; replace hR := resB hR hb; clear hb) | (go_at_call 101; refine (HG.out _).mono ?_; rintro e w' ⟨rfl, rfl⟩) | (go_at_call 102; refine (HA.out _).mono ?_; rintro e w' ⟨rfl, hb⟩; replace hB := thenB hB hb; replace hX := resB hX hb; replace hR := resB hR hb; clear hb))
  exact bodyPost_ret (v := .tuple #[.agg #[.int .i64 0, .int .i64 0, .int .i64 0, .int .i64 0, .int .i64 0, .slice none 0 0], .string ⟨#[]⟩, .int .i64 2000]) (by simp [results, Tryz.results89, go_sem, hR]) rfl ⟨_, rfl, own_none _ _, set6 hB (Nat.le_succ _)⟩
theorem give_none (f : ByteArray) (d : FDev) (v : Value) (b n : Int) (w : World) (hv : IsSt w v d.ops) (h : okU f d b n = false) : Calls Tryz.prog 89 #[.string f, .agg #[.int .i64 d.sa, .int .i64 d.su, .int .i64 d.nx, .int .i64 d.gt, .int .i64 d.sl, v], .int .i64 b, .int .i64 n] w (Given w newD ⟨#[]⟩ 2000) := by
  rcases okU_no h with g0 | ⟨g0, g1⟩ | ⟨g0, g1, g2⟩ | ⟨g0, g1, g2, g3⟩
  · exact give_no1 f d v b n w hv g0
  · exact give_no2 f d v b n w hv g0 g1
  · exact give_no3 f d v b n w hv g0 g1 g2
  · exact give_no4 f d v b n w hv g0 g1 g2 g3
set_option maxRecDepth 100000 in
set_option maxHeartbeats 4000000 in
theorem give_file (f : ByteArray) (d : FDev) (v : Value) (b n : Int) (w : World) (hv : IsSt w v d.ops) (h : okU f d b n = true) (he : ¬ errA f = 0) : Calls Tryz.prog 89 #[.string f, .agg #[.int .i64 d.sa, .int .i64 d.su, .int .i64 d.nx, .int .i64 d.gt, .int .i64 d.sl, v], .int .i64 b, .int .i64 n] w (Given w (failedD 2) ⟨#[]⟩ 0) := by
  obtain ⟨h0, h1, h2, h3⟩ := okU_all h
  have HM := hide (fun w => NorWalk.may_any f w)
  have HD : Hid (∀ (w' : World), Below w.heap.size w w' → _) := fun w' hb => DevWalk.dmay_any d v w' (hv.below hb)
  have HG := hide (fun w => reads_any d.sa w)
  have HA := hide (fun w => umay_any b n w)
  have HF : Hid (∀ (w' : World), Below w.heap.size w w' → _) := fun w' hb => failed_any d v 2 w' (hv.below hb) h1 rfl
  have HI := hide (fun w => active_no f w he)
  obtain ⟨hX, hR, hB, hs⟩ := two_boxes w (.int .i64 d.sa) (.int .i64 d.su) (.int .i64 d.nx) (.int .i64 d.gt) (.int .i64 d.sl) v
  have hmm : NorWalk.mayB f = mayF f := rfl
  rw [hmm, h0] at HM
  rw [h1] at HD
  rw [h2] at HG
  rw [h3] at HA
  clear hmm h h0 h1 h2 h3 he
  unfold failedD
  unfold Given
  obtain ⟨a, ca, rfl, _, _⟩ := hv
  obtain ⟨sa, su, nx, gt, sl, l⟩ := d
  dsimp only at *
  go_enter Tryz.func89, Tryz.ntmps89
  go_wp2_with (first | (go_at_call 21; refine (HM.out _).mono ?_; rintro e w' ⟨rfl, rfl⟩) | (go_at_call 22; refine (HD.out _ hB).mono ?_; rintro e w' ⟨rfl, hb⟩; replace hB := thenB hB hb; replace hX := resB hX hb; replace hR := resB hR hb; clear hb) | (go_at_call 101; refine (HG.out _).mono ?_; rintro e w' ⟨rfl, rfl⟩) | (go_at_call 102; refine (HA.out _).mono ?_; rintro e w' ⟨rfl, hb⟩; replace hB := thenB hB hb; replace hX := resB hX hb; replace hR := resB hR hb; clear hb) | (go_at_call 103; refine (HI.out _).mono ?_; rintro e w' ⟨rfl, hb⟩; replace hB := thenB hB hb; replace hX := resB hX hb; replace hR := resB hR hb; clear hb) | (go_at_call 104; refine (HF.out _ hB).mono ?_; rintro e w' ⟨rfl, hb⟩; replace hB := thenB hB hb; replace hX := resB hX hb; replace hR := resB hR hb; clear hb))
  exact bodyPost_ret (v := .tuple #[.agg #[.int .i64 7, .int .i64 2, .int .i64 0, .int .i64 0, .int .i64 0, .slice none 0 0], .string ⟨#[]⟩, .int .i64 0]) (by simp [results, Tryz.results89, go_sem, hR]) rfl ⟨_, rfl, own_none _ _, set6 hB (Nat.le_succ _)⟩
set_option maxRecDepth 100000 in
set_option maxHeartbeats 4000000 in
theorem give_other (f : ByteArray) (d : FDev) (v : Value) (b n : Int) (w : World) (hv : IsSt w v d.ops) (h : okU f d b n = true) (he : errA f = 0) (hn : ¬ b = nextU d) : Calls Tryz.prog 89 #[.string f, .agg #[.int .i64 d.sa, .int .i64 d.su, .int .i64 d.nx, .int .i64 d.gt, .int .i64 d.sl, v], .int .i64 b, .int .i64 n] w (Given w (failedD 4) ⟨#[]⟩ 0) := by
  obtain ⟨h0, h1, h2, h3⟩ := okU_all h
  have HM := hide (fun w => NorWalk.may_any f w)
  have HD : Hid (∀ (w' : World), Below w.heap.size w w' → _) := fun w' hb => DevWalk.dmay_any d v w' (hv.below hb)
  have HG := hide (fun w => reads_any d.sa w)
  have HA := hide (fun w => umay_any b n w)
  have HF : Hid (∀ (w' : World), Below w.heap.size w w' → _) := fun w' hb => failed_any (begunD d) v 4 w' (hv.below hb) (begun_may h1) rfl
  have HI := hide (fun w => active_yes f w he)
  have HN : Hid (∀ (w' : World), Below w.heap.size w w' → _) := fun w' hb => begun_any d v w' (hv.below hb)
  have hk := ne_t hn
  obtain ⟨hX, hR, hB, hs⟩ := two_boxes w (.int .i64 d.sa) (.int .i64 d.su) (.int .i64 d.nx) (.int .i64 d.gt) (.int .i64 d.sl) v
  have hne : w.heap.size ≠ w.heap.size + 1 := Nat.ne_of_lt (Nat.lt_succ_self _)
  have hmm : NorWalk.mayB f = mayF f := rfl
  rw [hmm, h0] at HM
  rw [h1] at HD
  rw [h2] at HG
  rw [h3] at HA
  clear hmm h h0 h1 h2 h3 he hn
  unfold failedD
  unfold Given
  unfold begunD at HF
  dsimp only at HF
  generalize nextU d = NX at *
  generalize actS f = SA at *
  obtain ⟨a, ca, rfl, _, _⟩ := hv
  obtain ⟨sa, su, nx, gt, sl, l⟩ := d
  dsimp only at *
  go_enter Tryz.func89, Tryz.ntmps89
  go_upto_region 6 with (first | (go_at_call 21; refine (HM.out _).mono ?_; rintro e w' ⟨rfl, rfl⟩) | (go_at_call 22; refine (HD.out _ hB).mono ?_; rintro e w' ⟨rfl, hb⟩; replace hB := thenB hB hb; replace hX := resB hX hb; replace hR := resB hR hb; clear hb) | (go_at_call 101; refine (HG.out _).mono ?_; rintro e w' ⟨rfl, rfl⟩) | (go_at_call 102; refine (HA.out _).mono ?_; rintro e w' ⟨rfl, hb⟩; replace hB := thenB hB hb; replace hX := resB hX hb; replace hR := resB hR hb; clear hb) | (go_at_call 103; refine (HI.out _).mono ?_; rintro e w' ⟨rfl, hb⟩; replace hB := thenB hB hb; replace hX := resB hX hb; replace hR := resB hR hb; clear hb))
  clear HM HD HG HA HI
  go_wp2_with fail
  refine (HN.out _ hB).mono ?_
  rintro e w2 ⟨rfl, hb⟩
  replace hB := thenB hB hb
  replace hX := resB hX hb
  replace hR := resB hR hb
  clear hb HN
  have HB := hide hB
  have HR := hide hR
  clear hB hR
  go_upto_region 7 with fail
  replace hX := res6 hX (.int .i64 sa) (.int .i64 su) (.int .i64 NX) (.int .i64 gt) (.int .i64 sl) (.slice a l.length ca)
  have hR := resO6 HR.out hne (.int .i64 sa) (.int .i64 su) (.int .i64 NX) (.int .i64 gt) (.int .i64 sl) (.slice a l.length ca)
  have hB := set6 (x0 := .int .i64 sa) (x1 := .int .i64 su) (x2 := .int .i64 NX) (x3 := .int .i64 gt) (x4 := .int .i64 sl) (x5 := .slice a l.length ca) HB.out (Nat.le_refl w.heap.size)
  clear HB HR
  generalize (((((w2.setCell _ _).setCell _ _).setCell _ _).setCell _ _).setCell _ _).setCell _ _ = W4 at *
  go_wp2_with (go_at_call 104; refine (HF.out _ hB).mono ?_; rintro e w' ⟨rfl, hb⟩; replace hB := thenB hB hb; replace hX := resB hX hb; replace hR := resB hR hb; clear hb)
  exact bodyPost_ret (v := .tuple #[.agg #[.int .i64 7, .int .i64 4, .int .i64 0, .int .i64 0, .int .i64 0, .slice none 0 0], .string ⟨#[]⟩, .int .i64 0]) (by simp [results, Tryz.results89, go_sem, hR]) rfl ⟨_, rfl, own_none _ _, set6 hB (Nat.le_succ _)⟩
set_option maxRecDepth 100000 in
set_option maxHeartbeats 4000000 in
theorem give_data (f : ByteArray) (d : FDev) (v : Value) (b n : Int) (w : World) (hv : IsSt w v d.ops) (h : okU f d b n = true) (he : errA f = 0) (hn : b = nextU d) : Calls Tryz.prog 89 #[.string f, .agg #[.int .i64 d.sa, .int .i64 d.su, .int .i64 d.nx, .int .i64 d.gt, .int .i64 d.sl, v], .int .i64 b, .int .i64 n] w (Given w (behindD (begunD d) (dataS f d n).size) (dataS f d n) 0) := by
  obtain ⟨h0, h1, h2, h3⟩ := okU_all h
  have hp := okU_parts.1 h
  have hni := next_in h1
  obtain ⟨m, hm⟩ : ∃ m : Nat, n = (m : Int) := ⟨n.toNat, by omega⟩
  obtain ⟨k, hk⟩ : ∃ k : Nat, nextU d = (k : Int) := ⟨(nextU d).toNat, by omega⟩
  have HM := hide (fun w => NorWalk.may_any f w)
  have HD : Hid (∀ (w' : World), Below w.heap.size w w' → _) := fun w' hb => DevWalk.dmay_any d v w' (hv.below hb)
  have HG := hide (fun w => reads_any d.sa w)
  have HA := hide (fun w => umay_any b n w)
  have HI := hide (fun w => active_yes f w he)
  have HN : Hid (∀ (w' : World), Below w.heap.size w w' → _) := fun w' hb => begun_any d v w' (hv.below hb)
  have HP := hide (fun w => piece_any (actS f) k m w (size_actS f) (by omega) (by omega))
  have HE : Hid (∀ (w' : World), Below w.heap.size w w' → _) := fun w' hb => behind_any (begunD d) v (dataS f d n).size w' (hv.below hb) (begun_may h1)
  have hS : pieceN (actS f) k m = dataS f d n := by unfold dataS; rw [hk, hm, Int.toNat_natCast, Int.toNat_natCast]
  rw [hS] at HP
  obtain ⟨hX, hR, hB, hs⟩ := two_boxes w (.int .i64 d.sa) (.int .i64 d.su) (.int .i64 d.nx) (.int .i64 d.gt) (.int .i64 d.sl) v
  have hne : w.heap.size ≠ w.heap.size + 1 := Nat.ne_of_lt (Nat.lt_succ_self _)
  have hmm : NorWalk.mayB f = mayF f := rfl
  rw [hmm, h0] at HM
  rw [h1] at HD
  rw [h2] at HG
  rw [h3] at HA
  clear hmm h h0 h1 h2 h3 he hp hS
  unfold Given
  have hbd : begunD d = ⟨d.sa, d.su, nextU d, d.gt, d.sl, d.ops⟩ := rfl
  rw [hk] at hn hni hbd HN
  subst hn hm
  generalize dataS f d (m : Int) = SD at *
  generalize behindD (begunD d) SD.size = D at *
  rw [hbd] at HE
  dsimp only at HE
  clear hbd hk
  generalize actS f = SA at *
  obtain ⟨a, ca, rfl, _, _⟩ := hv
  obtain ⟨xa, xu, xn, xg, xl, xo⟩ := D
  obtain ⟨sa, su, nx, gt, sl, l⟩ := d
  dsimp only at *
  go_enter Tryz.func89, Tryz.ntmps89
  go_upto_region 6 with (first | (go_at_call 21; refine (HM.out _).mono ?_; rintro e w' ⟨rfl, rfl⟩) | (go_at_call 22; refine (HD.out _ hB).mono ?_; rintro e w' ⟨rfl, hb⟩; replace hB := thenB hB hb; replace hX := resB hX hb; replace hR := resB hR hb; replace hs := Nat.le_trans (Nat.le_of_eq hs) hb.size; clear hb) | (go_at_call 101; refine (HG.out _).mono ?_; rintro e w' ⟨rfl, rfl⟩) | (go_at_call 102; refine (HA.out _).mono ?_; rintro e w' ⟨rfl, hb⟩; replace hB := thenB hB hb; replace hX := resB hX hb; replace hR := resB hR hb; replace hs := Nat.le_trans hs hb.size; clear hb) | (go_at_call 103; refine (HI.out _).mono ?_; rintro e w' ⟨rfl, hb⟩; replace hB := thenB hB hb; replace hX := resB hX hb; replace hR := resB hR hb; replace hs := Nat.le_trans hs hb.size; clear hb))
  clear HM HD HG HA HI
  go_wp2_with fail
  refine (HN.out _ hB).mono ?_
  rintro e w2 ⟨rfl, hb⟩
  replace hB := thenB hB hb
  replace hX := resB hX hb
  replace hR := resB hR hb
  replace hs := Nat.le_trans hs hb.size
  clear hb HN
  have HB := hide hB
  have HR := hide hR
  clear hB hR
  go_upto_region 7 with fail
  replace hX := res6 hX (.int .i64 sa) (.int .i64 su) (.int .i64 (k : Int)) (.int .i64 gt) (.int .i64 sl) (.slice a l.length ca)
  have hR := resO6 HR.out hne (.int .i64 sa) (.int .i64 su) (.int .i64 (k : Int)) (.int .i64 gt) (.int .i64 sl) (.slice a l.length ca)
  have hB := set6 (x0 := .int .i64 sa) (x1 := .int .i64 su) (x2 := .int .i64 (k : Int)) (x3 := .int .i64 gt) (x4 := .int .i64 sl) (x5 := .slice a l.length ca) HB.out (Nat.le_refl w.heap.size)
  have hs2 : w.heap.size + 1 + 1 ≤ ((((((w2.setCell ⟨w.heap.size, 0, none⟩ (.int .i64 sa)).setCell ⟨w.heap.size, 1, none⟩ (.int .i64 su)).setCell ⟨w.heap.size, 2, none⟩ (.int .i64 (k : Int))).setCell ⟨w.heap.size, 3, none⟩ (.int .i64 gt)).setCell ⟨w.heap.size, 4, none⟩ (.int .i64 sl)).setCell ⟨w.heap.size, 5, none⟩ (.slice a l.length ca)).heap.size := by simp only [size_set]; exact hs
  clear HB HR hs
  generalize (((((w2.setCell _ _).setCell _ _).setCell _ _).setCell _ _).setCell _ _).setCell _ _ = W4 at *
  go_upto_region 10 with (go_at_call 106; refine (HP.out _).mono ?_; rintro e w' ⟨rfl, rfl⟩)
  clear HP
  go_wp2_with fail
  refine (HE.out _ hB).mono ?_
  rintro e w5 ⟨u, rfl, hO, hb⟩
  obtain ⟨a', c', rfl⟩ := hO.form
  replace hO := hO.mono hs2
  replace hB := thenB hB hb
  replace hR := resB hR hb
  clear hb HE hX hs2
  go_wp2_with fail
  exact bodyPost_ret (v := .tuple #[.agg #[.int .i64 xa, .int .i64 xu, .int .i64 xn, .int .i64 xg, .int .i64 xl, .slice a' xo.length c'], .string SD, .int .i64 0]) (by simp [results, Tryz.results89, go_sem, hR]) rfl ⟨_, rfl, (hO.set6 (show w.heap.size + 1 < w.heap.size + 1 + 1 by omega) _ _ _ _ _ _).mono (by omega), set6 hB (Nat.le_succ _)⟩
theorem give_any (f : ByteArray) (d : FDev) (v : Value) (b n : Int) (w : World) (hv : IsSt w v d.ops) : Calls Tryz.prog 89 #[.string f, .agg #[.int .i64 d.sa, .int .i64 d.su, .int .i64 d.nx, .int .i64 d.gt, .int .i64 d.sl, v], .int .i64 b, .int .i64 n] w (Given w (giveD f d b n) (giveS f d b n) (errV (okU f d b n))) := by
  cases h : okU f d b n with
  | false => rw [(give_no h).1, (give_no h).2]; exact give_none f d v b n w hv h
  | true =>
    rw [(give_ok h).1, (give_ok h).2]
    by_cases he : errA f = 0
    · by_cases hn : b = nextU d
      · rw [(told_is n he hn).1, (told_is n he hn).2]; exact give_data f d v b n w hv h he hn
      · rw [(told_other n he hn).1, (told_other n he hn).2]; exact give_other f d v b n w hv h he hn
    · rw [(told_none d b n he).1, (told_none d b n he).2]; exact give_file f d v b n w hv h he
end Go.Proofs.YtmlfkbkpkgaefaaGreatDoor.UplGive
