/- Asking a device: what becomes of it, what it tells. No program is named here. -/
import Derived.Test.YtmlfkbkpkgaefaaGreatDoorBagTim
import Derived.Test.YtmlfkbkpkgaefaaGreatDoorBagCho
import Derived.Test.YtmlfkbkpkgaefaaGreatDoorBagDnl
import Derived.Test.YtmlfkbkpkgaefaaGreatDoorBagPla
import Derived.Deep.Cut
import Derived.Deep.CutRange
import Derived.Deep.RegionWith
import Derived.Test.YtmlfkbkpkgaefaaGreatDoorBagRow
namespace Go.Proofs.YtmlfkbkpkgaefaaGreatDoor.Sts
open Go.Proofs.YtmlfkbkpkgaefaaGreatDoor Go.Proofs.YtmlfkbkpkgaefaaGreatDoor.Nor Go.Proofs.YtmlfkbkpkgaefaaGreatDoor.Ent Go.Proofs.YtmlfkbkpkgaefaaGreatDoor.Ops Go.Proofs.YtmlfkbkpkgaefaaGreatDoor.Jou Go.Proofs.YtmlfkbkpkgaefaaGreatDoor.Act Go.Proofs.YtmlfkbkpkgaefaaGreatDoor.Pla Go.Proofs.YtmlfkbkpkgaefaaGreatDoor.Ans Go.Proofs.YtmlfkbkpkgaefaaGreatDoor.Dev Go.Proofs.YtmlfkbkpkgaefaaGreatDoor.Dnl Go.Proofs.YtmlfkbkpkgaefaaGreatDoor.Tic

/-- The steps that lay down the record of a slot's first bytes: none, where there is no such record. -/
def recL (f : ByteArray) (t z : Int) : List FOp := appL f (rofQ f t z) (rofT f t z) (rofZ f t z) (rofM f t z)
theorem rec_ways (f : ByteArray) (t z : Int) : (errS f t z = 0 ∧ appOk f (rofQ f t z) (rofT f t z) (rofZ f t z) (rofM f t z) = true) ∨ (¬ errS f t z = 0 ∧ rofQ f t z = 0 ∧ rofT f t z = 0 ∧ rofZ f t z = 0 ∧ rofM f t z = 0 ∧ appOk f 0 0 0 0 = false ∧ recL f t z = []) := by
  have hr : recMay 0 0 0 0 = false := by decide
  have ha : appOk f 0 0 0 0 = false := by unfold appOk; rw [hr, Bool.and_false]
  cases h : rofOk f t z with
  | false =>
    obtain ⟨v1, v2, v3, v4, v5⟩ := rof_no h
    refine .inr ⟨by rw [v5]; decide, v1, v2, v3, v4, ha, ?_⟩
    unfold recL
    rw [v1, v2, v3, v4]
    exact app_no ha
  | true =>
    by_cases ht : topI f < 1048576
    · obtain ⟨_, _, _, _, v5⟩ := rof_yes h ht
      exact .inl ⟨v5, (rof_good v5).2.1⟩
    · obtain ⟨v1, v2, v3, v4, v5⟩ := rof_full h ht
      refine .inr ⟨by rw [v5]; decide, v1, v2, v3, v4, ha, ?_⟩
      unfold recL
      rw [v1, v2, v3, v4]
      exact app_no ha
theorem rec_len {f : ByteArray} {t z : Int} (h : errS f t z = 0) : 6 ≤ (recL f t z).length ∧ (recL f t z).length ≤ 7 := by
  have ho := (rof_good h).2.1
  unfold recL
  rw [app_ok ho, List.length_append, length_wordsTo]
  have : (appE f).length ≤ 1 := by unfold appE; split <;> simp
  omega
theorem rec_few (f : ByteArray) (t z : Int) : (recL f t z).length ≤ 7 := by
  rcases rec_ways f t z with ⟨h, _⟩ | ⟨_, _, _, _, _, _, h⟩
  · exact (rec_len h).2
  · rw [h]; exact Nat.zero_le _
/-- The device behind the question. -/
def maniD (f : ByteArray) (d : FDev) : FDev := if errS f d.sl d.gt = 0 then ⟨5, d.su, d.nx, d.gt, d.sl, recL f d.sl d.gt⟩ else failedD 3
def syncI (d : FDev) : Int := if d.ops.length = 0 then 3 else 2
def askD (f : ByteArray) (d : FDev) : FDev := if d.sa = 1 then ⟨syncI d, d.su, d.nx, d.gt, d.sl, d.ops⟩ else if d.sa = 4 then maniD f d else d
def getD (f : ByteArray) (d : FDev) : FDev := if bothB f d then askD f d else newD
/-- The ticks that an answer tells. -/
def tkI (d : FDev) : Int := min (d.ops.length : Int) 255
def errT (ok : Bool) : Int := if ok then 0 else 1900
theorem errT_t {ok : Bool} (h : ok = true) : errT ok = 0 := by rw [h]; rfl
theorem errT_f {ok : Bool} (h : ok = false) : errT ok = 1900 := by rw [h]; rfl
theorem get_no {f : ByteArray} {d : FDev} (h : bothB f d = false) : getD f d = newD := by unfold getD; rw [h]; rfl
theorem get_ok {f : ByteArray} {d : FDev} (h : bothB f d = true) : getD f d = askD f d := by unfold getD; rw [if_pos h]
theorem ask_sync {f : ByteArray} {d : FDev} (h : d.sa = 1) : askD f d = ⟨syncI d, d.su, d.nx, d.gt, d.sl, d.ops⟩ := by unfold askD; rw [if_pos h]
theorem ask_mani {f : ByteArray} {d : FDev} (h : d.sa = 4) : askD f d = maniD f d := by unfold askD; rw [if_neg (by omega), if_pos h]
theorem ask_other {f : ByteArray} {d : FDev} (h1 : ¬ d.sa = 1) (h4 : ¬ d.sa = 4) : askD f d = d := by unfold askD; rw [if_neg h1, if_neg h4]
theorem mani_ok {f : ByteArray} {d : FDev} (h : errS f d.sl d.gt = 0) : maniD f d = ⟨5, d.su, d.nx, d.gt, d.sl, recL f d.sl d.gt⟩ := by unfold maniD; rw [if_pos h]
theorem mani_no {f : ByteArray} {d : FDev} (h : ¬ errS f d.sl d.gt = 0) : maniD f d = failedD 3 := by unfold maniD; rw [if_neg h]
theorem mani_few (f : ByteArray) (d : FDev) : (maniD f d).ops.length ≤ 7 := by
  unfold maniD
  split
  · exact rec_few _ _ _
  · exact Nat.zero_le _
theorem get_few (f : ByteArray) (d : FDev) : (getD f d).ops.length ≤ 65536 := by
  cases h : bothB f d with
  | false => rw [get_no h]; exact Nat.zero_le _
  | true =>
    have hl := (dev_parts (both_parts.1 h).2).2.2.2
    rw [get_ok h]
    by_cases h1 : d.sa = 1
    · rw [ask_sync h1]; show d.ops.length ≤ _; omega
    by_cases h4 : d.sa = 4
    · rw [ask_mani h4]; have := mani_few f d; omega
    rw [ask_other h1 h4]
    omega
end Go.Proofs.YtmlfkbkpkgaefaaGreatDoor.Sts

/- The contracts of package status, part for part: each call answers what the plain functions give, whatever its arguments; the device's steps lie in memory of their own. -/
namespace Go.Proofs.YtmlfkbkpkgaefaaGreatDoor.StsWalk
open Go.Proofs.YtmlfkbkpkgaefaaGreatDoor Go.RowKit Go.Proofs.YtmlfkbkpkgaefaaGreatDoor.Bytes Go.Proofs.YtmlfkbkpkgaefaaGreatDoor.Ops Go.Proofs.YtmlfkbkpkgaefaaGreatDoor.OpsRow Go.Proofs.YtmlfkbkpkgaefaaGreatDoor.Jou Go.Proofs.YtmlfkbkpkgaefaaGreatDoor.Act Go.Proofs.YtmlfkbkpkgaefaaGreatDoor.Dev Go.Proofs.YtmlfkbkpkgaefaaGreatDoor.DevRow Go.Proofs.YtmlfkbkpkgaefaaGreatDoor.DevSet Go.Proofs.YtmlfkbkpkgaefaaGreatDoor.Dnl Go.Proofs.YtmlfkbkpkgaefaaGreatDoor.DnlCopy Go.Proofs.YtmlfkbkpkgaefaaGreatDoor.Tic Go.Proofs.YtmlfkbkpkgaefaaGreatDoor.TicRow Go.Proofs.YtmlfkbkpkgaefaaGreatDoor.Sts
open Go.Proofs.YtmlfkbkpkgaefaaGreatDoor.OpsWalk (size_alloc1 info_op)
open Go.Proofs.YtmlfkbkpkgaefaaGreatDoor.DevWalk (build_d0)
open Go.Proofs.YtmlfkbkpkgaefaaGreatDoor.DnlWalk (fail_is ne_t eq_f)
attribute [local go_sem ↓] Go.wp_at_zero Go.wp_at_succ
theorem hal (w : World) (o : Obj) : Below w.heap.size w (w.alloc o) := (Below.refl _ _).alloc (Nat.le_refl _) _
theorem run_min255 {P : Program} (n : Nat) (ts : Array TypeId) (t : TypeId) (w : World) : (Builtin.min_ ts t #[.int .i64 (n : Int), .int .i64 255]).run P w = .ok (.int .i64 (min (n : Int) 255)) w := by
  simp [Builtin.min_, Builtin.min2]
  repeat split
  all_goals omega
set_option maxRecDepth 100000 in
set_option maxHeartbeats 1000000 in
theorem synced_any (d : FDev) (v : Value) (w : World) (hv : IsSt w v d.ops) : Calls Tryz.prog 118 #[.agg #[.int .i64 d.sa, .int .i64 d.su, .int .i64 d.nx, .int .i64 d.gt, .int .i64 d.sl, v]] w fun r w' => r = .returned (.int .i64 (syncI d)) ∧ Below w.heap.size w w' := by
  obtain ⟨a, ca, rfl, _, _⟩ := hv
  have HS := hide (show syncI d = if d.ops.length = 0 then 3 else 2 from rfl)
  generalize syncI d = S at *
  obtain ⟨sa, su, nx, gt, sl, l⟩ := d
  dsimp only at *
  by_cases h : l.length = 0
  · have h1 := HS.out
    rw [if_pos h] at h1
    subst h1
    have h2 : ¬ (0 : Int) < (l.length : Int) := by omega
    go_enter Tryz.func118, Tryz.ntmps118
    go_wp2_with fail
    go_ret
    exact ⟨rfl, hal _ _⟩
  · have h1 := HS.out
    rw [if_neg h] at h1
    subst h1
    have h2 : (0 : Int) < (l.length : Int) := by omega
    go_enter Tryz.func118, Tryz.ntmps118
    go_wp2_with fail
    go_ret
    exact ⟨rfl, hal _ _⟩
/-- A device in memory and the zero answer that is the result's. -/
theorem answer_boxes (w : World) (x0 x1 x2 x3 x4 x5 : Value) : Res ((w.alloc (.cells #[x0, x1, x2, x3, x4, x5] 24)).alloc (.cells #[.int .i64 0, .int .i64 0, .int .i64 0] 52)) w.heap.size x0 x1 x2 x3 x4 x5 ∧ (w.heap.size + 1 < ((w.alloc (.cells #[x0, x1, x2, x3, x4, x5] 24)).alloc (.cells #[.int .i64 0, .int .i64 0, .int .i64 0] 52)).heap.size ∧ ((w.alloc (.cells #[x0, x1, x2, x3, x4, x5] 24)).alloc (.cells #[.int .i64 0, .int .i64 0, .int .i64 0] 52)).cell? ⟨w.heap.size + 1, 0, none⟩ = some (.int .i64 0) ∧ ((w.alloc (.cells #[x0, x1, x2, x3, x4, x5] 24)).alloc (.cells #[.int .i64 0, .int .i64 0, .int .i64 0] 52)).cell? ⟨w.heap.size + 1, 1, none⟩ = some (.int .i64 0) ∧ ((w.alloc (.cells #[x0, x1, x2, x3, x4, x5] 24)).alloc (.cells #[.int .i64 0, .int .i64 0, .int .i64 0] 52)).cell? ⟨w.heap.size + 1, 2, none⟩ = some (.int .i64 0) ∧ ∀ i, ((w.alloc (.cells #[x0, x1, x2, x3, x4, x5] 24)).alloc (.cells #[.int .i64 0, .int .i64 0, .int .i64 0] 52)).frozen? ⟨w.heap.size + 1, i, none⟩ = false) ∧ Below w.heap.size w ((w.alloc (.cells #[x0, x1, x2, x3, x4, x5] 24)).alloc (.cells #[.int .i64 0, .int .i64 0, .int .i64 0] 52)) := by
  have hR := AnsWalk.resM (w.alloc (.cells #[x0, x1, x2, x3, x4, x5] 24)) (.int .i64 0) (.int .i64 0) (.int .i64 0) 52
  rw [show (w.alloc (.cells #[x0, x1, x2, x3, x4, x5] 24)).heap.size = w.heap.size + 1 from by simp] at hR
  exact ⟨resB (resM w x0 x1 x2 x3 x4 x5 24) (hal _ _), hR, thenB (hal _ _) (hal _ _)⟩
set_option maxRecDepth 100000 in
set_option maxHeartbeats 1000000 in
theorem answerOf_any (d : FDev) (v : Value) (w : World) (hv : IsSt w v d.ops) : Calls Tryz.prog 109 #[.agg #[.int .i64 d.sa, .int .i64 d.su, .int .i64 d.nx, .int .i64 d.gt, .int .i64 d.sl, v]] w fun r w' => r = .returned (.agg #[.int .i64 d.su, .int .i64 (tkI d), .int .i64 d.sa]) ∧ Below w.heap.size w w' := by
  obtain ⟨hX, hR, hB⟩ := answer_boxes w (.int .i64 d.sa) (.int .i64 d.su) (.int .i64 d.nx) (.int .i64 d.gt) (.int .i64 d.sl) v
  obtain ⟨a, ca, rfl, _, _⟩ := hv
  have b1 := AnsWalk.build_ans
  have hmn := fun ts t w => run_min255 (P := Tryz.prog) d.ops.length ts t w
  have hk : min (d.ops.length : Int) 255 = tkI d := rfl
  simp only [hk] at hmn
  clear hk
  generalize tkI d = K at *
  obtain ⟨sa, su, nx, gt, sl, l⟩ := d
  dsimp only at *
  go_enter Tryz.func109, Tryz.ntmps109
  go_wp2_with fail
  exact bodyPost_ret (v := .agg #[.int .i64 su, .int .i64 K, .int .i64 sa]) (by simp [results, Tryz.results109, go_sem]) rfl ⟨rfl, thenB (hal _ _) (hal _ _)⟩
set_option maxRecDepth 100000 in
set_option maxHeartbeats 1000000 in
theorem record_steps (f : ByteArray) (t z : Int) (w : World) : Calls Tryz.prog 126 #[.string f, .int .i64 t, .int .i64 z] w fun r w' => ∃ v, r = .returned (.tuple #[v, .int .i64 (errS f t z)]) ∧ w'.ownsRow w.heap.size 86 3 v (recL f t z).length (flat (recL f t z)) ∧ Below w.heap.size w w' := by
  have C1 := hide (fun w => StaWalk.record_any f t z w)
  rcases rec_ways f t z with ⟨h1, h2⟩ | ⟨h1, q1, q2, q3, q4, h2, h3⟩
  · have C2 := hide (fun w => PlaWalk.append_any f (rofQ f t z) (rofT f t z) (rofZ f t z) (rofM f t z) w)
    rw [h2, show errP true = 0 from rfl] at C2
    rw [h1] at C1 ⊢
    have hL : appL f (rofQ f t z) (rofT f t z) (rofZ f t z) (rofM f t z) = recL f t z := rfl
    rw [hL] at C2
    clear h1 h2 hL
    generalize recL f t z = L at *
    generalize rofQ f t z = Q at *
    generalize rofT f t z = T at *
    generalize rofZ f t z = Z at *
    generalize rofM f t z = M at *
    go_enter Tryz.func126, Tryz.ntmps126
    go_wp2_with fail
    refine (C1.out _).mono ?_
    rintro e w2 ⟨rfl, hb⟩
    have hn := hal w2 (.cells #[.int .i64 Q, .int .i64 T, .int .i64 Z, .int .i64 M] 88)
    replace hb := thenB hb hn
    clear hn
    go_wp2_with fail
    refine (C2.out _).mono ?_
    rintro e w3 ⟨v, rfl, hown, hb2⟩
    obtain ⟨a', c', rfl⟩ := owns_form hown
    go_wp2_with fail
    go_ret2
    exact ⟨_, rfl, owns_mono hown hb.size, thenB hb hb2⟩
  · rw [q1, q2, q3, q4] at C1
    rw [h3]
    clear q1 q2 q3 q4 h2 h3
    generalize errS f t z = E at *
    have h2 := ne_t h1
    go_enter Tryz.func126, Tryz.ntmps126
    go_wp2_with fail
    refine (C1.out _).mono ?_
    rintro e w2 ⟨rfl, hb⟩
    have hn := hal w2 (.cells #[.int .i64 0, .int .i64 0, .int .i64 0, .int .i64 0] 88)
    replace hb := thenB hb hn
    clear hn
    go_wp2_with fail
    go_ret2
    exact ⟨_, rfl, owns_nil _ _ _, hb⟩
end Go.Proofs.YtmlfkbkpkgaefaaGreatDoor.StsWalk

/- The contracts of package status: the device behind the question. -/
namespace Go.Proofs.YtmlfkbkpkgaefaaGreatDoor.StsAsk
open Go.Proofs.YtmlfkbkpkgaefaaGreatDoor Go.RowKit Go.Proofs.YtmlfkbkpkgaefaaGreatDoor.Bytes Go.Proofs.YtmlfkbkpkgaefaaGreatDoor.Ops Go.Proofs.YtmlfkbkpkgaefaaGreatDoor.OpsRow Go.Proofs.YtmlfkbkpkgaefaaGreatDoor.Jou Go.Proofs.YtmlfkbkpkgaefaaGreatDoor.Act Go.Proofs.YtmlfkbkpkgaefaaGreatDoor.Dev Go.Proofs.YtmlfkbkpkgaefaaGreatDoor.DevRow Go.Proofs.YtmlfkbkpkgaefaaGreatDoor.DevSet Go.Proofs.YtmlfkbkpkgaefaaGreatDoor.Dnl Go.Proofs.YtmlfkbkpkgaefaaGreatDoor.DnlCopy Go.Proofs.YtmlfkbkpkgaefaaGreatDoor.Tic Go.Proofs.YtmlfkbkpkgaefaaGreatDoor.TicRow Go.Proofs.YtmlfkbkpkgaefaaGreatDoor.Sts Go.Proofs.YtmlfkbkpkgaefaaGreatDoor.StsWalk
open Go.Proofs.YtmlfkbkpkgaefaaGreatDoor.DnlWalk (fail_is ne_t eq_f)
attribute [local go_sem ↓] Go.wp_at_zero Go.wp_at_succ
set_option maxRecDepth 100000 in
set_option maxHeartbeats 2000000 in
theorem mani_any (f : ByteArray) (d : FDev) (v : Value) (w : World) (hv : IsSt w v d.ops) (hd : devB d = true) : Calls Tryz.prog 119 #[.string f, .agg #[.int .i64 d.sa, .int .i64 d.su, .int .i64 d.nx, .int .i64 d.gt, .int .i64 d.sl, v]] w fun r w' => ∃ u, r = .returned (.agg #[.int .i64 (maniD f d).sa, .int .i64 (maniD f d).su, .int .i64 (maniD f d).nx, .int .i64 (maniD f d).gt, .int .i64 (maniD f d).sl, u]) ∧ OwnSt w' w.heap.size u (maniD f d).ops ∧ Below w.heap.size w w' := by
  have HF : Hid (∀ (w' : World), Below w.heap.size w w' → _) := fun w' hb => fail_is d v 3 w' (hv.below hb) hd rfl
  have C1 := hide (fun w => record_steps f d.sl d.gt w)
  obtain ⟨hX, hR, hB, hs⟩ := two_boxes w (.int .i64 d.sa) (.int .i64 d.su) (.int .i64 d.nx) (.int .i64 d.gt) (.int .i64 d.sl) v
  obtain ⟨a, ca, rfl, _, _⟩ := hv
  have HM := hide (show maniD f d = if errS f d.sl d.gt = 0 then ⟨5, d.su, d.nx, d.gt, d.sl, recL f d.sl d.gt⟩ else failedD 3 from rfl)
  generalize maniD f d = D at *
  by_cases h : errS f d.sl d.gt = 0
  · have h1 := HM.out
    rw [if_pos h] at h1
    subst h1
    rw [h] at C1
    clear h HF HM hd
    generalize recL f d.sl d.gt = L at *
    obtain ⟨sa, su, nx, gt, sl, l⟩ := d
    dsimp only at *
    go_enter Tryz.func119, Tryz.ntmps119
    go_wp2_with fail
    refine (C1.out _).mono ?_
    generalize (w.alloc _).alloc _ = W at *
    rintro e w2 ⟨u, rfl, hown, hb⟩
    replace hB := thenB hB hb
    replace hR := resB hR hb
    replace hX := resB hX hb
    rw [← hs] at hown
    clear hb C1
    obtain ⟨a', c', rfl⟩ := owns_form hown
    have HB := hide hB
    have HO := hide hown
    have HR := hide hR
    clear hB hown hR
    go_upto_region 6 with fail
    have hne : w.heap.size ≠ w.heap.size + 1 := Nat.ne_of_lt (Nat.lt_succ_self _)
    replace hX := res5 (res0 hX (.int .i64 5)) (.slice a' L.length c')
    have hR := resO (resO HR.out hne 0 (.int .i64 5)) hne 5 (.slice a' L.length c')
    have hB := (HB.out.setCell (p := ⟨w.heap.size, 0, none⟩) (Nat.le_refl _) (.int .i64 5)).setCell (p := ⟨w.heap.size, 5, none⟩) (Nat.le_refl _) (.slice a' L.length c')
    have hlw : w.heap.size < w.heap.size + 1 + 1 := by omega
    have hO := own1 (own1 HO.out hlw 0 (.int .i64 5)) hlw 5 (.slice a' L.length c')
    clear HB HO HR
    generalize (w2.setCell _ _).setCell _ _ = W3 at *
    go_wp2_with fail
    exact bodyPost_ret (v := .agg #[.int .i64 5, .int .i64 su, .int .i64 nx, .int .i64 gt, .int .i64 sl, .slice a' L.length c']) (by simp [results, Tryz.results119, go_sem, hR]) rfl ⟨_, rfl, (own_of (own6 hO (Nat.lt_succ_self _) _ _ _ _ _ _)).mono (by omega), set6 hB (Nat.le_succ _)⟩
  · have h1 := HM.out
    rw [if_neg h] at h1
    subst h1
    have h2 := ne_t h
    generalize errS f d.sl d.gt = E at *
    generalize recL f d.sl d.gt = L at *
    clear HM hd h
    obtain ⟨sa, su, nx, gt, sl, l⟩ := d
    dsimp only at *
    go_enter Tryz.func119, Tryz.ntmps119
    go_wp2_with fail
    refine (C1.out _).mono ?_
    generalize (w.alloc _).alloc _ = W at *
    rintro e w2 ⟨u, rfl, hown, hb⟩
    replace hB := thenB hB hb
    replace hR := resB hR hb
    replace hX := resB hX hb
    clear hb C1
    obtain ⟨a', c', rfl⟩ := owns_form hown
    clear hown
    go_wp2_with fail
    refine (HF.out _ hB).mono ?_
    rintro e w3 ⟨rfl, hb⟩
    replace hB := thenB hB hb
    replace hR := resB hR hb
    clear hb HF hX
    have hF := resM w3 (.int .i64 7) (.int .i64 3) (.int .i64 0) (.int .i64 0) (.int .i64 0) (.slice none 0 0) 24
    have hn := hal w3 (.cells #[.int .i64 7, .int .i64 3, .int .i64 0, .int .i64 0, .int .i64 0, .slice none 0 0] 24)
    replace hB := thenB hB hn
    replace hR := resB hR hn
    clear hn
    go_wp2_with fail
    exact bodyPost_ret (v := .agg #[.int .i64 7, .int .i64 3, .int .i64 0, .int .i64 0, .int .i64 0, .slice none 0 0]) (by simp [results, Tryz.results119, go_sem, hR]) rfl ⟨_, rfl, own_none _ _, set6 hB (Nat.le_succ _)⟩
set_option maxRecDepth 100000 in
set_option maxHeartbeats 2000000 in
theorem asked_any (f : ByteArray) (d : FDev) (v : Value) (w : World) (base : Nat) (hb0 : base ≤ w.heap.size) (hv : OwnSt w base v d.ops) (hd : devB d = true) : Calls Tryz.prog 108 #[.string f, .agg #[.int .i64 d.sa, .int .i64 d.su, .int .i64 d.nx, .int .i64 d.gt, .int .i64 d.sl, v]] w fun r w' => ∃ u, r = .returned (.agg #[.int .i64 (askD f d).sa, .int .i64 (askD f d).su, .int .i64 (askD f d).nx, .int .i64 (askD f d).gt, .int .i64 (askD f d).sl, u]) ∧ OwnSt w' base u (askD f d).ops ∧ Below w.heap.size w w' := by
  have HY : Hid (∀ (w' : World), Below w.heap.size w w' → _) := fun w' hb => synced_any d v w' (hv.is.below hb)
  have HM : Hid (∀ (w' : World), Below w.heap.size w w' → _) := fun w' hb => mani_any f d v w' (hv.is.below hb) hd
  obtain ⟨hX, hR, hB, hs⟩ := two_boxes w (.int .i64 d.sa) (.int .i64 d.su) (.int .i64 d.nx) (.int .i64 d.gt) (.int .i64 d.sl) v
  obtain ⟨a, c, rfl⟩ := hv.form
  have HV := hide hv
  clear hv hd
  by_cases h1 : d.sa = 1
  · rw [ask_sync h1]
    clear HM
    generalize syncI d = S at *
    obtain ⟨sa, su, nx, gt, sl, l⟩ := d
    dsimp only at *
    subst h1
    go_enter Tryz.func108, Tryz.ntmps108
    go_wp2_with fail
    refine (HY.out _ hB).mono ?_
    generalize (w.alloc _).alloc _ = W at *
    rintro e w2 ⟨rfl, hb⟩
    replace hB := thenB hB hb
    replace hR := resB hR hb
    replace hX := resB hX hb
    clear hb HY
    have HB := hide hB
    have HR := hide hR
    clear hB hR
    go_upto_region 5 with fail
    have hne : w.heap.size ≠ w.heap.size + 1 := Nat.ne_of_lt (Nat.lt_succ_self _)
    replace hX := res0 hX (.int .i64 S)
    have hR := resO HR.out hne 0 (.int .i64 S)
    have hB := HB.out.setCell (p := ⟨w.heap.size, 0, none⟩) (Nat.le_refl _) (.int .i64 S)
    clear HB HR
    generalize w2.setCell _ _ = W3 at *
    go_wp2_with fail
    have hB2 := set6 (x0 := .int .i64 S) (x1 := .int .i64 su) (x2 := .int .i64 nx) (x3 := .int .i64 gt) (x4 := .int .i64 sl) (x5 := .slice a l.length c) hB (Nat.le_succ w.heap.size)
    exact bodyPost_ret (v := .agg #[.int .i64 S, .int .i64 su, .int .i64 nx, .int .i64 gt, .int .i64 sl, .slice a l.length c]) (by simp [results, Tryz.results108, go_sem, hR]) rfl ⟨_, rfl, HV.out.below hB2, hB2⟩
  have g1 := eq_f h1
  by_cases h4 : d.sa = 4
  · rw [ask_mani h4]
    clear HY HV
    generalize maniD f d = D at *
    obtain ⟨xa, xu, xn, xg, xl, xo⟩ := D
    obtain ⟨sa, su, nx, gt, sl, l⟩ := d
    dsimp only at *
    subst h4
    go_enter Tryz.func108, Tryz.ntmps108
    go_wp2_with fail
    refine (HM.out _ hB).mono ?_
    generalize (w.alloc _).alloc _ = W at *
    rintro e w2 ⟨u, rfl, hO, hb⟩
    replace hB := thenB hB hb
    replace hR := resB hR hb
    rw [← hs] at hO
    clear hb HM hX
    obtain ⟨a3, c3, rfl⟩ := hO.form
    go_wp2_with fail
    exact bodyPost_ret (v := .agg #[.int .i64 xa, .int .i64 xu, .int .i64 xn, .int .i64 xg, .int .i64 xl, .slice a3 xo.length c3]) (by simp [results, Tryz.results108, go_sem, hR]) rfl ⟨_, rfl, (hO.set6 (Nat.lt_succ_self _) _ _ _ _ _ _).mono (by omega), set6 hB (Nat.le_succ _)⟩
  · rw [ask_other h1 h4]
    have g4 := eq_f h4
    clear HM HY
    obtain ⟨sa, su, nx, gt, sl, l⟩ := d
    dsimp only at *
    go_enter Tryz.func108, Tryz.ntmps108
    go_wp2_with fail
    refine bodyPost_ret (v := .agg #[.int .i64 sa, .int .i64 su, .int .i64 nx, .int .i64 gt, .int .i64 sl, .slice a l.length c]) (by simp [results, Tryz.results108, go_sem]) rfl ⟨_, rfl, HV.out.below ?_, ?_⟩ <;> exact thenB (hal _ _) (hal _ _)
end Go.Proofs.YtmlfkbkpkgaefaaGreatDoor.StsAsk

/- The contract of status.Get: whatever it is asked, the device, the answer and the error that the plain functions give. -/
namespace Go.Proofs.YtmlfkbkpkgaefaaGreatDoor.StsGet
open Go.Proofs.YtmlfkbkpkgaefaaGreatDoor Go.RowKit Go.Proofs.YtmlfkbkpkgaefaaGreatDoor.Bytes Go.Proofs.YtmlfkbkpkgaefaaGreatDoor.Ops Go.Proofs.YtmlfkbkpkgaefaaGreatDoor.OpsRow Go.Proofs.YtmlfkbkpkgaefaaGreatDoor.Jou Go.Proofs.YtmlfkbkpkgaefaaGreatDoor.Act Go.Proofs.YtmlfkbkpkgaefaaGreatDoor.Dev Go.Proofs.YtmlfkbkpkgaefaaGreatDoor.DevRow Go.Proofs.YtmlfkbkpkgaefaaGreatDoor.DevSet Go.Proofs.YtmlfkbkpkgaefaaGreatDoor.Dnl Go.Proofs.YtmlfkbkpkgaefaaGreatDoor.DnlCopy Go.Proofs.YtmlfkbkpkgaefaaGreatDoor.Tic Go.Proofs.YtmlfkbkpkgaefaaGreatDoor.TicRow Go.Proofs.YtmlfkbkpkgaefaaGreatDoor.Sts Go.Proofs.YtmlfkbkpkgaefaaGreatDoor.StsWalk Go.Proofs.YtmlfkbkpkgaefaaGreatDoor.StsAsk
open Go.Proofs.YtmlfkbkpkgaefaaGreatDoor.DevWalk (build_d0)
open Go.Proofs.YtmlfkbkpkgaefaaGreatDoor.DnlWalk (dev_steps)
attribute [local go_sem ↓] Go.wp_at_zero Go.wp_at_succ
theorem bD {B : Nat} {a w : World} (h : Below B a w) : Below B a w.drew := ⟨h.os, h.tape, h.output, h.size, h.block⟩
/-- What a call to Get gives: a device whose steps lie in memory made since and may be written, what it tells, an error. -/
def Got (w : World) (d : FDev) (e : Int) (r : Ending) (w' : World) : Prop := ∃ u, r = .returned (.tuple #[.agg #[.int .i64 d.sa, .int .i64 d.su, .int .i64 d.nx, .int .i64 d.gt, .int .i64 d.sl, u], .agg #[.int .i64 d.su, .int .i64 (tkI d), .int .i64 d.sa], .int .i64 e]) ∧ OwnSt w' w.heap.size u d.ops ∧ Below w.heap.size w w'
/-- A store into another block. -/
theorem ans_other {w : World} {B : Nat} {x y z : Value} (h : B < w.heap.size ∧ w.cell? ⟨B, 0, none⟩ = some x ∧ w.cell? ⟨B, 1, none⟩ = some y ∧ w.cell? ⟨B, 2, none⟩ = some z ∧ ∀ i, w.frozen? ⟨B, i, none⟩ = false) {A : Nat} (hA : A ≠ B) (i : Nat) (u : Value) : B < (w.setCell ⟨A, i, none⟩ u).heap.size ∧ (w.setCell ⟨A, i, none⟩ u).cell? ⟨B, 0, none⟩ = some x ∧ (w.setCell ⟨A, i, none⟩ u).cell? ⟨B, 1, none⟩ = some y ∧ (w.setCell ⟨A, i, none⟩ u).cell? ⟨B, 2, none⟩ = some z ∧ ∀ j, (w.setCell ⟨A, i, none⟩ u).frozen? ⟨B, j, none⟩ = false := by
  obtain ⟨h, h0, h1, h2, h6⟩ := h
  have o : ∀ j, (w.setCell ⟨A, i, none⟩ u).cell? ⟨B, j, none⟩ = w.cell? ⟨B, j, none⟩ := fun j => World.cell?_setCell_other w _ _ _ (ne_blk hA)
  exact ⟨by rw [size_set]; exact h, by rw [o 0]; exact h0, by rw [o 1]; exact h1, by rw [o 2]; exact h2, fun j => by rw [World.frozen?_setCell]; exact h6 j⟩
theorem ansD {w w' : World} {B : Nat} {x y z : Value} (hb : Below w.heap.size w w') (h : B < w.heap.size ∧ w.cell? ⟨B, 0, none⟩ = some x ∧ w.cell? ⟨B, 1, none⟩ = some y ∧ w.cell? ⟨B, 2, none⟩ = some z ∧ ∀ i, w.frozen? ⟨B, i, none⟩ = false) : B < w'.heap.size ∧ w'.cell? ⟨B, 0, none⟩ = some x ∧ w'.cell? ⟨B, 1, none⟩ = some y ∧ w'.cell? ⟨B, 2, none⟩ = some z ∧ ∀ i, w'.frozen? ⟨B, i, none⟩ = false := AnsWalk.resB h hb
theorem ansO6 {w : World} {B : Nat} {x y z : Value} (h : B < w.heap.size ∧ w.cell? ⟨B, 0, none⟩ = some x ∧ w.cell? ⟨B, 1, none⟩ = some y ∧ w.cell? ⟨B, 2, none⟩ = some z ∧ ∀ i, w.frozen? ⟨B, i, none⟩ = false) {A : Nat} (hA : A ≠ B) (y0 y1 y2 y3 y4 y5 : Value) : B < ((((((w.setCell ⟨A, 0, none⟩ y0).setCell ⟨A, 1, none⟩ y1).setCell ⟨A, 2, none⟩ y2).setCell ⟨A, 3, none⟩ y3).setCell ⟨A, 4, none⟩ y4).setCell ⟨A, 5, none⟩ y5).heap.size ∧ ((((((w.setCell ⟨A, 0, none⟩ y0).setCell ⟨A, 1, none⟩ y1).setCell ⟨A, 2, none⟩ y2).setCell ⟨A, 3, none⟩ y3).setCell ⟨A, 4, none⟩ y4).setCell ⟨A, 5, none⟩ y5).cell? ⟨B, 0, none⟩ = some x ∧ ((((((w.setCell ⟨A, 0, none⟩ y0).setCell ⟨A, 1, none⟩ y1).setCell ⟨A, 2, none⟩ y2).setCell ⟨A, 3, none⟩ y3).setCell ⟨A, 4, none⟩ y4).setCell ⟨A, 5, none⟩ y5).cell? ⟨B, 1, none⟩ = some y ∧ ((((((w.setCell ⟨A, 0, none⟩ y0).setCell ⟨A, 1, none⟩ y1).setCell ⟨A, 2, none⟩ y2).setCell ⟨A, 3, none⟩ y3).setCell ⟨A, 4, none⟩ y4).setCell ⟨A, 5, none⟩ y5).cell? ⟨B, 2, none⟩ = some z ∧ ∀ j, ((((((w.setCell ⟨A, 0, none⟩ y0).setCell ⟨A, 1, none⟩ y1).setCell ⟨A, 2, none⟩ y2).setCell ⟨A, 3, none⟩ y3).setCell ⟨A, 4, none⟩ y4).setCell ⟨A, 5, none⟩ y5).frozen? ⟨B, j, none⟩ = false :=
  ans_other (ans_other (ans_other (ans_other (ans_other (ans_other h hA 0 y0) hA 1 y1) hA 2 y2) hA 3 y3) hA 4 y4) hA 5 y5
theorem three_boxes (w : World) (x0 x1 x2 x3 x4 x5 : Value) : ∃ W, ((w.alloc (.cells #[x0, x1, x2, x3, x4, x5] 24)).alloc (.cells #[.int .i64 0, .int .i64 0, .int .i64 0, .int .i64 0, .int .i64 0, .slice none 0 0] 24)).alloc (.cells #[.int .i64 0, .int .i64 0, .int .i64 0] 52) = W ∧ Res W w.heap.size x0 x1 x2 x3 x4 x5 ∧ Res W (w.heap.size + 1) (.int .i64 0) (.int .i64 0) (.int .i64 0) (.int .i64 0) (.int .i64 0) (.slice none 0 0) ∧ (w.heap.size + 1 + 1 < W.heap.size ∧ W.cell? ⟨w.heap.size + 1 + 1, 0, none⟩ = some (.int .i64 0) ∧ W.cell? ⟨w.heap.size + 1 + 1, 1, none⟩ = some (.int .i64 0) ∧ W.cell? ⟨w.heap.size + 1 + 1, 2, none⟩ = some (.int .i64 0) ∧ ∀ i, W.frozen? ⟨w.heap.size + 1 + 1, i, none⟩ = false) ∧ Below w.heap.size w W ∧ w.heap.size + 1 + 1 + 1 = W.heap.size := by
  obtain ⟨hX, hR, hB, hs⟩ := two_boxes w x0 x1 x2 x3 x4 x5
  refine ⟨_, rfl, ?_⟩
  generalize (w.alloc (.cells #[x0, x1, x2, x3, x4, x5] 24)).alloc (.cells #[.int .i64 0, .int .i64 0, .int .i64 0, .int .i64 0, .int .i64 0, .slice none 0 0] 24) = W at *
  have hA := AnsWalk.resM W (.int .i64 0) (.int .i64 0) (.int .i64 0) 52
  rw [← hs] at hA
  exact ⟨resB hX (hal _ _), resB hR (hal _ _), hA, thenB hB (hal _ _), by rw [hs]; simp⟩
theorem both_no {f : ByteArray} {d : FDev} (h : bothB f d = false) : mayF f = false ∨ (mayF f = true ∧ devB d = false) := by
  unfold bothB at h
  cases h1 : mayF f with
  | false => exact .inl rfl
  | true => rw [h1] at h; exact .inr ⟨rfl, by simpa using h⟩
set_option maxRecDepth 100000 in
set_option maxHeartbeats 2000000 in
theorem get_none (f : ByteArray) (d : FDev) (v : Value) (w : World) (hv : IsSt w v d.ops) (h : bothB f d = false) : Calls Tryz.prog 90 #[.string f, .agg #[.int .i64 d.sa, .int .i64 d.su, .int .i64 d.nx, .int .i64 d.gt, .int .i64 d.sl, v]] w (Got w newD 1900) := by
  have HM := hide (fun w => NorWalk.may_any f w)
  have HD : Hid (∀ (w' : World), Below w.heap.size w w' → _) := fun w' hb => DevWalk.dmay_any d v w' (hv.below hb)
  obtain ⟨W, hW, hX, hR, hA, hB, hs⟩ := three_boxes w (.int .i64 d.sa) (.int .i64 d.su) (.int .i64 d.nx) (.int .i64 d.gt) (.int .i64 d.sl) v
  have b1 := build_d0
  have b2 := AnsWalk.build_no
  have hmm : NorWalk.mayB f = mayF f := rfl
  rw [hmm] at HM
  clear hmm
  unfold newD
  have hk : tkI ⟨0, 0, 0, 0, 0, []⟩ = 0 := rfl
  unfold Got
  rw [hk]
  clear hk
  obtain ⟨a, ca, rfl, _, _⟩ := hv
  subst hW
  rcases both_no h with h1 | ⟨h1, h2⟩
  · rw [h1] at HM
    clear h1 h
    go_enter Tryz.func90, Tryz.ntmps90
    go_wp2_with (go_at_call 21; refine (HM.out _).mono ?_; rintro e w' ⟨rfl, rfl⟩)
    exact bodyPost_ret (v := .tuple #[.agg #[.int .i64 0, .int .i64 0, .int .i64 0, .int .i64 0, .int .i64 0, .slice none 0 0], .agg #[.int .i64 0, .int .i64 0, .int .i64 0], .int .i64 1900]) (by simp [results, Tryz.results90, go_sem, hR, hA]) rfl ⟨_, rfl, own_none _ _, hB⟩
  · rw [h1] at HM
    rw [h2] at HD
    clear h1 h2 h
    go_enter Tryz.func90, Tryz.ntmps90
    go_wp2_with (first | (go_at_call 21; refine (HM.out _).mono ?_; rintro e w' ⟨rfl, rfl⟩) | (go_at_call 22; refine (HD.out _ hB).mono ?_; rintro e w' ⟨rfl, hb⟩; replace hB := thenB hB hb; replace hX := resB hX hb; replace hR := resB hR hb; replace hA := AnsWalk.resB hA hb; clear hb))
    exact bodyPost_ret (v := .tuple #[.agg #[.int .i64 0, .int .i64 0, .int .i64 0, .int .i64 0, .int .i64 0, .slice none 0 0], .agg #[.int .i64 0, .int .i64 0, .int .i64 0], .int .i64 1900]) (by simp [results, Tryz.results90, go_sem, hR, hA]) rfl ⟨_, rfl, own_none _ _, AnsWalk.set3 (set6 hB (Nat.le_succ _)) (by omega)⟩
set_option maxRecDepth 100000 in
set_option maxHeartbeats 2000000 in
theorem get_some (f : ByteArray) (d : FDev) (v : Value) (w : World) (hv : IsSt w v d.ops) (h : bothB f d = true) : Calls Tryz.prog 90 #[.string f, .agg #[.int .i64 d.sa, .int .i64 d.su, .int .i64 d.nx, .int .i64 d.gt, .int .i64 d.sl, v]] w (Got w (askD f d) 0) := by
  obtain ⟨h1, h2⟩ := both_parts.1 h
  have hl := (dev_parts h2).2.2.2
  have hm := dev_steps h2
  have HM := hide (fun w => NorWalk.may_any f w)
  have HD : Hid (∀ (w' : World), Below w.heap.size w w' → _) := fun w' hb => DevWalk.dmay_any d v w' (hv.below hb)
  have HF : Hid (∀ (w' : World), Below w.heap.size w w' → _) := fun w' hb => fresh_any d v w' (hv.below hb) hm hl
  have HK := hide (fun u w' base (hb : base ≤ w'.heap.size) (hu : OwnSt w' base u d.ops) => asked_any f d u w' base hb hu h2)
  have HA := hide (fun u w' (hu : IsSt w' u (askD f d).ops) => answerOf_any (askD f d) u w' hu)
  obtain ⟨W, hW, hX, hR, hA, hB, hs⟩ := three_boxes w (.int .i64 d.sa) (.int .i64 d.su) (.int .i64 d.nx) (.int .i64 d.gt) (.int .i64 d.sl) v
  have hmm : NorWalk.mayB f = mayF f := rfl
  rw [hmm, h1] at HM
  rw [h2] at HD
  clear hmm h h1 h2 hm hl
  unfold Got
  generalize tkI (askD f d) = K at *
  generalize askD f d = D at *
  obtain ⟨a, ca, rfl, _, _⟩ := hv
  obtain ⟨xa, xu, xn, xg, xl, xo⟩ := D
  obtain ⟨sa, su, nx, gt, sl, l⟩ := d
  dsimp only at *
  subst hW
  go_enter Tryz.func90, Tryz.ntmps90
  go_upto_region 3 with (first | (go_at_call 21; refine (HM.out _).mono ?_; rintro e w' ⟨rfl, rfl⟩) | (go_at_call 22; refine (HD.out _ hB).mono ?_; rintro e w' ⟨rfl, hb⟩; replace hB := thenB hB hb; replace hX := resB hX hb; replace hR := resB hR hb; replace hA := AnsWalk.resB hA hb; replace hs := Nat.le_trans (Nat.le_of_eq hs) hb.size; clear hb))
  clear HM HD
  go_wp2_with fail
  refine (HF.out _ hB).mono ?_
  rintro e w2 ⟨u, rfl, hown, hb⟩
  obtain ⟨a', c', rfl⟩ := owns_form hown
  have hO := (own_of hown).mono hs
  replace hs := Nat.le_trans hs hb.size
  replace hB := thenB hB hb
  replace hX := resB hX hb
  replace hR := resB hR hb
  replace hA := AnsWalk.resB hA hb
  clear hb hown HF
  go_wp2_with fail
  refine (HK.out _ _ _ hs hO).mono ?_
  rintro e w3 ⟨u, rfl, hO2, hb⟩
  obtain ⟨a3, c3, rfl⟩ := hO2.form
  replace hB := thenB hB hb
  replace hX := resB hX hb
  replace hR := resB hR hb
  replace hA := AnsWalk.resB hA hb
  clear hb hO hs HK
  have HB := hide hB
  have HR := hide hR
  have HAA := hide hA
  clear hB hR hA
  go_upto_region 4 with fail
  have hne : w.heap.size ≠ w.heap.size + 1 := Nat.ne_of_lt (Nat.lt_succ_self _)
  have hX := res6 hX (.int .i64 xa) (.int .i64 xu) (.int .i64 xn) (.int .i64 xg) (.int .i64 xl) (.slice a3 xo.length c3)
  have hR := resO6 HR.out hne (.int .i64 xa) (.int .i64 xu) (.int .i64 xn) (.int .i64 xg) (.int .i64 xl) (.slice a3 xo.length c3)
  have hA := ansO6 HAA.out (show w.heap.size ≠ w.heap.size + 1 + 1 by omega) (.int .i64 xa) (.int .i64 xu) (.int .i64 xn) (.int .i64 xg) (.int .i64 xl) (.slice a3 xo.length c3)
  have hB := set6 (x0 := .int .i64 xa) (x1 := .int .i64 xu) (x2 := .int .i64 xn) (x3 := .int .i64 xg) (x4 := .int .i64 xl) (x5 := .slice a3 xo.length c3) HB.out (Nat.le_refl w.heap.size)
  have hO := hO2.set6 (show w.heap.size < w.heap.size + 1 + 1 + 1 by omega) (.int .i64 xa) (.int .i64 xu) (.int .i64 xn) (.int .i64 xg) (.int .i64 xl) (.slice a3 xo.length c3)
  clear HB HR HAA hO2
  generalize (((((w3.setCell _ _).setCell _ _).setCell _ _).setCell _ _).setCell _ _).setCell _ _ = W4 at *
  go_region_with (go_at_call 109; refine (HA.out _ _ (by first | exact hO.is | exact hO.drewS)).mono ?_; rintro e w5 ⟨rfl, hb⟩; replace hO := hO.below (thenD hb (Below.refl W4.heap.size W4) rfl rfl rfl rfl); replace hB := thenD hb hB rfl rfl rfl rfl; replace hX := resD hb hX; replace hR := resD hb hR; replace hA := ansD hb hA; clear hb)
  all_goals
    go_wp2_with fail
    exact bodyPost_ret (v := .tuple #[.agg #[.int .i64 xa, .int .i64 xu, .int .i64 xn, .int .i64 xg, .int .i64 xl, .slice a3 xo.length c3], .agg #[.int .i64 xu, .int .i64 K, .int .i64 xa], .int .i64 0]) (by simp [results, Tryz.results90, go_sem, hR, hA]) rfl ⟨_, rfl, ((((hO.set6 (Nat.lt_succ_of_lt (Nat.lt_succ_self _)) _ _ _ _ _ _).set (Nat.lt_succ_self _) 0 _).set (Nat.lt_succ_self _) 1 _).set (Nat.lt_succ_self _) 2 _).mono (by omega), AnsWalk.set3 (set6 hB (Nat.le_succ _)) (by omega)⟩
theorem get_any (f : ByteArray) (d : FDev) (v : Value) (w : World) (hv : IsSt w v d.ops) : Calls Tryz.prog 90 #[.string f, .agg #[.int .i64 d.sa, .int .i64 d.su, .int .i64 d.nx, .int .i64 d.gt, .int .i64 d.sl, v]] w (Got w (getD f d) (errT (bothB f d))) := by
  cases h : bothB f d with
  | false => rw [get_no h]; exact get_none f d v w hv h
  | true => rw [get_ok h]; exact get_some f d v w hv h
end Go.Proofs.YtmlfkbkpkgaefaaGreatDoor.StsGet

/- Asked again, a device stays: it may be, and it tells the same. No program is named here. -/
namespace Go.Proofs.YtmlfkbkpkgaefaaGreatDoor.Sts
open Go.Proofs.YtmlfkbkpkgaefaaGreatDoor Go.Proofs.YtmlfkbkpkgaefaaGreatDoor.Nor Go.Proofs.YtmlfkbkpkgaefaaGreatDoor.Ent Go.Proofs.YtmlfkbkpkgaefaaGreatDoor.Ops Go.Proofs.YtmlfkbkpkgaefaaGreatDoor.Jou Go.Proofs.YtmlfkbkpkgaefaaGreatDoor.Act Go.Proofs.YtmlfkbkpkgaefaaGreatDoor.Pla Go.Proofs.YtmlfkbkpkgaefaaGreatDoor.Ans Go.Proofs.YtmlfkbkpkgaefaaGreatDoor.Dev Go.Proofs.YtmlfkbkpkgaefaaGreatDoor.Dnl Go.Proofs.YtmlfkbkpkgaefaaGreatDoor.Tic Go.Proofs.YtmlfkbkpkgaefaaGreatDoor.DnlDoes
theorem er_may {s : Int} (h0 : 0 ≤ s) (h1 : s ≤ 1) : mayAll [⟨true, (1 - s) * 96, ⟨#[]⟩⟩] = true := by
  obtain rfl | rfl : s = 0 ∨ s = 1 := by omega
  · decide
  · decide
theorem appE_may (f : ByteArray) : mayAll (appE f) = true := by
  unfold appE
  split
  · rfl
  · exact er_may (home_01 f).1 (home_01 f).2
theorem rec_may (f : ByteArray) (t z : Int) : mayAll (recL f t z) = true := by
  rcases rec_ways f t z with ⟨_, h⟩ | ⟨_, _, _, _, _, _, h⟩
  · unfold recL
    rw [app_ok h, ← (app_words h).2.2]
    exact may_append (appE_may f) may_words
  · rw [h]; rfl
theorem dev_with {d : FDev} (h : devB d = true) {s : Int} {l : List FOp} (hs : saB s = true) (hl : stepsB l = true) : devB ⟨s, d.su, d.nx, d.gt, d.sl, l⟩ = true := by
  unfold devB at h ⊢
  simp only [Bool.and_eq_true] at h ⊢
  obtain ⟨⟨⟨⟨⟨_, h1⟩, h2⟩, h3⟩, h4⟩, _⟩ := h
  exact ⟨⟨⟨⟨⟨hs, h1⟩, h2⟩, h3⟩, h4⟩, hl⟩
theorem dev_stB {d : FDev} (h : devB d = true) : stepsB d.ops = true := by
  unfold devB at h
  simp only [Bool.and_eq_true] at h
  exact h.2
theorem sync_ways (d : FDev) : (d.ops.length = 0 ∧ syncI d = 3) ∨ (¬ d.ops.length = 0 ∧ syncI d = 2) := by
  unfold syncI
  by_cases h : d.ops.length = 0
  · exact .inl ⟨h, if_pos h⟩
  · exact .inr ⟨h, if_neg h⟩
theorem mani_may {f : ByteArray} {d : FDev} (h : devB d = true) : devB (maniD f d) = true := by
  by_cases he : errS f d.sl d.gt = 0
  · rw [mani_ok he]
    refine dev_with h rfl ?_
    have := rec_few f d.sl d.gt
    rw [stepsB_short (by omega)]
    exact rec_may f _ _
  · rw [mani_no he]
    exact failed_may (by decide)
theorem ask_may {f : ByteArray} {d : FDev} (h : devB d = true) : devB (askD f d) = true := by
  by_cases h1 : d.sa = 1
  · rw [ask_sync h1]
    refine dev_with h ?_ (dev_stB h)
    rcases sync_ways d with ⟨_, e⟩ | ⟨_, e⟩ <;> rw [e] <;> rfl
  by_cases h4 : d.sa = 4
  · rw [ask_mani h4]; exact mani_may h
  rw [ask_other h1 h4]; exact h
theorem ask_again (f : ByteArray) (d : FDev) : askD f (askD f d) = askD f d := by
  by_cases h1 : d.sa = 1
  · rw [ask_sync h1]
    rcases sync_ways d with ⟨_, e⟩ | ⟨_, e⟩
    · rw [e]; exact ask_other (show ¬ (3 : Int) = 1 by decide) (show ¬ (3 : Int) = 4 by decide)
    · rw [e]; exact ask_other (show ¬ (2 : Int) = 1 by decide) (show ¬ (2 : Int) = 4 by decide)
  by_cases h4 : d.sa = 4
  · rw [ask_mani h4]
    by_cases he : errS f d.sl d.gt = 0
    · rw [mani_ok he]; exact ask_other (show ¬ (5 : Int) = 1 by decide) (show ¬ (5 : Int) = 4 by decide)
    · rw [mani_no he]; exact ask_other (show ¬ (7 : Int) = 1 by decide) (show ¬ (7 : Int) = 4 by decide)
  rw [ask_other h1 h4, ask_other h1 h4]
theorem get_twice {f : ByteArray} {d : FDev} (h : bothB f d = true) : bothB f (askD f d) = true ∧ getD f (askD f d) = askD f d := by
  obtain ⟨h1, h2⟩ := both_parts.1 h
  have h3 : bothB f (askD f d) = true := both_parts.2 ⟨h1, ask_may h2⟩
  exact ⟨h3, by rw [get_ok h3, ask_again]⟩
end Go.Proofs.YtmlfkbkpkgaefaaGreatDoor.Sts
