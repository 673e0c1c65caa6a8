/- The contract of 'awake' of the laws over package upload, which asks what is known of a few questions: it answers true. -/
import Derived.Test.YthcknngmpcepfaaUplGive
import Derived.Test.YthcknngmpcepfaaHeldCalls
import Derived.Test.YthcknngmpcepfaaBagDev
import Derived.Test.YthcknngmpcepfaaBagDoc
import Derived.Test.YthcknngmpcepfaaBagImg
import Derived.Deep.RegionHeld3
import Derived.Deep.DrawnRows
namespace Go.Proofs.Ythcknngmpcepfaa.UplAwake
open Go.Proofs.Ythcknngmpcepfaa Go.RowKit Go.Proofs.Ythcknngmpcepfaa.Bytes Go.Proofs.Ythcknngmpcepfaa.Nor Go.Proofs.Ythcknngmpcepfaa.Ops Go.Proofs.Ythcknngmpcepfaa.OpsRow Go.Proofs.Ythcknngmpcepfaa.Jou Go.Proofs.Ythcknngmpcepfaa.Act Go.Proofs.Ythcknngmpcepfaa.Cho Go.Proofs.Ythcknngmpcepfaa.Held Go.Proofs.Ythcknngmpcepfaa.Dev Go.Proofs.Ythcknngmpcepfaa.DevRow Go.Proofs.Ythcknngmpcepfaa.DevSet Go.Proofs.Ythcknngmpcepfaa.Dnl Go.Proofs.Ythcknngmpcepfaa.DnlCopy Go.Proofs.Ythcknngmpcepfaa.Tic Go.Proofs.Ythcknngmpcepfaa.TicRow Go.Proofs.Ythcknngmpcepfaa.Upl Go.Proofs.Ythcknngmpcepfaa.UplGive
open Go.Proofs.Ythcknngmpcepfaa.DevWalk (build_d0)
open Go.Proofs.Ythcknngmpcepfaa.DevAwake (hal same_bare)
theorem build_s (x : Int) (w : World) : (Instr.build 24 #[(0, .int .i64 x)]).run Try.prog w = .ok (.agg #[.int .i64 x, .int .i64 0, .int .i64 0, .int .i64 0, .int .i64 0, .slice none 0 0]) w := run_build w 24 _ _ (by kernel_rfl)
/-- What Give gives of a device without steps: one without steps. -/
theorem given {f : ByteArray} {d : FDev} {b n : Int} {D : FDev} {s : ByteArray} (ho : okU f d b n = true) (h1 : toldD f d b n = D) (h2 : toldS f d b n = s) (hD : D.ops = []) (v : Value) (w : World) (hv : IsSt w v d.ops) : Calls Try.prog 10 #[.string f, .agg #[.int .i64 d.sa, .int .i64 d.su, .int .i64 d.nx, .int .i64 d.gt, .int .i64 d.sl, v], .int .i64 b, .int .i64 n] w fun r w' => ∃ a c, r = .returned (.tuple #[.agg #[.int .i64 D.sa, .int .i64 D.su, .int .i64 D.nx, .int .i64 D.gt, .int .i64 D.sl, .slice a 0 c], .string s, .int .i64 0]) ∧ IsSt w' (.slice a 0 c) [] ∧ Below w.heap.size w w' := by
  have g := give_any f d v b n w hv
  rw [ho, (give_ok ho).1, (give_ok ho).2, h1, h2, show errV true = 0 from rfl] at g
  refine g.mono ?_
  rintro e w' ⟨u, rfl, hO, hb⟩
  obtain ⟨a, c, rfl⟩ := hO.form
  have h3 := hO.is
  rw [hD] at h3 ⊢
  exact ⟨a, c, rfl, h3, hb⟩
theorem none_given {f : ByteArray} {d : FDev} {b n : Int} (ho : okU f d b n = false) (v : Value) (w : World) (hv : IsSt w v d.ops) : Calls Try.prog 10 #[.string f, .agg #[.int .i64 d.sa, .int .i64 d.su, .int .i64 d.nx, .int .i64 d.gt, .int .i64 d.sl, v], .int .i64 b, .int .i64 n] w fun r w' => ∃ a c, r = .returned (.tuple #[.agg #[.int .i64 0, .int .i64 0, .int .i64 0, .int .i64 0, .int .i64 0, .slice a 0 c], .string ⟨#[]⟩, .int .i64 2000]) ∧ IsSt w' (.slice a 0 c) [] ∧ Below w.heap.size w w' := by
  have g := give_any f d v b n w hv
  rw [ho, (give_no ho).1, (give_no ho).2, show errV false = 2000 from rfl] at g
  refine g.mono ?_
  rintro e w' ⟨u, rfl, hO, hb⟩
  obtain ⟨a, c, rfl⟩ := hO.form
  exact ⟨a, c, rfl, hO.is, hb⟩
theorem isSt_any {w w' : World} {v : Value} (h : IsSt w v []) : IsSt w' v [] := by
  obtain ⟨a, cap, rfl, h0, _⟩ := h
  exact ⟨a, cap, rfl, h0, .inl rfl⟩
theorem held_err : errA heldS = 0 := (act_may held_act).2.2
theorem held_actS : actS heldS = ab := by
  unfold actS
  rw [(act_may held_act).2.1]
  exact held_img sumAb sumAb_lt 1 (by omega)
theorem held_may : mayF heldS = true := mayF_t size_heldS
theorem may_blank : mayF blankS = true := mayF_t size_blankS
theorem ok_held {d : FDev} {b n : Int} (hd : devB d = true) (h : (readsB d.sa && askB b n) = true) : okU heldS d b n = true := by
  unfold okU bothB
  rw [held_may, hd, Bool.and_assoc, h]
  rfl
/-- A device that is idle is told the image's first bytes: fewer than a block has, so that it is new. -/
theorem told_held (n : Int) (h : n ≤ 32) : toldD heldS newD 0 n = newD ∧ toldS heldS newD 0 n = pieceN ab 0 n.toNat := by
  obtain ⟨h1, h2⟩ := told_is (d := newD) n held_err (show (0 : Int) = nextU newD from rfl)
  have hd : dataS heldS newD n = pieceN ab 0 n.toNat := by unfold dataS; rw [held_actS]; rfl
  rw [h1, h2, hd]
  refine ⟨?_, rfl⟩
  unfold behindD
  rw [if_pos]
  rw [size_pieceN]
  have : ab.size = 12 := size_ab
  omega
theorem k1 (w : World) : Calls Try.prog 10 #[.string heldS, .agg #[.int .i64 0, .int .i64 0, .int .i64 0, .int .i64 0, .int .i64 0, .slice none 0 0], .int .i64 0, .int .i64 32] w fun r w' => ∃ a c, r = .returned (.tuple #[.agg #[.int .i64 0, .int .i64 0, .int .i64 0, .int .i64 0, .int .i64 0, .slice a 0 c], .string ⟨#[97, 98, 97, 98, 97, 98, 97, 98, 97, 98, 97, 98]⟩, .int .i64 0]) ∧ IsSt w' (.slice a 0 c) [] ∧ Below w.heap.size w w' :=
  given (d := newD) (D := newD) (s := ab) (ok_held rfl rfl) (told_held 32 (by omega)).1 ((told_held 32 (by omega)).2.trans (by decide +kernel)) rfl _ w (isSt_nil w)
theorem k2 (w : World) : Calls Try.prog 10 #[.string heldS, .agg #[.int .i64 0, .int .i64 0, .int .i64 0, .int .i64 0, .int .i64 0, .slice none 0 0], .int .i64 1, .int .i64 32] w fun r w' => ∃ a c, r = .returned (.tuple #[.agg #[.int .i64 7, .int .i64 4, .int .i64 0, .int .i64 0, .int .i64 0, .slice a 0 c], .string ⟨#[]⟩, .int .i64 0]) ∧ IsSt w' (.slice a 0 c) [] ∧ Below w.heap.size w w' :=
  given (d := newD) (D := failedD 4) (s := ⟨#[]⟩) (ok_held rfl rfl) (told_other 32 held_err (by decide)).1 (told_other 32 held_err (by decide)).2 rfl _ w (isSt_nil w)
theorem blank_err : ¬ errA blankS = 0 := by rw [blank_act.2.2]; decide
theorem k3 (w : World) : Calls Try.prog 10 #[.string blankS, .agg #[.int .i64 0, .int .i64 0, .int .i64 0, .int .i64 0, .int .i64 0, .slice none 0 0], .int .i64 0, .int .i64 32] w fun r w' => ∃ a c, r = .returned (.tuple #[.agg #[.int .i64 7, .int .i64 2, .int .i64 0, .int .i64 0, .int .i64 0, .slice a 0 c], .string ⟨#[]⟩, .int .i64 0]) ∧ IsSt w' (.slice a 0 c) [] ∧ Below w.heap.size w w' :=
  given (d := newD) (D := failedD 2) (s := ⟨#[]⟩) (okU_parts.2 ⟨may_blank, rfl, .inl rfl, by decide, by decide⟩) (told_none newD 0 32 blank_err).1 (told_none newD 0 32 blank_err).2 rfl _ w (isSt_nil w)
theorem k4 (w : World) : Calls Try.prog 10 #[.string heldS, .agg #[.int .i64 2, .int .i64 0, .int .i64 0, .int .i64 0, .int .i64 0, .slice none 0 0], .int .i64 0, .int .i64 32] w fun r w' => ∃ a c, r = .returned (.tuple #[.agg #[.int .i64 0, .int .i64 0, .int .i64 0, .int .i64 0, .int .i64 0, .slice a 0 c], .string ⟨#[]⟩, .int .i64 2000]) ∧ IsSt w' (.slice a 0 c) [] ∧ Below w.heap.size w w' :=
  none_given (d := ⟨2, 0, 0, 0, 0, []⟩) (by unfold okU; rw [show readsB 2 = false from rfl, Bool.and_false, Bool.false_and]) _ w (isSt_nil w)
set_option maxRecDepth 100000 in
set_option maxHeartbeats 8000000 in
theorem awake_any (w : World) : Calls Try.prog 15 #[] w fun e w' => e = .returned (.bool true) ∧ Below w.heap.size w w' := by
  have b1 := build_d0
  have b2 := build_s
  have hB := Below.refl w.heap.size w
  have HH := hide (fun w => HeldCalls.held20_any w)
  have HL := hide (fun w => NorRef.refBlank_any w)
  have K1 := hide (fun w => k1 w)
  have K2 := hide (fun w => k2 w)
  have K3 := hide (fun w => k3 w)
  have K4 := hide (fun w => k4 w)
  have HS := hide (fun u v w h g => DevHelp.sameDev_yes ⟨0, 0, 0, 0, 0, []⟩ u v w h g)
  dsimp only at HS
  generalize heldS = F at *
  generalize blankS = BS at *
  go_enter Try.func15, Try.ntmps15
  go_wp2_with fail
  refine (HH.out _).mono ?_; rintro e u1 ⟨rfl, hb⟩; replace hB := thenB hB hb; clear hb
  go_wp2_with fail
  refine (K1.out _).mono ?_; rintro e u2 ⟨a1, c1, rfl, hI, hb⟩; replace hB := thenB hB hb; clear hb
  have hA := resM u2 (.int .i64 0) (.int .i64 0) (.int .i64 0) (.int .i64 0) (.int .i64 0) (.slice a1 0 c1) 24
  have hn := hal u2 (.cells #[.int .i64 0, .int .i64 0, .int .i64 0, .int .i64 0, .int .i64 0, .slice a1 0 c1] 24)
  replace hB := thenB hB hn
  replace hI := hI.below hn
  clear hn K1
  go_upto_region 2 with fail
  generalize u2.alloc _ = W1 at *
  generalize u2.heap.size = G1 at *
  go_wp2_with fail
  refine (HH.out _).mono ?_; rintro e u3 ⟨rfl, hb⟩; replace hB := thenB hB hb; replace hA := resB hA hb; replace hI := hI.below hb; clear hb
  go_wp2_with fail
  refine (K2.out _).mono ?_; rintro e u4 ⟨a2, c2, rfl, _, hb⟩; replace hB := thenB hB hb; replace hA := resB hA hb; replace hI := hI.below hb; clear hb
  have hC := resM u4 (.int .i64 7) (.int .i64 4) (.int .i64 0) (.int .i64 0) (.int .i64 0) (.slice a2 0 c2) 24
  have hn := hal u4 (.cells #[.int .i64 7, .int .i64 4, .int .i64 0, .int .i64 0, .int .i64 0, .slice a2 0 c2] 24)
  replace hB := thenB hB hn
  replace hA := resB hA hn
  replace hI := hI.below hn
  clear hn K2
  go_upto_region 3 with fail
  generalize u4.alloc _ = W2 at *
  generalize u4.heap.size = G2 at *
  go_wp2_with fail
  refine (HL.out _).mono ?_; rintro e u5 ⟨rfl, hb⟩; replace hB := thenB hB hb; replace hA := resB hA hb; replace hC := resB hC hb; replace hI := hI.below hb; clear hb
  go_wp2_with fail
  refine (K3.out _).mono ?_; rintro e u6 ⟨a3, c3, rfl, _, hb⟩; replace hB := thenB hB hb; replace hA := resB hA hb; replace hC := resB hC hb; replace hI := hI.below hb; clear hb
  have hP := resM u6 (.int .i64 7) (.int .i64 2) (.int .i64 0) (.int .i64 0) (.int .i64 0) (.slice a3 0 c3) 24
  have hn := hal u6 (.cells #[.int .i64 7, .int .i64 2, .int .i64 0, .int .i64 0, .int .i64 0, .slice a3 0 c3] 24)
  replace hB := thenB hB hn
  replace hA := resB hA hn
  replace hC := resB hC hn
  replace hI := hI.below hn
  clear hn K3 HL
  go_upto_region 4 with fail
  generalize u6.alloc _ = W3 at *
  generalize u6.heap.size = G3 at *
  go_wp2_with fail
  refine (HH.out _).mono ?_; rintro e u7 ⟨rfl, hb⟩; replace hB := thenB hB hb; replace hA := resB hA hb; replace hC := resB hC hb; replace hP := resB hP hb; replace hI := hI.below hb; clear hb
  go_wp2_with fail
  refine (K4.out _).mono ?_; rintro e u8 ⟨a4, c4, rfl, _, hb⟩; replace hB := thenB hB hb; replace hA := resB hA hb; replace hC := resB hC hb; replace hP := resB hP hb; replace hI := hI.below hb; clear hb
  have hn := hal u8 (.cells #[.int .i64 0, .int .i64 0, .int .i64 0, .int .i64 0, .int .i64 0, .slice a4 0 c4] 24)
  replace hB := thenB hB hn
  replace hA := resB hA hn
  replace hC := resB hC hn
  replace hP := resB hP hn
  replace hI := hI.below hn
  clear hn K4 HH
  go_upto_region 5 with fail
  generalize u8.alloc _ = W4 at *
  generalize u8.heap.size = G4 at *
  go_region_held3 (fun W => (W.cell? ⟨G1, 0, none⟩ = some (.int .i64 0) ∧ W.cell? ⟨G1, 1, none⟩ = some (.int .i64 0) ∧ W.cell? ⟨G1, 2, none⟩ = some (.int .i64 0) ∧ W.cell? ⟨G1, 3, none⟩ = some (.int .i64 0) ∧ W.cell? ⟨G1, 4, none⟩ = some (.int .i64 0) ∧ W.cell? ⟨G1, 5, none⟩ = some (.slice a1 0 c1)) ∧ W.cell? ⟨G2, 1, none⟩ = some (.int .i64 4) ∧ W.cell? ⟨G3, 1, none⟩ = some (.int .i64 2)) (go_keep) (first | (go_at_call 13; refine (DevHelp.num_any _ _).mono ?_; rintro e w' ⟨rfl, rfl⟩) | (go_at_call 19; refine (DevRef.newRef_any _).mono ?_; rintro e w8 ⟨rfl, hb⟩; replace hB := thenD hb hB rfl rfl rfl rfl; replace hA := resD hb hA; replace hP := resD hb hP; replace hC := resD hb hC; replace hI := stD hb hI rfl; clear hb) | (go_at_call 12; refine (HS.out _ _ _ (by exact hI) (by exact isSt_nil _)).mono ?_; rintro e w10 ⟨rfl, hb⟩; replace hB := thenD hb hB rfl rfl rfl rfl; replace hA := resD hb hA; replace hP := resD hb hP; replace hC := resD hb hC; clear hb hI))
  go_wp2_with fail
  go_ret
  exact ⟨rfl, hB⟩
end Go.Proofs.Ythcknngmpcepfaa.UplAwake
