/- Whatever the three texts (each within the form's own reach): the law CrcTurned returns true (of three texts cut to one length the sum of what is turned is what the three sums turn to), and the arguments read as they did; no other condition. -/
import Derived.Test.YtfoljmnncmmjgaaRows
import Derived.Test.YtfoljmnncmmjgaaCrcMath
import Derived.Test.YtfoljmnncmmjgaaCrcSum
import Derived.Test.YtfoljmnncmmjgaaCrcAwake
import Derived.Test.YtfoljmnncmmjgaaBytes
import Derived.RegionTactic
import Derived.BigQuiet
import Derived.ChangeOld
import Derived.Below
import Derived.SizedLaws
import Derived.WalkKit
import Derived.ProofKit
import Derived.OpenShut
import Derived.ShutString
namespace Go.Proofs.Ytfoljmnncmmjgaa.crcTurned
open Go.ChangeShapes Go.WideShapes Go.ChangeAt Go.RowKit
open Go.ChangeMaps (open_string shut_string)
set_option linter.unusedVariables false

open Go.Proofs.Ytfoljmnncmmjgaa.CrcSum
open Go.Proofs.Ytfoljmnncmmjgaa.CrcAwake
open Go.Proofs.Ytfoljmnncmmjgaa.Bytes
theorem own : ownKnob Try.prog.godebug = none := by kernel_rfl

theorem info5 : (Try.prog.info? 5).map (fun i => (i.zero, i.size, i.bytes)) = some (some (.int .u8 0), 1, 1) := by kernel_rfl
theorem run_min3 (a b c k : Nat) (h : k = min a (min b c)) (ts : Array TypeId) (t : TypeId) (w : World) : (Builtin.min_ ts t #[.int .i64 (a : Int), .int .i64 (b : Int), .int .i64 (c : Int)]).run Try.prog w = .ok (.int .i64 (k : Int)) w := by
  simp [Builtin.min_, Builtin.min2]
  subst h
  repeat split
  all_goals omega

theorem mixAt_eq (a b c : ByteArray) (j : Nat) (h0 : j < a.size) (h1 : j < b.size) (h2 : j < c.size) : Crc.mixAt a.data.toList b.data.toList c.data.toList j = a[j] ^^^ b[j] ^^^ c[j] := by
  have e : ∀ (s : ByteArray) (h : j < s.size), s.data.toList.getD j 0 = s[j] := fun s h => by
    show _ = s.data[j]
    rw [← List.getElem_eq_getD (h := by simpa using h)]
    simp
  unfold Crc.mixAt
  rw [e a h0, e b h1, e c h2]

set_option maxHeartbeats 400000 in
theorem walk (a0 : ByteArray) (a1 : ByteArray) (a2 : ByteArray) (w0 : a0.size ≤ maxLen) (w1 : a1.size ≤ maxLen) (w2 : a2.size ≤ maxLen) (z0 : a0.size ≤ 140737488351232) (z1 : a1.size ≤ 140737488351232) (z2 : a2.size ≤ 140737488351232) (w : World) :
    Calls Try.prog 6 #[.string a0, .string a1, .string a2] w fun e w' => e = .returned (.bool true) ∧ Below w.heap.size w w' := by
  obtain ⟨k, hk⟩ : ∃ k, k = min a0.size (min a1.size a2.size) := ⟨_, rfl⟩
  have hmin := run_min3 a0.size a1.size a2.size k hk
  have k0 : k ≤ a0.size := by omega
  have k1 : k ≤ a1.size := by omega
  have k2 : k ≤ a2.size := by omega
  clear hk
  have hmk := fun w => run_make_bytes (P := Try.prog) w 28 5 Try.underlying28 info5 k (by omega)
  go_enter Try.func6, Try.ntmps6
  go_wp2_with (first | (go_at_call 11; refine (awake_any _).mono ?_; rintro e w' ⟨rfl, rfl⟩))
  clear hmin hmk
  go_loopw [9] (fun i wr => ∃ j : Nat, j ≤ k ∧ i = .int .i64 j ∧ Below w'.heap.size w' wr ∧ w'.heap.size < wr.heap.size ∧ Row wr w'.heap.size (fillTo (Crc.mixAt a0.data.toList a1.data.toList a2.data.toList) k j)) (fun i _ => k - (intOf i).toNat)
  case atStart => exact ⟨0, Nat.zero_le _, rfl, (Below.refl _ _).alloc (Nat.le_refl _) _, by simp, row_made _ _ _⟩
  case round =>
    obtain ⟨j, hj, rfl, hbel, hsz, hrow⟩ := hrel
    have hlen := length_fillTo (Crc.mixAt a0.data.toList a1.data.toList a2.data.toList) k j
    by_cases hlt : j < k
    · obtain ⟨x, hc⟩ : ∃ x, wr.cell? ⟨w'.heap.size, j, none⟩ = some x := ⟨_, hrow.cell j (by omega)⟩
      have hf := hrow.free j (by omega)
      have HL : Hid ((fillTo (Crc.mixAt a0.data.toList a1.data.toList a2.data.toList) k j).length = k) := hlen
      clear hlen
      have j0 : j < a0.size := by omega
      have j1 : j < a1.size := by omega
      have j2 : j < a2.size := by omega
      have HX : Hid (Crc.mixAt a0.data.toList a1.data.toList a2.data.toList j = a0[j] ^^^ a1[j] ^^^ a2[j]) := mixAt_eq a0 a1 a2 j j0 j1 j2
      go_wp2
      go_region
      go_wp2
      refine ⟨⟨j + 1, by omega, by go_num, (hbel.setCell (Nat.le_refl _) _).drew, by simpa using hsz, ?_⟩, by simp [intOf]; omega⟩
      have h := hrow.set j (Crc.mixAt a0.data.toList a1.data.toList a2.data.toList j) (by rw [HL.out]; exact hlt)
      rw [HX.out] at h
      show Row _ _ ((fillTo (Crc.mixAt a0.data.toList a1.data.toList a2.data.toList) k j).set j (Crc.mixAt a0.data.toList a1.data.toList a2.data.toList j))
      rw [HX.out, xor_u8, xor_u8]
      exact h.drew
    · obtain rfl : j = k := by omega
      rw [fillTo_full, Crc.mix_take _ _ _ _ (by simpa using k0) (by simpa using k1) (by simpa using k2)] at hrow
      rw [fillTo_full, Crc.mix_take _ _ _ _ (by simpa using k0) (by simpa using k1) (by simpa using k2)] at hlen
      have HM : Hid (Crc.sum (Crc.mix (a0.data.toList.take j) (a1.data.toList.take j) (a2.data.toList.take j)) = Crc.sum (a0.data.toList.take j) ^^^ Crc.sum (a1.data.toList.take j) ^^^ Crc.sum (a2.data.toList.take j)) :=
        Crc.sum_mix _ _ _ (by simp; omega) (by simp; omega)
      generalize Crc.mix (a0.data.toList.take j) (a1.data.toList.take j) (a2.data.toList.take j) = M at hrow hlen HM
      have hcv := fun nq => (hrow.drewN nq).text (P := Try.prog) 28 9 5 j j hlen.symm Try.underlying28 Try.underlying5 Try.underlying9
      have hM : (ByteArray.mk M.toArray).size < 9223372036854775808 := by rw [size_mk]; omega
      clear hlen
      go_wp2
      go_quiet ((first | (go_at_call 8; exact Calls.quiet_of_same (num_any _ _)) | (go_at_call 9; refine Calls.quiet_of_same (sum_any _ _ ?_); (first | exact hM | omega | (simp; omega)))))
      go_wp2
      go_ret
      refine ⟨ret_bool ?_, bel_drewN hbel _⟩
      have l0 := Crc.sum_lt (a0.data.toList.take j)
      have l1 := Crc.sum_lt (a1.data.toList.take j)
      have l2 := Crc.sum_lt (a2.data.toList.take j)
      have l3 := Crc.xor_lt _ _ l0 l1
      rw [xor_i64 _ _ (by omega) (by omega), xor_i64 _ _ (by omega) (by omega), HM.out]
      exact beq_self_eq_true _

set_option maxRecDepth 100000 in
theorem lifted (os : Os) (started : os.Started) (H : Type) (enc : TypeId × Value → H) :
    ReturnsInHanded {} Try.checked os 6 .any (Rows.crcTurnedSpec.pre6 enc Try.prog Try.f6 Rows.crcTurnedRow.domain false) (Rows.crcTurnedSpec.post enc Try.prog Try.f6 false true false false) := by
  refine returnsInHanded_of_change_sized (C := Try.checked) own started (by kernel_rfl) Try.func6
    (ChangeSpec.witness6 (enc := enc) (C := Try.checked) false ⟨#[], #[.string ByteArray.empty, .string ByteArray.empty, .string ByteArray.empty], []⟩ 8 (by kernel_rfl) (by kernel_rfl) (by kernel_rfl) (by kernel_rfl)) ?_
  intro W base args ds gs before hval0 hW hcnd hsz0 _
  have hval : ∀ (j : Nat) t v, Try.f6.params[j]? = some t → args[j]? = some v → Value.okWide Try.prog W .any base t v := hval0
  have hW' := hW
  obtain ⟨p, q, hA0, hV, rfl, hfz, hnd⟩ := hW
  have hA : DataW.TrodAll enc Try.prog W 0 (fun _ => true) true Try.f6.params.toList args.toList ds p := hA0
  have hsz : (DataW.weightsEach Try.prog (Try.f6.params.toList ++ Rows.crcTurnedSpec.plain.varTypes Try.prog) (ds ++ gs)).all (· ≤ reachBytes) = true := hsz0
  rw [Try.params6] at hA hval hsz
  obtain ⟨v0, vs0, d0, ds0, p0, q0, hargs, rfl, rfl, h0, r0⟩ := trodAll_cons hA
  obtain ⟨v1, vs1, d1, ds1, p1, q1, rfl, rfl, rfl, h1, r1⟩ := trodAll_cons r0
  obtain ⟨v2, vs2, d2, ds2, p2, q2, rfl, rfl, rfl, h2, r2⟩ := trodAll_cons r1
  obtain ⟨rfl, rfl, rfl⟩ := trodAll_nil r2
  obtain rfl : args = #[v0, v1, v2] := by cases args; simp_all
  obtain ⟨rfl, rfl⟩ := trodVars_none hV
  obtain ⟨a0, rfl, rfl, rfl, w0⟩ := open_string Try.underlying9 (hval 0 9 v0 rfl rfl) h0
  obtain ⟨a1, rfl, rfl, rfl, w1⟩ := open_string Try.underlying9 (hval 1 9 v1 rfl rfl) h1
  obtain ⟨a2, rfl, rfl, rfl, w2⟩ := open_string Try.underlying9 (hval 2 9 v2 rfl rfl) h2
  have z0 : a0.size ≤ 140737488351232 := by have := sized_string hsz (j := 0) (t := 9) rfl rfl; simpa [reachBytes] using this
  have z1 : a1.size ≤ 140737488351232 := by have := sized_string hsz (j := 1) (t := 9) rfl rfl; simpa [reachBytes] using this
  have z2 : a2.size ≤ 140737488351232 := by have := sized_string hsz (j := 2) (t := 9) rfl rfl; simpa [reachBytes] using this
  clear hA0 hval0 hsz0 hsz
  refine (walk a0 a1 a2 w0 w1 w2 z0 z1 z2 W).mono fun e W' ⟨he, bel⟩ => ?_
  subst he
  exact ⟨_, rfl, _, _, _, [], _, [], hW', (trodAll_cons_mk (shut_bool Try.underlying4 _) trodAll_mk0), (trodAll_cons_mk (shut_string Try.underlying9 w0) (trodAll_cons_mk (shut_string Try.underlying9 w1) (trodAll_cons_mk (shut_string Try.underlying9 w2) trodAll_mk0))), rfl, bel.frame _, fun h => by cases h⟩

theorem over : Rows.crcTurnedRow.holds Try.pinned (OpenSpec.ofChange Rows.crcTurnedSpec) :=
  OpenClaim.holds_of_wide 6 Try.f6 rfl rfl rfl rfl rfl rfl rfl ⟨rfl, rfl, rfl, rfl, rfl⟩ rfl rfl rfl rfl rfl (by kernel_rfl) Try.func6 (by kernel_rfl)
    (of_decide_eq_true (by kernel_rfl)) (by unfold Func.isWrapper; first | (rw [if_pos (by decide +kernel)]; kernel_rfl) | (rw [if_neg (by decide +kernel)]; exact ⟨rfl, rfl⟩))
    (fun os started H enc _ => lifted os started H enc)

theorem proved : Rows.CrcTurnedSaid :=
  over
#print axioms proved
end Go.Proofs.Ytfoljmnncmmjgaa.crcTurned
