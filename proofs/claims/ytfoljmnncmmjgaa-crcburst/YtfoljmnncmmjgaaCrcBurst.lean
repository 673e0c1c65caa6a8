/- Whatever the text (within the form's own reach) and the two numbers: the law CrcBurst returns true (a stretch of at most 32 bits that is turned turns the sum), and the arguments read as they did; no other condition. -/
import Derived.Test.YtfoljmnncmmjgaaRows
import Derived.Test.YtfoljmnncmmjgaaCrcMath
import Derived.Test.YtfoljmnncmmjgaaCrcSum
import Derived.Test.YtfoljmnncmmjgaaCrcAwake
import Derived.Test.YtfoljmnncmmjgaaBytes
import Derived.RegionTactic
import Derived.BigQuiet
import Derived.ChangeOld
import Derived.Below
import Derived.SizedLaws
import Derived.WalkKit
import Derived.ProofKit
import Derived.OpenShut
import Derived.ShutString
namespace Go.Proofs.Ytfoljmnncmmjgaa.crcBurst
open Go.ChangeShapes Go.WideShapes Go.ChangeAt Go.RowKit
open Go.ChangeMaps (open_string shut_string)
set_option linter.unusedVariables false

open Go.Proofs.Ytfoljmnncmmjgaa.CrcSum
open Go.Proofs.Ytfoljmnncmmjgaa.CrcAwake
open Go.Proofs.Ytfoljmnncmmjgaa.Bytes
theorem own : ownKnob Try.prog.godebug = none := by kernel_rfl

theorem at_of (n : Nat) (a : Int) (h : 4 ≤ n) (hn : n ≤ 140737488351232) : ∃ k : Nat, k + 4 ≤ n ∧ wrap64 ((IntKind.u64.wrap a).tmod ((n : Int) - 3)) = (k : Int) := by
  have e : IntKind.u64.wrap a = a % 18446744073709551616 := by simp [IntKind.wrap, IntKind.bits, IntKind.signed]
  rw [e, Int.tmod_eq_emod_of_nonneg (by omega)]
  have h1 := Int.emod_nonneg (a % 18446744073709551616) (show (n : Int) - 3 ≠ 0 by omega)
  have h2 := Int.emod_lt_of_pos (a % 18446744073709551616) (show 0 < (n : Int) - 3 by omega)
  generalize a % 18446744073709551616 % ((n : Int) - 3) = m at h1 h2
  refine ⟨m.toNat, by omega, ?_⟩
  unfold wrap64
  omega
theorem by_of (a : Int) : ∃ y : Nat, y < 4294967295 ∧ wrap64 ((IntKind.u64.wrap a).tmod 4294967295) = (y : Int) := by
  have e : IntKind.u64.wrap a = a % 18446744073709551616 := by simp [IntKind.wrap, IntKind.bits, IntKind.signed]
  rw [e, Int.tmod_eq_emod_of_nonneg (by omega)]
  refine ⟨(a % 18446744073709551616 % 4294967295).toNat, by omega, ?_⟩
  unfold wrap64
  omega
def byteOf (x i : Nat) : UInt8 := UInt8.ofNat (x / 2 ^ (8 * i))
theorem b0 (x : Nat) : (x : Int) % 256 = ((byteOf x 0).toNat : Int) := by unfold byteOf; rw [UInt8.toNat_ofNat']; omega
theorem b1 (x : Nat) : (x : Int) / 256 % 256 = ((byteOf x 1).toNat : Int) := by unfold byteOf; rw [UInt8.toNat_ofNat']; omega
theorem b2 (x : Nat) : (x : Int) / 65536 % 256 = ((byteOf x 2).toNat : Int) := by unfold byteOf; rw [UInt8.toNat_ofNat']; omega
theorem b3 (x : Nat) (h : x ≤ 4294967295) : (x : Int) / 16777216 = ((byteOf x 3).toNat : Int) := by unfold byteOf; rw [UInt8.toNat_ofNat']; omega
theorem seen (l : List UInt8) (k x : Nat) (hk : k + 4 ≤ l.length) (h1 : 1 ≤ x) (h2 : x ≤ 4294967295) : (((Crc.sum (Crc.turn4 l k (byteOf x) 4) : Nat) : Int) != ((Crc.sum l : Nat) : Int)) = true := by
  rw [bne_iff_ne]
  intro h
  obtain ⟨e0, e1, e2, e3⟩ := Crc.sum_turn4 l k hk (byteOf x) (Int.ofNat_inj.1 h)
  have q0 := b0 x; have q1 := b1 x; have q2 := b2 x; have q3 := b3 x h2
  rw [e0] at q0; rw [e1] at q1; rw [e2] at q2; rw [e3] at q3
  have z : (((0 : UInt8).toNat : Nat) : Int) = 0 := rfl
  rw [z] at q0 q1 q2 q3
  omega

set_option maxHeartbeats 1000000 in
theorem walk (a0 : ByteArray) (a1 : Int) (a2 : Int) (w0 : a0.size ≤ maxLen) (w1 : (Lit.int .i64 a1).wf = true) (w2 : (Lit.int .i64 a2).wf = true) (z0 : a0.size ≤ 140737488351232) (w : World) :
    Calls Try.prog 4 #[.string a0, .int .i64 a1, .int .i64 a2] w fun e w' => e = .returned (.bool true) ∧ Below w.heap.size w w' := by
  by_cases h4 : a0.size < 4
  · go_enter Try.func4, Try.ntmps4
    go_wp2_with (first | (go_at_call 11; refine (awake_any _).mono ?_; rintro e w' ⟨rfl, rfl⟩))
    go_ret
    exact ⟨rfl, Below.refl _ _⟩
  obtain ⟨k, hk4, hk⟩ := at_of a0.size a1 (by omega) z0
  obtain ⟨y, hy, hyy⟩ := by_of a2
  have hcv := fun w => run_bytes_of_string (P := Try.prog) w 9 28 5 a0 Try.underlying9 Try.underlying28 Try.underlying5
  go_enter Try.func4, Try.ntmps4
  go_wp2_with (first | (go_at_call 11; refine (awake_any _).mono ?_; rintro e w' ⟨rfl, rfl⟩))
  rw [hk, hyy, show (1 + (y : Int)) = ((1 + y : Nat) : Int) from by omega]
  clear hcv hk hyy
  obtain ⟨x, hx⟩ : ∃ x, x = 1 + y := ⟨_, rfl⟩
  rw [← hx]
  have hx1 : 1 ≤ x := by omega
  have hx2 : x ≤ 4294967295 := by omega
  clear hx hy
  have hstart : Row ((w'.alloc (Obj.cells (bytesRow a0 (grownCap w' a0.size 0 5)) 5 ((bytesRow a0 (grownCap w' a0.size 0 5)).size, (bytesRow a0 (grownCap w' a0.size 0 5)).size + 1))).drew) w'.heap.size a0.data.toList := (row_of_string w' 5 a0 _ (grownCap_ge w' _ _ _)).drew
  generalize grownCap w' a0.size 0 5 = cap at *
  go_loopw [10] (fun i wr => ∃ j : Nat, j ≤ 4 ∧ i = .int .i64 j ∧ Below w'.heap.size w' wr ∧ w'.heap.size < wr.heap.size ∧ Row wr w'.heap.size (Crc.turn4 a0.data.toList k (byteOf x) j)) (fun i _ => 4 - (intOf i).toNat)
  case atStart => exact ⟨0, by omega, rfl, ((Below.refl _ _).alloc (Nat.le_refl _) _).drew, by simp, hstart⟩
  case round =>
    obtain ⟨j, hj, rfl, hbel, hsz, hrow⟩ := hrel
    clear hstart
    have hlen := Crc.length_turn4 a0.data.toList k (byteOf x) j
    have hll : a0.data.toList.length = a0.size := by rw [Array.length_toList]; rfl
    by_cases hlt : j < 4
    · have hc := hrow.cell (k + j) (by omega)
      have hf := hrow.free (k + j) (by omega)
      rw [Crc.at_turn4] at hc
      have HL : Hid ((Crc.turn4 a0.data.toList k (byteOf x) j).length = a0.size) := hlen.trans hll
      clear hlen hll
      generalize hcd : a0.data.toList.getD (k + j) 0 = c at hc
      have HC : Hid (a0.data.toList.getD (k + j) 0 = c) := hcd
      clear hcd
      have next : ∀ v : Int, v = ((c ^^^ byteOf x j).toNat : Int) → Row (wr.setCell ⟨w'.heap.size, k + j, none⟩ (.int .u8 v)).drew w'.heap.size (Crc.turn4 a0.data.toList k (byteOf x) (j + 1)) := by
        rintro v rfl
        show Row _ _ ((Crc.turn4 a0.data.toList k (byteOf x) j).set (k + j) (a0.data.toList.getD (k + j) 0 ^^^ byteOf x j))
        rw [HC.out]
        exact (hrow.set (k + j) _ (by rw [HL.out]; omega)).drew
      have HN := hide next
      clear next
      obtain rfl | rfl | rfl | rfl : j = 0 ∨ j = 1 ∨ j = 2 ∨ j = 3 := by omega
      all_goals try simp only [Nat.add_zero] at hc hf
      all_goals go_wp2
      all_goals go_region
      all_goals go_wp2
      · exact ⟨⟨1, by omega, rfl, (hbel.setCell (Nat.le_refl _) _).drew, by simpa using hsz, HN.out _ (by rw [b0, xor_u8])⟩, by simp [intOf]⟩
      · exact ⟨⟨2, by omega, rfl, (hbel.setCell (Nat.le_refl _) _).drew, by simpa using hsz, HN.out _ (by rw [b1, xor_u8])⟩, by simp [intOf]⟩
      · exact ⟨⟨3, by omega, rfl, (hbel.setCell (Nat.le_refl _) _).drew, by simpa using hsz, HN.out _ (by rw [b2, xor_u8])⟩, by simp [intOf]⟩
      · exact ⟨⟨4, by omega, rfl, (hbel.setCell (Nat.le_refl _) _).drew, by simpa using hsz, HN.out _ (by rw [b3 x hx2, xor_u8])⟩, by simp [intOf]⟩
    · obtain rfl : j = 4 := by omega
      have HS : Hid ((((Crc.sum (Crc.turn4 a0.data.toList k (byteOf x) 4) : Nat) : Int) != ((Crc.sum a0.data.toList : Nat) : Int)) = true) := seen _ k x (by omega) hx1 hx2
      have hlM := hlen.trans hll
      clear hlen hll
      generalize Crc.turn4 a0.data.toList k (byteOf x) 4 = M at hrow hlM HS
      have hcv := hrow.text (P := Try.prog) 28 9 5 cap a0.size hlM.symm Try.underlying28 Try.underlying5 Try.underlying9
      have hM : (ByteArray.mk M.toArray).size < 9223372036854775808 := by rw [size_mk]; omega
      clear hlM
      go_wp2_with (go_at_call 9; refine (sum_any _ _ ?_).mono ?_; (first | exact hM | omega); rintro e w2 ⟨rfl, rfl⟩)
      go_ret
      exact ⟨ret_bool HS.out, hbel⟩

set_option maxRecDepth 100000 in
theorem lifted (os : Os) (started : os.Started) (H : Type) (enc : TypeId × Value → H) :
    ReturnsInHanded {} Try.checked os 4 .any (Rows.crcBurstSpec.pre6 enc Try.prog Try.f4 Rows.crcBurstRow.domain false) (Rows.crcBurstSpec.post enc Try.prog Try.f4 false true false false) := by
  refine returnsInHanded_of_change_sized (C := Try.checked) own started (by kernel_rfl) Try.func4
    (ChangeSpec.witness6 (enc := enc) (C := Try.checked) false ⟨#[], #[.string ByteArray.empty, .int .i64 0, .int .i64 0], []⟩ 8 (by kernel_rfl) (by kernel_rfl) (by kernel_rfl) (by kernel_rfl)) ?_
  intro W base args ds gs before hval0 hW hcnd hsz0 _
  have hval : ∀ (j : Nat) t v, Try.f4.params[j]? = some t → args[j]? = some v → Value.okWide Try.prog W .any base t v := hval0
  have hW' := hW
  obtain ⟨p, q, hA0, hV, rfl, hfz, hnd⟩ := hW
  have hA : DataW.TrodAll enc Try.prog W 0 (fun _ => true) true Try.f4.params.toList args.toList ds p := hA0
  have hsz : (DataW.weightsEach Try.prog (Try.f4.params.toList ++ Rows.crcBurstSpec.plain.varTypes Try.prog) (ds ++ gs)).all (· ≤ reachBytes) = true := hsz0
  rw [Try.params4] at hA hval hsz
  obtain ⟨v0, vs0, d0, ds0, p0, q0, hargs, rfl, rfl, h0, r0⟩ := trodAll_cons hA
  obtain ⟨v1, vs1, d1, ds1, p1, q1, rfl, rfl, rfl, h1, r1⟩ := trodAll_cons r0
  obtain ⟨v2, vs2, d2, ds2, p2, q2, rfl, rfl, rfl, h2, r2⟩ := trodAll_cons r1
  obtain ⟨rfl, rfl, rfl⟩ := trodAll_nil r2
  obtain rfl : args = #[v0, v1, v2] := by cases args; simp_all
  obtain ⟨rfl, rfl⟩ := trodVars_none hV
  obtain ⟨a0, rfl, rfl, rfl, w0⟩ := open_string Try.underlying9 (hval 0 9 v0 rfl rfl) h0
  obtain ⟨a1, rfl, rfl, rfl, w1⟩ := open_int Try.underlying3 (hval 1 3 v1 rfl rfl) h1
  obtain ⟨a2, rfl, rfl, rfl, w2⟩ := open_int Try.underlying3 (hval 2 3 v2 rfl rfl) h2
  have z0 : a0.size ≤ 140737488351232 := by have := sized_string hsz (j := 0) (t := 9) rfl rfl; simpa [reachBytes] using this
  clear hA0 hval0 hsz0 hsz
  refine (walk a0 a1 a2 w0 w1 w2 z0 W).mono fun e W' ⟨he, bel⟩ => ?_
  subst he
  exact ⟨_, rfl, _, _, _, [], _, [], hW', (trodAll_cons_mk (shut_bool Try.underlying4 _) trodAll_mk0), (trodAll_cons_mk (shut_string Try.underlying9 w0) (trodAll_cons_mk (shut_int Try.underlying3 w1) (trodAll_cons_mk (shut_int Try.underlying3 w2) trodAll_mk0))), rfl, bel.frame _, fun h => by cases h⟩

theorem over : Rows.crcBurstRow.holds Try.pinned (OpenSpec.ofChange Rows.crcBurstSpec) :=
  OpenClaim.holds_of_wide 4 Try.f4 rfl rfl rfl rfl rfl rfl rfl ⟨rfl, rfl, rfl, rfl, rfl⟩ rfl rfl rfl rfl rfl (by kernel_rfl) Try.func4 (by kernel_rfl)
    (of_decide_eq_true (by kernel_rfl)) (by unfold Func.isWrapper; first | (rw [if_pos (by decide +kernel)]; kernel_rfl) | (rw [if_neg (by decide +kernel)]; exact ⟨rfl, rfl⟩))
    (fun os started H enc _ => lifted os started H enc)

theorem proved : Rows.CrcBurstSaid :=
  over
#print axioms proved
end Go.Proofs.Ytfoljmnncmmjgaa.crcBurst
