/- Whatever the four numbers: the law EntryWords returns true (each number of a record stands in its bytes, the lowest first), and the arguments read as they did; no condition. -/
import Derived.Test.YtadbfaamkohghaaRows
import Derived.Test.YtadbfaamkohghaaNorMath
import Derived.Test.YtadbfaamkohghaaBytes
import Derived.Test.YtadbfaamkohghaaNorWalk
import Derived.Test.YtadbfaamkohghaaEntMath
import Derived.Test.YtadbfaamkohghaaEntRow
import Derived.Test.YtadbfaamkohghaaEntLow
import Derived.Test.YtadbfaamkohghaaEntWalk
import Derived.Test.YtadbfaamkohghaaEntAwake
import Derived.Deep.QuietTactic
import Derived.BigQuiet
import Derived.RegionTactic
import Derived.ChangeOld
import Derived.Below
import Derived.WalkKit
import Derived.ProofKit
import Derived.OpenShut
import Derived.ShutString
namespace Go.Proofs.Ytadbfaamkohghaa.entryWords
open Go.ChangeShapes Go.WideShapes Go.ChangeAt Go.RowKit
open Go.ChangeMaps (open_string shut_string)
set_option linter.unusedVariables false

open Go.Proofs.Ytadbfaamkohghaa.Bytes
open Go.Proofs.Ytadbfaamkohghaa.Ent
open Go.Proofs.Ytadbfaamkohghaa.EntRow
open Go.Proofs.Ytadbfaamkohghaa.EntWalk
open Go.Proofs.Ytadbfaamkohghaa.EntAwake
theorem own : ownKnob Try.prog.godebug = none := by kernel_rfl

theorem bytes_of (q t z m : Nat) (i : Nat) (h : i < 12) : (headL q t z m)[i]? = some ([byteAt q 0, byteAt q 1, byteAt q 2, byteAt q 3, byteAt t 0, 0, byteAt z 0, byteAt z 1, byteAt m 0, byteAt m 1, byteAt m 2, byteAt m 3].getD i 0) := by
  have e : headL q t z m = [byteAt q 0, byteAt q 1, byteAt q 2, byteAt q 3, byteAt t 0, 0, byteAt z 0, byteAt z 1, byteAt m 0, byteAt m 1, byteAt m 2, byteAt m 3] := rfl
  rw [e, List.getElem?_eq_getElem (by simpa using h), List.getElem_eq_getD (fallback := 0)]
theorem byte_put {q t z m : Int} (h : recMay q t z m = true) (i : Nat) (hi : i < 12) (h1 : i < (putS q t z m).size) : (putS q t z m)[i] = [byteAt q.toNat 0, byteAt q.toNat 1, byteAt q.toNat 2, byteAt q.toNat 3, byteAt t.toNat 0, 0, byteAt z.toNat 0, byteAt z.toNat 1, byteAt m.toNat 0, byteAt m.toNat 1, byteAt m.toNat 2, byteAt m.toNat 3].getD i 0 := by
  have e := bytes_of q.toNat t.toNat z.toNat m.toNat i hi
  have e2 := Nor.ba_get _ i h1
  rw [list_putS h] at e2
  unfold putL at e2
  rw [List.getElem?_append_left (by rw [length_headL]; exact hi), e] at e2
  exact (Option.some.inj e2).symm
/-- What the bytes of a record's numbers make. -/
theorem numbers (q t z m : Nat) (hq : q < 65537) (ht : t ≤ 1) (hz : z ≤ 288) (hm : m ≤ 4294967295) (S : ByteArray) (h0 : S = putS q t z m) (h1 : recMay q t z m = true) :
    ∃ n0 n1 n2 n3 n4 n6 n7 n8 n9 n10 n11 : Nat, (n0 ≤ 255 ∧ n1 ≤ 255 ∧ n2 ≤ 255 ∧ n3 ≤ 255 ∧ n6 ≤ 255 ∧ n7 ≤ 255 ∧ n8 ≤ 255 ∧ n9 ≤ 255 ∧ n10 ≤ 255 ∧ n11 ≤ 255) ∧ n0 + 256 * n1 + 65536 * n2 + 16777216 * n3 = q ∧ n4 = t ∧ n6 + 256 * n7 = z ∧ n8 + 256 * n9 + 65536 * n10 + 16777216 * n11 = m ∧
    ∀ h : 24 ≤ S.size, (S[0].toNat = n0 ∧ S[1].toNat = n1 ∧ S[2].toNat = n2 ∧ S[3].toNat = n3 ∧ S[4].toNat = n4 ∧ S[5].toNat = 0 ∧ S[6].toNat = n6 ∧ S[7].toNat = n7 ∧ S[8].toNat = n8 ∧ S[9].toNat = n9 ∧ S[10].toNat = n10 ∧ S[11].toNat = n11) := by
  subst h0
  refine ⟨_, _, _, _, _, _, _, _, _, _, _, ?_, ?_, ?_, ?_, ?_, fun h => ⟨congrArg UInt8.toNat (byte_put h1 0 (by omega) (by omega)), congrArg UInt8.toNat (byte_put h1 1 (by omega) (by omega)), congrArg UInt8.toNat (byte_put h1 2 (by omega) (by omega)), congrArg UInt8.toNat (byte_put h1 3 (by omega) (by omega)), congrArg UInt8.toNat (byte_put h1 4 (by omega) (by omega)), congrArg UInt8.toNat (byte_put h1 5 (by omega) (by omega)), congrArg UInt8.toNat (byte_put h1 6 (by omega) (by omega)), congrArg UInt8.toNat (byte_put h1 7 (by omega) (by omega)), congrArg UInt8.toNat (byte_put h1 8 (by omega) (by omega)), congrArg UInt8.toNat (byte_put h1 9 (by omega) (by omega)), congrArg UInt8.toNat (byte_put h1 10 (by omega) (by omega)), congrArg UInt8.toNat (byte_put h1 11 (by omega) (by omega))⟩⟩
  all_goals simp only [List.getD_cons_zero, List.getD_cons_succ, toNat_byteAt, Int.toNat_natCast]
  all_goals omega
set_option maxHeartbeats 2000000 in
theorem walk (a0 : Int) (a1 : Int) (a2 : Int) (a3 : Int) (w0 : (Lit.int .i64 a0).wf = true) (w1 : (Lit.int .i64 a1).wf = true) (w2 : (Lit.int .i64 a2).wf = true) (w3 : (Lit.int .i64 a3).wf = true) (w : World) :
    Calls Try.prog 8 #[.int .i64 a0, .int .i64 a1, .int .i64 a2, .int .i64 a3] w fun e w' => e = .returned (.bool true) ∧ Below w.heap.size w w' := by
  have hB : Below w.heap.size w w := Below.refl _ _
  have e0 : errE true = 0 := rfl
  have q1 := build_rec
  obtain ⟨x, hx, mx⟩ : ∃ k : Nat, k ≤ 65535 ∧ bits .and .i64 a0 65535 = (k : Int) := mask_i64 a0 65535 (by omega)
  obtain ⟨y, hy, my⟩ : ∃ k : Nat, k ≤ 1 ∧ bits .and .i64 a1 1 = (k : Int) := mask_i64 a1 1 (by omega)
  obtain ⟨u, hu, mu⟩ : ∃ k : Nat, k < 288 ∧ wrap64 ((IntKind.u64.wrap a2).tmod 288) = (k : Int) := mod_u64 a2 288 (by omega) (by omega)
  obtain ⟨v, hv, mv⟩ : ∃ k : Nat, k ≤ 4294967295 ∧ bits .and .i64 a3 4294967295 = (k : Int) := mask_i64 a3 4294967295 (by omega)
  have k1 : recMay ((1 + x : Nat) : Int) (y : Int) ((1 + u : Nat) : Int) (v : Int) = true := recMay_parts.2 (by omega)
  have hz := size_putS k1
  have cP := fun w => put_any ((1 + x : Nat) : Int) (y : Int) ((1 + u : Nat) : Int) (v : Int) w
  rw [k1] at cP
  obtain ⟨n0, n1, n2, n3, n4, n6, n7, n8, n9, n10, n11, ⟨b0, b1, b2, b3, b6, b7, b8, b9, b10, b11⟩, s1, s2, s3, s4, hn⟩ := numbers (1 + x) y (1 + u) v (by omega) (by omega) (by omega) (by omega) _ rfl k1
  generalize putS ((1 + x : Nat) : Int) (y : Int) ((1 + u : Nat) : Int) (v : Int) = S at *
  rw [show ((1 + x : Nat) : Int) = 1 + (x : Int) from by omega, show ((1 + u : Nat) : Int) = 1 + (u : Int) from by omega] at cP
  have CP := hide cP
  clear cP k1
  have z1 : S.size ≤ 24 := by omega
  have z2 : 24 ≤ S.size := by omega
  obtain ⟨h0, h1, h2, h3, h4, h5, h6, h7, h8, h9, h10, h11⟩ := hn z2
  clear hn hz
  subst s2
  have t1 : (n0 : Int) + 256 * (n1 : Int) + 65536 * (n2 : Int) + 16777216 * (n3 : Int) = 1 + (x : Int) := by omega
  have t3 : (n6 : Int) + 256 * (n7 : Int) = 1 + (u : Int) := by omega
  have t4 : (n8 : Int) + 256 * (n9 : Int) + 65536 * (n10 : Int) + 16777216 * (n11 : Int) = (v : Int) := by omega
  clear s1 s3 s4
  go_enter Try.func8, Try.ntmps8
  go_wp2_with (first | (go_at_call 14; refine (awake_any _).mono ?_; rintro e w' ⟨rfl, hb⟩; replace hB := hB.trans (hb.mono hB.size); clear hb))
  have hX := boxM w' (.int .i64 (1 + (x : Int))) (.int .i64 (n4 : Int)) (.int .i64 (1 + (u : Int))) (.int .i64 (v : Int)) 23
  replace hB := hB.alloc hB.size (.cells #[.int .i64 (1 + (x : Int)), .int .i64 (n4 : Int), .int .i64 (1 + (u : Int)), .int .i64 (v : Int)] 23)
  refine (CP.out _).mono ?_; rintro e w' ⟨rfl, hb⟩; replace hB := hB.trans (hb.mono hB.size); replace hX := boxB hX hb; clear hb
  go_wp2_with (first | (go_at_call 13; refine (num_any _ _).mono ?_; rintro e w' ⟨rfl, rfl⟩))
  go_quiet (fail)
  go_wp2
  go_quiet (fail)
  go_wp2
  go_quiet (fail)
  go_wp2
  go_quiet (fail)
  go_wp2
  go_ret
  exact ⟨rfl, bel_drewN (bel_drewN (bel_drewN (bel_drewN hB _) _) _) _⟩

set_option maxRecDepth 100000 in
theorem lifted (os : Os) (started : os.Started) (H : Type) (enc : TypeId × Value → H) :
    ReturnsInHanded {} Try.checked os 8 .any (Rows.entryWordsSpec.pre6 enc Try.prog Try.f8 Rows.entryWordsRow.domain false) (Rows.entryWordsSpec.post enc Try.prog Try.f8 false true false false) := by
  refine returnsInHanded_of_change (C := Try.checked) own started (by kernel_rfl) Try.func8
    (ChangeSpec.witness6 (enc := enc) (C := Try.checked) false ⟨#[], #[.int .i64 0, .int .i64 0, .int .i64 0, .int .i64 0], []⟩ 8 (by kernel_rfl) (by kernel_rfl) (by kernel_rfl) (by kernel_rfl)) ?_
  intro W base args ds gs before hval0 hW hcnd _
  have hval : ∀ (j : Nat) t v, Try.f8.params[j]? = some t → args[j]? = some v → Value.okWide Try.prog W .any base t v := hval0
  have hW' := hW
  obtain ⟨p, q, hA0, hV, rfl, hfz, hnd⟩ := hW
  have hA : DataW.TrodAll enc Try.prog W 0 (fun _ => true) true Try.f8.params.toList args.toList ds p := hA0
  rw [Try.params8] at hA hval
  obtain ⟨v0, vs0, d0, ds0, p0, q0, hargs, rfl, rfl, h0, r0⟩ := trodAll_cons hA
  obtain ⟨v1, vs1, d1, ds1, p1, q1, rfl, rfl, rfl, h1, r1⟩ := trodAll_cons r0
  obtain ⟨v2, vs2, d2, ds2, p2, q2, rfl, rfl, rfl, h2, r2⟩ := trodAll_cons r1
  obtain ⟨v3, vs3, d3, ds3, p3, q3, rfl, rfl, rfl, h3, r3⟩ := trodAll_cons r2
  obtain ⟨rfl, rfl, rfl⟩ := trodAll_nil r3
  obtain rfl : args = #[v0, v1, v2, v3] := by cases args; simp_all
  obtain ⟨rfl, rfl⟩ := trodVars_none hV
  obtain ⟨a0, rfl, rfl, rfl, w0⟩ := open_int Try.underlying3 (hval 0 3 v0 rfl rfl) h0
  obtain ⟨a1, rfl, rfl, rfl, w1⟩ := open_int Try.underlying3 (hval 1 3 v1 rfl rfl) h1
  obtain ⟨a2, rfl, rfl, rfl, w2⟩ := open_int Try.underlying3 (hval 2 3 v2 rfl rfl) h2
  obtain ⟨a3, rfl, rfl, rfl, w3⟩ := open_int Try.underlying3 (hval 3 3 v3 rfl rfl) h3
  clear hA0 hval0
  refine (walk a0 a1 a2 a3 w0 w1 w2 w3 W).mono fun e W' ⟨he, bel⟩ => ?_
  subst he
  exact ⟨_, rfl, _, _, _, [], _, [], hW', (trodAll_cons_mk (shut_bool Try.underlying4 _) trodAll_mk0), (trodAll_cons_mk (shut_int Try.underlying3 w0) (trodAll_cons_mk (shut_int Try.underlying3 w1) (trodAll_cons_mk (shut_int Try.underlying3 w2) (trodAll_cons_mk (shut_int Try.underlying3 w3) trodAll_mk0)))), rfl, bel.frame _, fun h => by cases h⟩

theorem over : Rows.entryWordsRow.holds Try.pinned (OpenSpec.ofChange Rows.entryWordsSpec) :=
  OpenClaim.holds_of_wide 8 Try.f8 rfl rfl rfl rfl rfl rfl rfl ⟨rfl, rfl, rfl, rfl, rfl⟩ rfl rfl rfl rfl rfl (by kernel_rfl) Try.func8 (by kernel_rfl)
    (of_decide_eq_true (by kernel_rfl)) (by unfold Func.isWrapper; first | (rw [if_pos (by decide +kernel)]; kernel_rfl) | (rw [if_neg (by decide +kernel)]; exact ⟨rfl, rfl⟩))
    (fun os started H enc _ => lifted os started H enc)

theorem proved : Rows.EntryWordsSaid :=
  over
#print axioms proved
end Go.Proofs.Ytadbfaamkohghaa.entryWords
