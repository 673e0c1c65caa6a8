/- Whatever the two numbers: the law EntryForms returns true (records that may not be and texts that are none are refused), and the arguments read as they did; no condition. -/
import Derived.Test.YtadbfaamkohghaaRows
import Derived.Test.YtadbfaamkohghaaNorMath
import Derived.Test.YtadbfaamkohghaaBytes
import Derived.Test.YtadbfaamkohghaaNorWalk
import Derived.Test.YtadbfaamkohghaaEntMath
import Derived.Test.YtadbfaamkohghaaEntRow
import Derived.Test.YtadbfaamkohghaaEntLow
import Derived.Test.YtadbfaamkohghaaEntWalk
import Derived.Test.YtadbfaamkohghaaEntAwake
import Derived.Deep.DeepCutAuto
import Derived.Deep.CutBlock
import Derived.Deep.RegionWith
import Derived.RegionTactic
import Derived.ChangeOld
import Derived.Below
import Derived.WalkKit
import Derived.ProofKit
import Derived.OpenShut
import Derived.ShutString
namespace Go.Proofs.Ytadbfaamkohghaa.entryForms
open Go.ChangeShapes Go.WideShapes Go.ChangeAt Go.RowKit
open Go.ChangeMaps (open_string shut_string)
set_option linter.unusedVariables false

open Go.Proofs.Ytadbfaamkohghaa.Bytes
open Go.Proofs.Ytadbfaamkohghaa.Ent
open Go.Proofs.Ytadbfaamkohghaa.EntRow
open Go.Proofs.Ytadbfaamkohghaa.EntWalk
open Go.Proofs.Ytadbfaamkohghaa.EntAwake
theorem own : ownKnob Try.prog.godebug = none := by kernel_rfl

theorem build_qz (q z : Int) (w : World) : (Instr.build 23 #[(0, .int .i64 q), (2, .int .i64 z)]).run Try.prog w = .ok (.agg #[.int .i64 q, .int .i64 0, .int .i64 z, .int .i64 0]) w := run_build w 23 _ _ (by kernel_rfl)
theorem build_qtz (q t z : Int) (w : World) : (Instr.build 23 #[(0, .int .i64 q), (1, .int .i64 t), (2, .int .i64 z)]).run Try.prog w = .ok (.agg #[.int .i64 q, .int .i64 t, .int .i64 z, .int .i64 0]) w := run_build w 23 _ _ (by kernel_rfl)
theorem build_qzm (q z m : Int) (w : World) : (Instr.build 23 #[(0, .int .i64 q), (2, .int .i64 z), (3, .int .i64 m)]).run Try.prog w = .ok (.agg #[.int .i64 q, .int .i64 0, .int .i64 z, .int .i64 m]) w := run_build w 23 _ _ (by kernel_rfl)
theorem bads (W : World) (d n : Nat) (hn : n < 9) : ∃ q t z m : Int, (W.alloc (.cells #[.int .i64 0, .int .i64 0, .int .i64 5, .int .i64 0, .int .i64 (-(1 + (d : Int))), .int .i64 0, .int .i64 5, .int .i64 0, .int .i64 (1048576 + (1 + (d : Int))), .int .i64 0, .int .i64 5, .int .i64 0, .int .i64 3, .int .i64 (-(1 + (d : Int))), .int .i64 5, .int .i64 0, .int .i64 3, .int .i64 (1 + (1 + (d : Int))), .int .i64 5, .int .i64 0, .int .i64 3, .int .i64 0, .int .i64 (1 - (1 + (d : Int))), .int .i64 0, .int .i64 3, .int .i64 0, .int .i64 (288 + (1 + (d : Int))), .int .i64 0, .int .i64 3, .int .i64 0, .int .i64 5, .int .i64 (-(1 + (d : Int))), .int .i64 3, .int .i64 0, .int .i64 5, .int .i64 (4294967295 + (1 + (d : Int)))] 23)).cell? ⟨W.heap.size, n * 4, none⟩ = some (.int .i64 q) ∧ (W.alloc (.cells #[.int .i64 0, .int .i64 0, .int .i64 5, .int .i64 0, .int .i64 (-(1 + (d : Int))), .int .i64 0, .int .i64 5, .int .i64 0, .int .i64 (1048576 + (1 + (d : Int))), .int .i64 0, .int .i64 5, .int .i64 0, .int .i64 3, .int .i64 (-(1 + (d : Int))), .int .i64 5, .int .i64 0, .int .i64 3, .int .i64 (1 + (1 + (d : Int))), .int .i64 5, .int .i64 0, .int .i64 3, .int .i64 0, .int .i64 (1 - (1 + (d : Int))), .int .i64 0, .int .i64 3, .int .i64 0, .int .i64 (288 + (1 + (d : Int))), .int .i64 0, .int .i64 3, .int .i64 0, .int .i64 5, .int .i64 (-(1 + (d : Int))), .int .i64 3, .int .i64 0, .int .i64 5, .int .i64 (4294967295 + (1 + (d : Int)))] 23)).cell? ⟨W.heap.size, n * 4 + 1, none⟩ = some (.int .i64 t) ∧ (W.alloc (.cells #[.int .i64 0, .int .i64 0, .int .i64 5, .int .i64 0, .int .i64 (-(1 + (d : Int))), .int .i64 0, .int .i64 5, .int .i64 0, .int .i64 (1048576 + (1 + (d : Int))), .int .i64 0, .int .i64 5, .int .i64 0, .int .i64 3, .int .i64 (-(1 + (d : Int))), .int .i64 5, .int .i64 0, .int .i64 3, .int .i64 (1 + (1 + (d : Int))), .int .i64 5, .int .i64 0, .int .i64 3, .int .i64 0, .int .i64 (1 - (1 + (d : Int))), .int .i64 0, .int .i64 3, .int .i64 0, .int .i64 (288 + (1 + (d : Int))), .int .i64 0, .int .i64 3, .int .i64 0, .int .i64 5, .int .i64 (-(1 + (d : Int))), .int .i64 3, .int .i64 0, .int .i64 5, .int .i64 (4294967295 + (1 + (d : Int)))] 23)).cell? ⟨W.heap.size, n * 4 + 2, none⟩ = some (.int .i64 z) ∧ (W.alloc (.cells #[.int .i64 0, .int .i64 0, .int .i64 5, .int .i64 0, .int .i64 (-(1 + (d : Int))), .int .i64 0, .int .i64 5, .int .i64 0, .int .i64 (1048576 + (1 + (d : Int))), .int .i64 0, .int .i64 5, .int .i64 0, .int .i64 3, .int .i64 (-(1 + (d : Int))), .int .i64 5, .int .i64 0, .int .i64 3, .int .i64 (1 + (1 + (d : Int))), .int .i64 5, .int .i64 0, .int .i64 3, .int .i64 0, .int .i64 (1 - (1 + (d : Int))), .int .i64 0, .int .i64 3, .int .i64 0, .int .i64 (288 + (1 + (d : Int))), .int .i64 0, .int .i64 3, .int .i64 0, .int .i64 5, .int .i64 (-(1 + (d : Int))), .int .i64 3, .int .i64 0, .int .i64 5, .int .i64 (4294967295 + (1 + (d : Int)))] 23)).cell? ⟨W.heap.size, n * 4 + 3, none⟩ = some (.int .i64 m) ∧ recMay q t z m = false := by
  simp only [World.cell?_alloc_at _ _ _ _ rfl]
  obtain rfl | rfl | rfl | rfl | rfl | rfl | rfl | rfl | rfl : n = 0 ∨ n = 1 ∨ n = 2 ∨ n = 3 ∨ n = 4 ∨ n = 5 ∨ n = 6 ∨ n = 7 ∨ n = 8 := by omega
  all_goals refine ⟨_, _, _, _, rfl, rfl, rfl, rfl, ?_⟩
  all_goals
    unfold recMay
    exact decide_eq_false (by omega)
/-- One byte of a record's text turned: refused. -/
theorem turned_set {G : ByteArray} (hG : getOk G = true) (k c : Nat) (hk : k < G.size) (hc : c ≤ 127) : getOk ⟨(G.data.toList.set k (G[k] ^^^ UInt8.ofNat (1 + c))).toArray⟩ = false := by
  have hl : k < G.data.toList.length := by rw [Nor.size_list]; exact hk
  have hz : (ByteArray.mk (G.data.toList.set k (G[k] ^^^ UInt8.ofNat (1 + c))).toArray).size = G.size := by rw [← Nor.size_list, List.length_set, Nor.size_list]
  have hget : ∀ i (h2 : i < (ByteArray.mk (G.data.toList.set k (G[k] ^^^ UInt8.ofNat (1 + c))).toArray).size), (ByteArray.mk (G.data.toList.set k (G[k] ^^^ UInt8.ofNat (1 + c))).toArray)[i] = if k = i then G[k] ^^^ UInt8.ofNat (1 + c) else G.data.toList.getD i 0 := fun i h2 => by
    have e := Nor.ba_get _ i h2
    have e2 : (G.data.toList.set k (G[k] ^^^ UInt8.ofNat (1 + c)))[i]? = some (ByteArray.mk (G.data.toList.set k (G[k] ^^^ UInt8.ofNat (1 + c))).toArray)[i] := e
    have hi : i < G.data.toList.length := by rw [Nor.size_list]; omega
    by_cases h : k = i
    · subst h
      rw [List.getElem?_set_self hl] at e2
      rw [if_pos rfl]
      exact (Option.some.inj e2).symm
    · rw [List.getElem?_set_ne h, List.getElem?_eq_getElem hi] at e2
      rw [if_neg h, ← List.getElem_eq_getD (h := hi)]
      exact (Option.some.inj e2).symm
  refine turned hG hz k hk (by omega) ?_ fun i h1 h2 hne => ?_
  · rw [hget, if_pos rfl]
    intro e
    have h0 : ∀ n : Fin 256, ∀ c : Fin 128, UInt8.ofNat n.val ^^^ UInt8.ofNat (1 + c.val) ≠ UInt8.ofNat n.val := by decide +kernel
    have := h0 ⟨G[k].toNat, G[k].toNat_lt⟩ ⟨c, by omega⟩
    simp only [UInt8.ofNat_toNat] at this
    exact this e
  · have hi : i < G.data.toList.length := by rw [Nor.size_list]; exact h1
    rw [hget, if_neg (fun h => hne h.symm), ← List.getElem_eq_getD (h := hi), Array.getElem_toList]
    rfl
theorem xor_c (x : UInt8) (c : Nat) (hc : c ≤ 127) : bits .xor .u8 (x.toNat : Int) (1 + (c : Int)) = ((x ^^^ UInt8.ofNat (1 + c)).toNat : Int) := by
  have e : (1 : Int) + (c : Int) = ((UInt8.ofNat (1 + c)).toNat : Int) := by rw [UInt8.toNat_ofNat']; omega
  rw [e, xor_u8]
theorem okG : recMay 3 1 5 7 = true := by decide
theorem getOk_size {s : ByteArray} (h : ¬ s.size = 24) : getOk s = false := by unfold getOk; exact decide_eq_false (fun g => h g.1)
set_option maxHeartbeats 4000000 in
set_option maxRecDepth 100000 in
theorem walk (a0 : Int) (a1 : Int) (w0 : (Lit.int .i64 a0).wf = true) (w1 : (Lit.int .i64 a1).wf = true) (w : World) :
    Calls Try.prog 5 #[.int .i64 a0, .int .i64 a1] w fun e w' => e = .returned (.bool true) ∧ Below w.heap.size w w' := by
  have hB : Below w.heap.size w w := Below.refl _ _
  have e0 : errE true = 0 := rfl
  have e2 : errE false = 400 := rfl
  have q1 := build_rec
  have q2 := build_qz
  have q3 := build_qtz
  have q4 := build_qzm
  obtain ⟨d, hd, md⟩ : ∃ k : Nat, k ≤ 1023 ∧ bits .and .i64 a1 1023 = (k : Int) := mask_i64 a1 1023 (by omega)
  obtain ⟨c, hc1, mc⟩ : ∃ k : Nat, k ≤ 127 ∧ bits .and .i64 a0 127 = (k : Int) := mask_i64 a0 127 (by omega)
  obtain ⟨n, hn, mn⟩ : ∃ k : Nat, k < 9 ∧ wrap64 ((IntKind.u64.wrap a0).tmod 9) = (k : Int) := mod_u64 a0 9 (by omega) (by omega)
  obtain ⟨k, hk, mk⟩ : ∃ k : Nat, k < 24 ∧ wrap64 ((IntKind.u64.wrap a1).tmod 24) = (k : Int) := mod_u64 a1 24 (by omega) (by omega)
  have hcv := fun w s => run_bytes_of_string (P := Try.prog) w 9 42 5 s Try.underlying9 Try.underlying42 Try.underlying5
  have cP := fun w => put_any 3 1 5 7 w
  rw [okG] at cP
  have zG := size_putS okG
  have hG := (get_put okG).1
  have HT := hide (fun c hc h => turned_set hG k c h hc)
  generalize putS 3 1 5 7 = G at *
  have CP := hide cP
  have z1 : G.size ≤ 24 := by omega
  have z2 : 24 ≤ G.size := by omega
  clear cP hG zG
  go_enter Try.func5, Try.ntmps5
  go_upto_region 5 with (first | (go_at_call 14; refine (awake_any _).mono ?_; rintro e w' ⟨rfl, hb⟩; replace hB := hB.trans (hb.mono hB.size); clear hb))
  obtain ⟨q, t, z, m, c0, c1, c2, c3, hm⟩ := bads w' d n hn
  have s1 := size_alloc1 w' (.cells #[.int .i64 0, .int .i64 0, .int .i64 5, .int .i64 0, .int .i64 (-(1 + (d : Int))), .int .i64 0, .int .i64 5, .int .i64 0, .int .i64 (1048576 + (1 + (d : Int))), .int .i64 0, .int .i64 5, .int .i64 0, .int .i64 3, .int .i64 (-(1 + (d : Int))), .int .i64 5, .int .i64 0, .int .i64 3, .int .i64 (1 + (1 + (d : Int))), .int .i64 5, .int .i64 0, .int .i64 3, .int .i64 0, .int .i64 (1 - (1 + (d : Int))), .int .i64 0, .int .i64 3, .int .i64 0, .int .i64 (288 + (1 + (d : Int))), .int .i64 0, .int .i64 3, .int .i64 0, .int .i64 5, .int .i64 (-(1 + (d : Int))), .int .i64 3, .int .i64 0, .int .i64 5, .int .i64 (4294967295 + (1 + (d : Int)))] 23)
  replace hB := hB.alloc hB.size (.cells #[.int .i64 0, .int .i64 0, .int .i64 5, .int .i64 0, .int .i64 (-(1 + (d : Int))), .int .i64 0, .int .i64 5, .int .i64 0, .int .i64 (1048576 + (1 + (d : Int))), .int .i64 0, .int .i64 5, .int .i64 0, .int .i64 3, .int .i64 (-(1 + (d : Int))), .int .i64 5, .int .i64 0, .int .i64 3, .int .i64 (1 + (1 + (d : Int))), .int .i64 5, .int .i64 0, .int .i64 3, .int .i64 0, .int .i64 (1 - (1 + (d : Int))), .int .i64 0, .int .i64 3, .int .i64 0, .int .i64 (288 + (1 + (d : Int))), .int .i64 0, .int .i64 3, .int .i64 0, .int .i64 5, .int .i64 (-(1 + (d : Int))), .int .i64 3, .int .i64 0, .int .i64 5, .int .i64 (4294967295 + (1 + (d : Int)))] 23)
  generalize w'.alloc (.cells #[.int .i64 0, .int .i64 0, .int .i64 5, .int .i64 0, .int .i64 (-(1 + (d : Int))), .int .i64 0, .int .i64 5, .int .i64 0, .int .i64 (1048576 + (1 + (d : Int))), .int .i64 0, .int .i64 5, .int .i64 0, .int .i64 3, .int .i64 (-(1 + (d : Int))), .int .i64 5, .int .i64 0, .int .i64 3, .int .i64 (1 + (1 + (d : Int))), .int .i64 5, .int .i64 0, .int .i64 3, .int .i64 0, .int .i64 (1 - (1 + (d : Int))), .int .i64 0, .int .i64 3, .int .i64 0, .int .i64 (288 + (1 + (d : Int))), .int .i64 0, .int .i64 3, .int .i64 0, .int .i64 5, .int .i64 (-(1 + (d : Int))), .int .i64 3, .int .i64 0, .int .i64 5, .int .i64 (4294967295 + (1 + (d : Int)))] 23) = W1 at *
  generalize w'.heap.size = B1 at *
  have t1 := putS_no hm
  go_upto_region 6 with (first | (go_at_call 9; refine (put_any _ _ _ _ _).mono ?_; rintro e w' ⟨rfl, hb⟩; replace hB := hB.trans (hb.mono hB.size); clear hb))
  clear c0 c1 c2 c3 s1 hm t1 md mn
  go_upto_region 9 with (go_at_call 9; refine (CP.out _).mono ?_; rintro e w' ⟨rfl, hb⟩; replace hB := hB.trans (hb.mono hB.size); clear hb)
  have hge := grownCap_ge w' G.size 0 5
  have hrow := (row_of_string w' 5 G (grownCap w' G.size 0 5) hge).drew
  have hs := hB.size
  have hlt : w'.heap.size < (w'.alloc (.cells (bytesRow G (grownCap w' G.size 0 5)) 5 ((bytesRow G (grownCap w' G.size 0 5)).size, (bytesRow G (grownCap w' G.size 0 5)).size + 1))).drew.heap.size := by simp
  replace hB := (hB.alloc hB.size (.cells (bytesRow G (grownCap w' G.size 0 5)) 5 ((bytesRow G (grownCap w' G.size 0 5)).size, (bytesRow G (grownCap w' G.size 0 5)).size + 1))).drew
  go_upto_region 11 with fail
  clear hcv hge
  generalize (w'.alloc (.cells (bytesRow G (grownCap w' G.size 0 5)) 5 ((bytesRow G (grownCap w' G.size 0 5)).size, (bytesRow G (grownCap w' G.size 0 5)).size + 1))).drew = W at *
  generalize grownCap w' G.size 0 5 = cap at *
  generalize w'.heap.size = B2 at *
  have hkG : k < G.size := by omega
  have hl : k < G.data.toList.length := by rw [Nor.size_list]; exact hkG
  have hc := hrow.cell k hl
  have hfr := hrow.free k hl
  rw [show G.data.toList[k] = G[k] from by rw [Array.getElem_toList]; rfl] at hc
  have hset := hrow.set k (G[k] ^^^ UInt8.ofNat (1 + c)) hl
  have hno := HT.out c hc1 hkG
  have hx := xor_c G[k] c hc1
  have hsz : (G.data.toList.set k (G[k] ^^^ UInt8.ofNat (1 + c))).length = G.size := by rw [List.length_set, Nor.size_list]
  generalize G[k] ^^^ UInt8.ofNat (1 + c) = y at *
  generalize G[k] = x at *
  have hcv := hset.text (P := Try.prog) 42 9 5 cap G.size hsz.symm Try.underlying42 Try.underlying5 Try.underlying9
  have hB2 := hB.setCell (p := ⟨B2, k, none⟩) hs (.int .u8 (y.toNat : Int))
  clear hset hsz hrow hl HT
  generalize ByteArray.mk (G.data.toList.set k y).toArray = M at *
  go_upto_region 12 with fail
  clear hB hc hfr hx mc hs hlt
  have hB := hB2
  clear hB2
  generalize W.setCell ⟨B2, k, none⟩ (.int .u8 (y.toNat : Int)) = W3 at *
  have n2 : getOk (G.extract 0 k) = false := getOk_size (by rw [ByteArray.size_extract]; omega)
  have n3 : getOk (G ++ ⟨#[120]⟩) = false := getOk_size (by rw [ByteArray.size_append]; show ¬ G.size + 1 = 24; omega)
  have n4 : ¬ 9223372036854775807 < G.size + 1 := by omega
  go_wp2_with (first | (go_at_call 11; refine (get_any _ _).mono ?_; rintro e w9 ⟨rfl, hb⟩; first | (replace hB := thenB hB hb; clear hb) | (replace hB := thenB (hB.alloc hB.size _) hb; clear hb)) | (go_at_call 13; refine (num_any _ _).mono ?_; rintro e w' ⟨rfl, rfl⟩))
  go_ret
  exact ⟨rfl, hB.alloc hB.size _⟩

set_option maxRecDepth 100000 in
theorem lifted (os : Os) (started : os.Started) (H : Type) (enc : TypeId × Value → H) :
    ReturnsInHanded {} Try.checked os 5 .any (Rows.entryFormsSpec.pre6 enc Try.prog Try.f5 Rows.entryFormsRow.domain false) (Rows.entryFormsSpec.post enc Try.prog Try.f5 false true false false) := by
  refine returnsInHanded_of_change (C := Try.checked) own started (by kernel_rfl) Try.func5
    (ChangeSpec.witness6 (enc := enc) (C := Try.checked) false ⟨#[], #[.int .i64 0, .int .i64 0], []⟩ 8 (by kernel_rfl) (by kernel_rfl) (by kernel_rfl) (by kernel_rfl)) ?_
  intro W base args ds gs before hval0 hW hcnd _
  have hval : ∀ (j : Nat) t v, Try.f5.params[j]? = some t → args[j]? = some v → Value.okWide Try.prog W .any base t v := hval0
  have hW' := hW
  obtain ⟨p, q, hA0, hV, rfl, hfz, hnd⟩ := hW
  have hA : DataW.TrodAll enc Try.prog W 0 (fun _ => true) true Try.f5.params.toList args.toList ds p := hA0
  rw [Try.params5] at hA hval
  obtain ⟨v0, vs0, d0, ds0, p0, q0, hargs, rfl, rfl, h0, r0⟩ := trodAll_cons hA
  obtain ⟨v1, vs1, d1, ds1, p1, q1, rfl, rfl, rfl, h1, r1⟩ := trodAll_cons r0
  obtain ⟨rfl, rfl, rfl⟩ := trodAll_nil r1
  obtain rfl : args = #[v0, v1] := by cases args; simp_all
  obtain ⟨rfl, rfl⟩ := trodVars_none hV
  obtain ⟨a0, rfl, rfl, rfl, w0⟩ := open_int Try.underlying3 (hval 0 3 v0 rfl rfl) h0
  obtain ⟨a1, rfl, rfl, rfl, w1⟩ := open_int Try.underlying3 (hval 1 3 v1 rfl rfl) h1
  clear hA0 hval0
  refine (walk a0 a1 w0 w1 W).mono fun e W' ⟨he, bel⟩ => ?_
  subst he
  exact ⟨_, rfl, _, _, _, [], _, [], hW', (trodAll_cons_mk (shut_bool Try.underlying4 _) trodAll_mk0), (trodAll_cons_mk (shut_int Try.underlying3 w0) (trodAll_cons_mk (shut_int Try.underlying3 w1) trodAll_mk0)), rfl, bel.frame _, fun h => by cases h⟩

theorem over : Rows.entryFormsRow.holds Try.pinned (OpenSpec.ofChange Rows.entryFormsSpec) :=
  OpenClaim.holds_of_wide 5 Try.f5 rfl rfl rfl rfl rfl rfl rfl ⟨rfl, rfl, rfl, rfl, rfl⟩ rfl rfl rfl rfl rfl (by kernel_rfl) Try.func5 (by kernel_rfl)
    (of_decide_eq_true (by kernel_rfl)) (by unfold Func.isWrapper; first | (rw [if_pos (by decide +kernel)]; kernel_rfl) | (rw [if_neg (by decide +kernel)]; exact ⟨rfl, rfl⟩))
    (fun os started H enc _ => lifted os started H enc)

theorem proved : Rows.EntryFormsSaid :=
  over
#print axioms proved
end Go.Proofs.Ytadbfaamkohghaa.entryForms
