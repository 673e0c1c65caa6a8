/- Whatever the text and the number: the law JournalErased returns true (records of a sector that is erased are gone, those of the other one stay, in their row; its first place is free), and the arguments read as they did; no condition. -/
import Derived.Test.YtinclijbmjaccaaRows
import Derived.Test.YtinclijbmjaccaaJouAwake
import Derived.ChangeOld
import Derived.Below
import Derived.WalkKit
import Derived.ProofKit
import Derived.OpenShut
import Derived.ShutString
namespace Go.Proofs.Ytinclijbmjaccaa.journalErased
open Go.ChangeShapes Go.WideShapes Go.ChangeAt Go.RowKit
open Go.ChangeMaps (open_string shut_string)
set_option linter.unusedVariables false

open Go.Proofs.Ytinclijbmjaccaa.Bytes
open Go.Proofs.Ytinclijbmjaccaa.NorWalk
open Go.Proofs.Ytinclijbmjaccaa.NorRef
open Go.Proofs.Ytinclijbmjaccaa.Jou
open Go.Proofs.Ytinclijbmjaccaa.JouRow
open Go.Proofs.Ytinclijbmjaccaa.JouWalk
open Go.Proofs.Ytinclijbmjaccaa.JouRef
open Go.Proofs.Ytinclijbmjaccaa.Held
open Go.Proofs.Ytinclijbmjaccaa.HeldCalls
open Go.Proofs.Ytinclijbmjaccaa.JouAwake
theorem own : ownKnob Try.prog.godebug = none := by kernel_rfl

def stays (k : Nat) (p : FPl) : Bool := decide (¬ p.pa / 96 = (k : Int))
theorem take_stays (l : List FPl) (k n : Nat) (h : n < l.length) : (l.take (n + 1)).filter (stays k) = (l.take n).filter (stays k) ++ if stays k l[n] then [l[n]] else [] := by
  rw [List.take_succ_eq_append_getElem h, List.filter_append, List.filter_cons, List.filter_nil]
theorem few (l : List FPl) (k n : Nat) (h : l.length ≤ 8) : ((l.take n).filter (stays k)).length ≤ 8 := by
  have h1 := List.length_filter_le (stays k) (l.take n)
  have h2 : (l.take n).length ≤ l.length := by rw [List.length_take]; omega
  omega
set_option maxHeartbeats 2000000 in
theorem walk (a0 : ByteArray) (a1 : Int) (w0 : a0.size ≤ maxLen) (w1 : (Lit.int .i64 a1).wf = true) (w : World) :
    Calls Try.prog 7 #[.string a0, .int .i64 a1] w fun e w' => e = .returned (.bool true) ∧ Below w.heap.size w w' := by
  have hB : Below w.heap.size w w := Below.refl _ _
  obtain ⟨k, hk, hk1⟩ := mask_i64 a1 1 (by omega)
  have hk2 : bits .and .i64 a1 1 = (k : Int) := hk1
  clear hk1
  have CE := hide (fun w => refErase_any a0 (k : Int) w)
  have e0 : Nor.errN true = 0 := rfl
  have e1 : Nor.errN false = 200 := rfl
  cases ho : Nor.wornOk a0 (k : Int) 96 with
  | false =>
    rw [ho] at CE
    go_enter Try.func7, Try.ntmps7
    go_wp2_with (first | (go_at_call 15; refine (awake_any _).mono ?_; rintro e w' ⟨rfl, hb⟩; replace hB := hB.trans (hb.mono hB.size); clear hb) | (go_at_call 18; refine (CE.out _).mono ?_; rintro e w' ⟨rfl, hb⟩; replace hB := hB.trans (hb.mono hB.size); clear hb))
    go_ret
    exact ⟨rfl, hB⟩
  | true =>
    rw [ho] at CE
    have hf := Nor.size_of_wornOk ho
    have hx := Nor.size_wornS ho
    have C1 := hide (fun w => scan_any a0 w)
    have C2 := hide (fun w => scan_any (Nor.wornS a0 (k : Int) 96) w)
    have C3 := hide (fun w => free_any (Nor.wornS a0 (k : Int) 96) (k : Int) w)
    obtain ⟨f1, f2, f3⟩ := erased_free ho hk
    rw [f1, f2, f3] at C3
    rw [mayF_t hf] at C1
    rw [mayF_t hx, scan_ok hx, erased_found ho 8, ← scan_ok hf] at C2
    have C4 := hide (fun w => held5_any w)
    have hlen := scan_len a0
    have HM : Hid (∀ p ∈ scanL a0, 0 ≤ p.pa ∧ p.pa ≤ 168) := fun p hp => (scan_mem hp).2.2
    have HH := hide size_heldS
    have j0 : errJ true = 0 := rfl
    obtain ⟨i, hi, hy0, hy1, hy2⟩ := info_parts info_pl
    clear f1 f2 f3 hf hx ho
    generalize Nor.wornS a0 (k : Int) 96 = X at *
    generalize scanL a0 = L at *
    generalize heldS = F at *
    go_enter Try.func7, Try.ntmps7
    go_wp2_with (first | (go_at_call 15; refine (awake_any _).mono ?_; rintro e w' ⟨rfl, hb⟩; replace hB := hB.trans (hb.mono hB.size); clear hb) | (go_at_call 18; refine (CE.out _).mono ?_; rintro e w' ⟨rfl, hb⟩; replace hB := hB.trans (hb.mono hB.size); clear hb))
    refine (C1.out _).mono ?_
    rintro e w1 ⟨v1, rfl, ho1, hb⟩
    replace hB := thenB hB hb; clear hb
    go_wp2_with fail
    refine (C2.out _).mono ?_
    rintro e w2 ⟨v2, rfl, ho2, hb⟩
    replace ho1 := OpsRow.owns_below ho1 hb; replace hB := thenB hB hb; clear hb
    go_wp2_with fail
    refine (C3.out _).mono ?_
    rintro e w3 ⟨rfl, rfl⟩
    obtain ⟨a, cap, rfl, hin⟩ := ownsP_is ho1
    have IsA : Hid (IsPl w3 v2 (L.filter (stays k))) := ownsP_is ho2
    clear ho1 ho2 CE C1 C2 C3
    go_wp2
    go_loopw [15, 16] (fun s y wr => ∃ n : Nat, n ≤ L.length ∧ y = .int .i64 n ∧ wr.ownsRow w3.heap.size 44 5 s ((L.take n).filter (stays k)).length (flatP ((L.take n).filter (stays k))) ∧ Below w3.heap.size w3 wr) (fun _ y _ => L.length - (intOf y).toNat)
    case atStart => exact ⟨0, Nat.zero_le _, rfl, ownsP_nil _ _ _, Below.refl _ _⟩
    case round =>
      obtain ⟨n, hn, rfl, hown, hbel⟩ := hrel
      by_cases hlt : n < L.length
      · rcases hin with hin | ⟨g, rfl, hg, hin⟩
        · rw [hin] at hlt; simp at hlt
        have hin1 := hin.below hbel hg
        obtain ⟨m1, m2⟩ := HM.out L[n] (List.getElem_mem hlt)
        have c0 := hin1.pa n hlt
        have HS := hide (take_stays L k n hlt)
        have hfew := few L k n hlen
        have s1 := hbel.size
        cases hs : stays k L[n] with
        | false =>
          rw [hs] at HS
          have hd : (L[n].pa / 96 != (k : Int)) = false := by
            have h := of_decide_eq_false hs
            rw [Decidable.not_not] at h
            rw [h]
            simp
          generalize (L.take n).filter (stays k) = W at *
          generalize L[n].pa = A at *
          clear hs hin hin1
          go_wp2
          refine ⟨⟨n + 1, by omega, by go_num, ?_, hbel⟩, by simp [intOf]; omega⟩
          rw [HS.out, if_neg (by decide), List.append_nil]
          exact hown
        | true =>
          rw [hs] at HS
          have hd : (L[n].pa / 96 != (k : Int)) = true := by
            have h := of_decide_eq_true hs
            rw [bne_iff_ne]
            exact h
          have c1 := hin1.pq n hlt
          have c2 := hin1.pt n hlt
          have c3 := hin1.pz n hlt
          have c4 := hin1.pm n hlt
          have HR : Hid (flatP [L[n]] = [.int .i64 L[n].pa, .int .i64 L[n].pq, .int .i64 L[n].pt, .int .i64 L[n].pz, .int .i64 L[n].pm]) := rfl
          rw [if_pos rfl] at HS
          generalize (L.take n).filter (stays k) = W at *
          have b1 : W.length + 1 ≤ maxLen := by unfold maxLen; omega
          have b2 : (W.length + 1) * 40 ≤ 140737488355328 := by omega
          generalize hp : L[n] = P at *
          clear hs hin hin1 hp
          go_wp2_with (at_builtin; refine wpList_append_lies _ rfl _ _ _ rfl w3.heap.size 44 i _ 5 40 Try.underlying22 hi hy0 hy1 hy2 rfl (by omega) u15 W.length _ rfl (hown.alloc _) ⟨wr.heap.size, 0, none⟩ 1 1 _ rfl rfl (World.news_of_block (heap_alloc_new wr _)) (flatP_oneCell [P]) (by omega) b1 b2 (by simp; omega) _ rfl ?_; intro g2 cap2 w5 hown1 hgrow hat hlt1)
          refine ⟨⟨n + 1, by omega, by go_num, ?_, ?_⟩, by simp [intOf]; omega⟩
          · rw [HS.out, flatP_append, List.length_append]
            exact hown1
          · exact (hbel.alloc s1 _).grown hgrow (by simp; omega) (fun k hk => (hown.lt k hk).1)
      · have HT : Hid (L.take n = L) := List.take_of_length_le (by omega)
        rw [HT.out] at hown
        have IsB := ownsP_is hown
        have IsA2 := IsA.out.below hbel
        have hfl : (L.filter (stays k)).length ≤ 65536 := by have := List.length_filter_le (stays k) L; omega
        replace hB := thenB hB hbel
        have HFl := hide hfl
        clear hbel hown hin hfl
        go_wp2_with (go_at_call 13; refine (numJ_any _ _).mono ?_; rintro e w' ⟨rfl, rfl⟩)
        refine (samePl_yes _ _ (L.filter (stays k)) _ HFl.out IsA2 IsB).mono ?_
        rintro e w6 ⟨rfl, hb⟩
        replace hB := thenB hB hb
        clear hb IsA2 IsB
        have hz := HH.out
        go_wp2_with (first | (go_at_call 13; refine (numJ_any _ _).mono ?_; rintro e w' ⟨rfl, rfl⟩) | (go_at_call 19; refine (C4.out _).mono ?_; rintro e w' ⟨rfl, hb⟩; replace hB := hB.trans (hb.mono hB.size); clear hb))
        go_ret
        exact ⟨rfl, hB⟩

set_option maxRecDepth 100000 in
theorem lifted (os : Os) (started : os.Started) (H : Type) (enc : TypeId × Value → H) :
    ReturnsInHanded {} Try.checked os 7 .any (Rows.journalErasedSpec.pre6 enc Try.prog Try.f7 Rows.journalErasedRow.domain false) (Rows.journalErasedSpec.post enc Try.prog Try.f7 false true false false) := by
  refine returnsInHanded_of_change (C := Try.checked) own started (by kernel_rfl) Try.func7
    (ChangeSpec.witness6 (enc := enc) (C := Try.checked) false ⟨#[], #[.string ByteArray.empty, .int .i64 0], []⟩ 8 (by kernel_rfl) (by kernel_rfl) (by kernel_rfl) (by kernel_rfl)) ?_
  intro W base args ds gs before hval0 hW hcnd _
  have hval : ∀ (j : Nat) t v, Try.f7.params[j]? = some t → args[j]? = some v → Value.okWide Try.prog W .any base t v := hval0
  have hW' := hW
  obtain ⟨p, q, hA0, hV, rfl, hfz, hnd⟩ := hW
  have hA : DataW.TrodAll enc Try.prog W 0 (fun _ => true) true Try.f7.params.toList args.toList ds p := hA0
  rw [Try.params7] at hA hval
  obtain ⟨v0, vs0, d0, ds0, p0, q0, hargs, rfl, rfl, h0, r0⟩ := trodAll_cons hA
  obtain ⟨v1, vs1, d1, ds1, p1, q1, rfl, rfl, rfl, h1, r1⟩ := trodAll_cons r0
  obtain ⟨rfl, rfl, rfl⟩ := trodAll_nil r1
  obtain rfl : args = #[v0, v1] := by cases args; simp_all
  obtain ⟨rfl, rfl⟩ := trodVars_none hV
  obtain ⟨a0, rfl, rfl, rfl, w0⟩ := open_string Try.underlying9 (hval 0 9 v0 rfl rfl) h0
  obtain ⟨a1, rfl, rfl, rfl, w1⟩ := open_int Try.underlying3 (hval 1 3 v1 rfl rfl) h1
  clear hA0 hval0
  refine (walk a0 a1 w0 w1 W).mono fun e W' ⟨he, bel⟩ => ?_
  subst he
  exact ⟨_, rfl, _, _, _, [], _, [], hW', (trodAll_cons_mk (shut_bool Try.underlying4 _) trodAll_mk0), (trodAll_cons_mk (shut_string Try.underlying9 w0) (trodAll_cons_mk (shut_int Try.underlying3 w1) trodAll_mk0)), rfl, bel.frame _, fun h => by cases h⟩

theorem over : Rows.journalErasedRow.holds Try.pinned (OpenSpec.ofChange Rows.journalErasedSpec) :=
  OpenClaim.holds_of_wide 7 Try.f7 rfl rfl rfl rfl rfl rfl rfl ⟨rfl, rfl, rfl, rfl, rfl⟩ rfl rfl rfl rfl rfl (by kernel_rfl) Try.func7 (by kernel_rfl)
    (of_decide_eq_true (by kernel_rfl)) (by unfold Func.isWrapper; first | (rw [if_pos (by decide +kernel)]; kernel_rfl) | (rw [if_neg (by decide +kernel)]; exact ⟨rfl, rfl⟩))
    (fun os started H enc _ => lifted os started H enc)

theorem proved : Rows.JournalErasedSaid :=
  over
#print axioms proved
end Go.Proofs.Ytinclijbmjaccaa.journalErased
