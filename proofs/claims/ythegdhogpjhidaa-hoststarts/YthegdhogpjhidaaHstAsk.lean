/- The contracts of package host's own requests, of what it begins with, of what it asks; of what was there nothing has turned. -/
import Derived.Test.YthegdhogpjhidaaHstWalk
namespace Go.Proofs.Ythegdhogpjhidaa.HstAsk
open Go.Proofs.Ythegdhogpjhidaa Go.RowKit Go.Proofs.Ythegdhogpjhidaa.Bytes Go.Proofs.Ythegdhogpjhidaa.NorWalk Go.Proofs.Ythegdhogpjhidaa.Suf Go.Proofs.Ythegdhogpjhidaa.Idt Go.Proofs.Ythegdhogpjhidaa.Sup Go.Proofs.Ythegdhogpjhidaa.Hst Go.Proofs.Ythegdhogpjhidaa.HstWalk
open Go.Proofs.Ythegdhogpjhidaa.SetWalk (resM resB set3 build_set build_no build_c)
open Go.Proofs.Ythegdhogpjhidaa.OpsRow (boxM boxB boxD thenD)
open Go.Proofs.Ythegdhogpjhidaa.TxtRow (txC TxIn IsTx ownsT_is)
open Go.Proofs.Ythegdhogpjhidaa.Blo (nP pieceS piecesTo splitL splitOk)
attribute [local go_sem ↓] Go.wp_at_zero Go.wp_at_succ

theorem hal (w : World) (b : Obj) : Below w.heap.size w (w.alloc b) := (Below.refl _ _).alloc (Nat.le_refl _) b
theorem build_cn (c n : Int) (w : World) : (Instr.build 48 #[(0, .int .i64 c), (2, .int .i64 n)]).run Try.prog w = .ok (.agg #[.int .i64 c, .int .i64 0, .int .i64 n]) w := run_build w 48 _ _ (by kernel_rfl)
theorem build_cv (c v : Int) (w : World) : (Instr.build 48 #[(0, .int .i64 c), (1, .int .i64 v)]).run Try.prog w = .ok (.agg #[.int .i64 c, .int .i64 v, .int .i64 0]) w := run_build w 48 _ _ (by kernel_rfl)
theorem build_h0 (w : World) : (Instr.build 23 #[]).run Try.prog w = .ok (.agg #[.int .i64 0, .string ⟨#[]⟩, .int .i64 0, .bool false, .int .i64 0, .string ⟨#[]⟩, .int .i64 0]) w := run_build w 23 _ _ (by kernel_rfl)
theorem build_h7 (p r : Int) (w : World) : (Instr.build 23 #[(0, .int .i64 p), (6, .int .i64 r)]).run Try.prog w = .ok (.agg #[.int .i64 p, .string ⟨#[]⟩, .int .i64 0, .bool false, .int .i64 0, .string ⟨#[]⟩, .int .i64 r]) w := run_build w 23 _ _ (by kernel_rfl)
theorem build_h1 (p : Int) (s : ByteArray) (w : World) : (Instr.build 23 #[(0, .int .i64 p), (1, .string s)]).run Try.prog w = .ok (.agg #[.int .i64 p, .string s, .int .i64 0, .bool false, .int .i64 0, .string ⟨#[]⟩, .int .i64 0]) w := run_build w 23 _ _ (by kernel_rfl)

/-- A request, and what goes with it. -/
def Req (w : World) (c v n : Int) (s : ByteArray) (e : Ending) (w' : World) : Prop := e = .returned (.tuple #[.agg #[.int .i64 c, .int .i64 v, .int .i64 n], .string s]) ∧ Below w.heap.size w w'
/-- The boxes at such a one's beginning: the host, the request. -/
theorem req_boxes (w : World) (x0 x1 x2 x3 x4 x5 x6 : Value) : ∃ W, (w.alloc (.cells #[x0, x1, x2, x3, x4, x5, x6] 63)).alloc (.cells #[.int .i64 0, .int .i64 0, .int .i64 0] 48) = W ∧ Sev W w.heap.size x0 x1 x2 x3 x4 x5 x6 ∧ (w.heap.size + 1 < W.heap.size ∧ W.cell? ⟨w.heap.size + 1, 0, none⟩ = some (.int .i64 0) ∧ W.cell? ⟨w.heap.size + 1, 1, none⟩ = some (.int .i64 0) ∧ W.cell? ⟨w.heap.size + 1, 2, none⟩ = some (.int .i64 0) ∧ ∀ i, W.frozen? ⟨w.heap.size + 1, i, none⟩ = false) ∧ Below w.heap.size w W := by
  refine ⟨_, rfl, ?_⟩
  have h1 := sevM w x0 x1 x2 x3 x4 x5 x6 63
  have n1 := hal w (.cells #[x0, x1, x2, x3, x4, x5, x6] 63)
  have s1 : (w.alloc (.cells #[x0, x1, x2, x3, x4, x5, x6] 63)).heap.size = w.heap.size + 1 := by simp
  generalize w.alloc (.cells #[x0, x1, x2, x3, x4, x5, x6] 63) = W1 at *
  have h2 := resM W1 (.int .i64 0) (.int .i64 0) (.int .i64 0) 48
  have n2 := hal W1 (.cells #[.int .i64 0, .int .i64 0, .int .i64 0] 48)
  rw [s1] at h2
  exact ⟨sevB h1 n2, h2, thenB n1 n2⟩
set_option maxRecDepth 100000 in
theorem polling_any (ph : Int) (im : ByteArray) (bl : Int) (ag : Bool) (tr : Int) (rd : ByteArray) (rp : Int) (w : World) : Calls Try.prog 48 #[.agg #[.int .i64 ph, .string im, .int .i64 bl, .bool ag, .int .i64 tr, .string rd, .int .i64 rp]] w (Req w 3 0 6 ⟨#[]⟩) := by
  obtain ⟨W, hW, hX, hR, hB⟩ := req_boxes w (.int .i64 ph) (.string im) (.int .i64 bl) (.bool ag) (.int .i64 tr) (.string rd) (.int .i64 rp)
  have b1 := build_cn
  unfold Req
  subst hW
  go_enter Try.func48, Try.ntmps48
  go_upto_region 1 with fail
  generalize (w.alloc _).alloc _ = W at *
  go_wp2
  exact bodyPost_ret (v := .tuple #[.agg #[.int .i64 3, .int .i64 0, .int .i64 6], .string ⟨#[]⟩]) (by simp [results, Try.results48, go_sem, hR]) rfl ⟨rfl, set3 hB (Nat.le_succ _)⟩
set_option maxRecDepth 100000 in
theorem ending_any (ph : Int) (im : ByteArray) (bl : Int) (ag : Bool) (tr : Int) (rd : ByteArray) (rp : Int) (w : World) : Calls Try.prog 46 #[.agg #[.int .i64 ph, .string im, .int .i64 bl, .bool ag, .int .i64 tr, .string rd, .int .i64 rp]] w (Req w 1 bl 0 ⟨#[]⟩) := by
  obtain ⟨W, hW, hX, hR, hB⟩ := req_boxes w (.int .i64 ph) (.string im) (.int .i64 bl) (.bool ag) (.int .i64 tr) (.string rd) (.int .i64 rp)
  have b1 := build_cv
  unfold Req
  subst hW
  go_enter Try.func46, Try.ntmps46
  go_upto_region 1 with fail
  generalize (w.alloc _).alloc _ = W at *
  go_wp2
  exact bodyPost_ret (v := .tuple #[.agg #[.int .i64 1, .int .i64 bl, .int .i64 0], .string ⟨#[]⟩]) (by simp [results, Try.results46, go_sem, hR]) rfl ⟨rfl, set3 hB (Nat.le_succ _)⟩
set_option maxRecDepth 100000 in
theorem reading_any (ph : Int) (im : ByteArray) (bl : Int) (ag : Bool) (tr : Int) (rd : ByteArray) (rp : Int) (w : World) : Calls Try.prog 47 #[.agg #[.int .i64 ph, .string im, .int .i64 bl, .bool ag, .int .i64 tr, .string rd, .int .i64 rp]] w (Req w 2 bl 32 ⟨#[]⟩) := by
  obtain ⟨W, hW, hX, hR, hB⟩ := req_boxes w (.int .i64 ph) (.string im) (.int .i64 bl) (.bool ag) (.int .i64 tr) (.string rd) (.int .i64 rp)
  have b1 := build_set
  unfold Req
  subst hW
  go_enter Try.func47, Try.ntmps47
  go_upto_region 1 with fail
  generalize (w.alloc _).alloc _ = W at *
  go_wp2
  exact bodyPost_ret (v := .tuple #[.agg #[.int .i64 2, .int .i64 bl, .int .i64 32], .string ⟨#[]⟩]) (by simp [results, Try.results47, go_sem, hR]) rfl ⟨rfl, set3 hB (Nat.le_succ _)⟩
set_option maxRecDepth 100000 in
theorem clearing_any (ph : Int) (im : ByteArray) (bl : Int) (ag : Bool) (tr : Int) (rd : ByteArray) (rp : Int) (w : World) : Calls Try.prog 44 #[.agg #[.int .i64 ph, .string im, .int .i64 bl, .bool ag, .int .i64 tr, .string rd, .int .i64 rp]] w (Req w (if bl = 0 then 4 else 6) 0 0 ⟨#[]⟩) := by
  obtain ⟨W, hW, hX, hR, hB⟩ := req_boxes w (.int .i64 ph) (.string im) (.int .i64 bl) (.bool ag) (.int .i64 tr) (.string rd) (.int .i64 rp)
  have b1 := build_c
  unfold Req
  subst hW
  by_cases h : bl = 0
  · rw [if_pos h]
    subst h
    go_enter Try.func44, Try.ntmps44
    go_upto_region 1 with fail
    generalize (w.alloc _).alloc _ = W at *
    go_wp2
    exact bodyPost_ret (v := .tuple #[.agg #[.int .i64 4, .int .i64 0, .int .i64 0], .string ⟨#[]⟩]) (by simp [results, Try.results44, go_sem, hR]) rfl ⟨rfl, set3 hB (Nat.le_succ _)⟩
  · rw [if_neg h]
    go_enter Try.func44, Try.ntmps44
    go_upto_region 1 with fail
    generalize (w.alloc _).alloc _ = W at *
    go_wp2
    exact bodyPost_ret (v := .tuple #[.agg #[.int .i64 6, .int .i64 0, .int .i64 0], .string ⟨#[]⟩]) (by simp [results, Try.results44, go_sem, hR]) rfl ⟨rfl, set3 hB (Nat.le_succ _)⟩
set_option maxRecDepth 100000 in
set_option maxHeartbeats 1000000 in
theorem sending_any (ph : Int) (im : ByteArray) (j : Nat) (ag : Bool) (tr : Int) (rd : ByteArray) (rp : Int) (w : World) (h1 : im.size ≤ 288) (h2 : j ≤ nP im) : Calls Try.prog 45 #[.agg #[.int .i64 ph, .string im, .int .i64 j, .bool ag, .int .i64 tr, .string rd, .int .i64 rp]] w (Req w 1 j (pieceS im j).size (pieceS im j)) := by
  obtain ⟨W, hW, hX, hR, hB⟩ := req_boxes w (.int .i64 ph) (.string im) (.int .i64 j) (.bool ag) (.int .i64 tr) (.string rd) (.int .i64 rp)
  have b1 := build_set
  have HP : Hid (∀ w, Calls Try.prog 33 #[.string im] w fun e w' => ∃ v, e = .returned v ∧ IsTx w' v (splitL im) ∧ Below w.heap.size w w') := fun w => (pieces_any im w).mono fun e w' ⟨v, he, hown, hb⟩ => ⟨v, he, ownsT_is hown, hb⟩
  have HE := hide (fun w => ending_any ph im j ag tr rd rp w)
  have hN := len_split h1
  have h9 := nP_le h1
  unfold Req at *
  by_cases h3 : j = nP im
  · have hS : pieceS im j = ⟨#[]⟩ := by rw [h3]; exact piece_end im
    rw [hS]
    have hj : splitL im = splitL im := rfl
    rw [← h3] at hN
    clear h1 h2 h3 hS h9
    generalize splitL im = L at *
    subst hW
    go_enter Try.func45, Try.ntmps45
    go_upto_region 1 with fail
    generalize (w.alloc _).alloc _ = W at *
    go_wp2_with (first | (go_at_call 33; refine (HP.out _).mono ?_; rintro e w' ⟨v, rfl, hL, hb⟩; obtain ⟨a, ca, rfl, -, -⟩ := hL; rw [hN]; replace hB := thenB hB hb; replace hX := sevB hX hb; replace hR := resB hR hb; clear hb) | (go_at_call 46; refine (HE.out _).mono ?_; rintro e w' ⟨rfl, hb⟩; replace hB := thenB hB hb; replace hX := sevB hX hb; replace hR := resB hR hb; clear hb))
    exact bodyPost_ret (v := .tuple #[.agg #[.int .i64 1, .int .i64 j, .int .i64 0], .string ⟨#[]⟩]) (by simp [results, Try.results45, go_sem, hR]) rfl ⟨rfl, set3 hB (Nat.le_succ _)⟩
  · have h4 : j < (splitL im).length := by omega
    have hS := get_split h4
    have hne : ¬ (j : Int) = ((splitL im).length : Int) := by omega
    have hj9 : j ≤ 9 := by omega
    have hl9 : (splitL im).length ≤ 9 := by omega
    clear h1 h2 h3 h9 hN
    generalize splitL im = L at *
    generalize hT : L[j] = T at *
    rw [← hS]
    clear hS
    have HP2 : Hid (∀ w, Calls Try.prog 33 #[.string im] w fun e w' => ∃ b o ca, e = .returned (.slice (some ⟨b, o, none⟩) L.length ca) ∧ L.length ≤ ca ∧ ca ≤ maxLen ∧ w'.cell? ⟨b, o + j, none⟩ = some (.string T) ∧ Below w.heap.size w w') := fun w => (HP.out w).mono fun e w' ⟨v, he, hL, hb⟩ => by
      obtain ⟨a, ca, rfl, _, h | ⟨b, o, rfl, g1, g2, _, g3⟩⟩ := hL
      · subst h; exact absurd h4 (Nat.not_lt_zero _)
      · exact ⟨b, o, ca, he, g1, g2, by rw [← hT]; exact g3 j h4, hb⟩
    clear HP
    subst hW
    go_enter Try.func45, Try.ntmps45
    go_upto_region 1 with fail
    generalize (w.alloc _).alloc _ = W at *
    go_wp2_with (first | (go_at_call 33; refine (HP2.out _).mono ?_; rintro e w' ⟨b, o, ca, rfl, g1, g2, hc, hb⟩; replace hB := thenB hB hb; replace hX := sevB hX hb; replace hR := resB hR hb; clear hb))
    exact bodyPost_ret (v := .tuple #[.agg #[.int .i64 1, .int .i64 j, .int .i64 T.size], .string T]) (by simp [results, Try.results45, go_sem, hR]) rfl ⟨rfl, set3 hB (Nat.le_succ _)⟩
end Go.Proofs.Ythegdhogpjhidaa.HstAsk
