/- The contracts of package blocks: the pieces of a text, a row that is owned; the text of some pieces; whatever the arguments. Of what was there nothing has turned. -/
import Derived.Test.YtpoigakjhhkifaaBloMath
import Derived.Test.YtpoigakjhhkifaaTxtHelp
import Derived.Test.YtpoigakjhhkifaaImgClone
import Derived.Lib.AppendStr
namespace Go.Proofs.Ytpoigakjhhkifaa.BloWalk
open Go.Proofs.Ytpoigakjhhkifaa Go.RowKit Go.Proofs.Ytpoigakjhhkifaa.Bytes Go.Proofs.Ytpoigakjhhkifaa.NorWalk Go.Proofs.Ytpoigakjhhkifaa.EntRow Go.Proofs.Ytpoigakjhhkifaa.EntLow Go.Proofs.Ytpoigakjhhkifaa.ImgClone Go.Proofs.Ytpoigakjhhkifaa.TxtRow Go.Proofs.Ytpoigakjhhkifaa.TxtHelp Go.Proofs.Ytpoigakjhhkifaa.Blo

theorem run_min2 {P : Program} (a b k : Int) (h : k = min a b) (ts : Array TypeId) (t : TypeId) (w : World) : (Builtin.min_ ts t #[.int .i64 a, .int .i64 b]).run P w = .ok (.int .i64 k) w := by
  simp [Builtin.min_, Builtin.min2]
  subst h
  repeat split
  all_goals omega
set_option maxRecDepth 100000 in
set_option maxHeartbeats 400000 in
theorem split_no (s : ByteArray) (w : World) (h : splitOk s = false) : Calls Try.prog 8 #[.string s] w fun e w' => e = .returned (.tuple #[.slice none 0 0, .int .i64 1000]) ∧ w' = w := by
  have h' := of_decide_eq_false h
  clear h
  by_cases h1 : (s.size : Int) < 1
  · clear h'
    go_enter Try.func8, Try.ntmps8
    go_wp2
    go_ret2
    exact ⟨rfl, rfl⟩
  · have h2 : (288 : Int) < (s.size : Int) := by omega
    clear h'
    go_enter Try.func8, Try.ntmps8
    go_wp2
    go_ret2
    exact ⟨rfl, rfl⟩
set_option maxRecDepth 100000 in
set_option maxHeartbeats 1000000 in
theorem split_yes (s : ByteArray) (w : World) (h : splitOk s = true) : Calls Try.prog 8 #[.string s] w fun e w' => ∃ v, e = .returned (.tuple #[v, .int .i64 0]) ∧ w'.ownsRow w.heap.size 9 1 v (nP s) (txC (piecesTo s (nP s))) ∧ Below w.heap.size w w' := by
  have h' := of_decide_eq_true h
  obtain ⟨hs1, hs2⟩ := h'
  obtain ⟨i, hi, hz0, hz1, hz2⟩ := info_parts info_str
  have HN : Hid (nP s = (s.size + 31) / 32) := rfl
  clear h
  generalize hN : nP s = N at *
  clear hN
  go_enter Try.func8, Try.ntmps8
  go_wp2
  go_loopw [4, 5] (fun v x wr => ∃ j p : Nat, j ≤ N ∧ Hid (p = 32 * j) ∧ x = .int .i64 (p : Int) ∧ wr.ownsRow w.heap.size 9 1 v j (txC (piecesTo s j)) ∧ Below w.heap.size w wr) (fun _ x _ => 32 * N - (intOf x).toNat)
  case atStart => exact ⟨0, 0, Nat.zero_le _, rfl, rfl, ownsT_nil _ _ _, Below.refl _ _⟩
  case round =>
    obtain ⟨j, p, hj, HP, rfl, hown, hbel⟩ := hrel
    have hN := HN.out
    have hp := HP.out
    by_cases hlt : j < N
    · have hpl : (p : Int) < (s.size : Int) := by omega
      obtain ⟨q, hq⟩ : ∃ q : Nat, q = min (32 * j + 32) s.size := ⟨_, rfl⟩
      have hmn := fun ts t w => run_min2 (P := Try.prog) ((p : Int) + 32) (s.size : Int) (q : Int) (by omega) ts t w
      have hq1 : q ≤ s.size := by omega
      have hq2 : p ≤ q := by omega
      have hp9 : p ≤ 288 := by omega
      have HX : Hid (s.extract p q = pieceS s j) := by subst hq hp; rfl
      have s1 := hbel.size
      have b1 : j + 1 ≤ maxLen := by unfold maxLen; omega
      have b2 : (j + 1) * 16 ≤ 140737488355328 := by omega
      have hXs : (s.extract p q).size ≤ 281474976710656 := by rw [ByteArray.size_extract]; omega
      have HC := hide (fun w => clone_any (s.extract p q) w hXs)
      have HQ : Hid (p + 32 = 32 * (j + 1)) := by show p + 32 = 32 * (j + 1); omega
      clear hq hp hN hXs
      go_wp2_with (first | (go_at_call 18; refine (HC.out _).mono ?_; rintro e w1 ⟨rfl, hb1⟩; have s2 := hb1.size) | (at_builtin; refine wpList_append_lies _ rfl _ _ _ rfl w.heap.size 9 i _ 1 16 Try.underlying22 hi hz0 hz1 hz2 rfl (by omega) u4 j _ rfl ((OpsRow.owns_below hown hb1).alloc _) ⟨w1.heap.size, 0, none⟩ 1 1 _ rfl rfl (World.news_of_block (heap_alloc_new w1 _)) (txC_oneCell [_]) (by omega) b1 b2 (by simp; omega) _ rfl ?_; intro g cap w2 hown1 hgrow hat hlt1))
      refine ⟨⟨j + 1, p + 32, by omega, HQ, by go_num, ?_, ?_⟩, by simp [intOf]; have := HQ.out; omega⟩
      · rw [piecesTo_succ, txC_append, ← HX.out]
        exact hown1
      · exact (((thenB hbel hb1)).alloc (by omega) _).grown hgrow (by simp; omega) (fun k hk => (hown.lt k hk).1)
    · obtain rfl : j = N := by omega
      have hpl : ¬ (p : Int) < (s.size : Int) := by omega
      clear hN hp hj hlt
      go_wp2
      go_ret2
      exact ⟨_, rfl, hown, hbel⟩
theorem split_any (s : ByteArray) (w : World) : Calls Try.prog 8 #[.string s] w fun e w' => ∃ v, e = .returned (.tuple #[v, .int .i64 (errB (splitOk s))]) ∧ w'.ownsRow w.heap.size 9 1 v (splitL s).length (txC (splitL s)) ∧ Below w.heap.size w w' := by
  cases h : splitOk s with
  | false =>
    rw [splitL_no h]
    refine (split_no s w h).mono ?_
    rintro e w' ⟨rfl, rfl⟩
    exact ⟨_, rfl, ownsT_nil _ _ _, Below.refl _ _⟩
  | true =>
    rw [splitL_ok h, length_piecesTo]
    exact split_yes s w h
set_option maxRecDepth 100000 in
set_option maxHeartbeats 1000000 in
theorem mayB_any (v : Value) (l : List ByteArray) (w : World) (hl : l.length ≤ maxLen) (hz : ∀ t ∈ l, t.size ≤ maxLen) (hv : IsTx w v l) : Calls Try.prog 20 #[v] w fun e w' => e = .returned (.bool (joinB l)) ∧ w' = w := by
  have hl2 : l.length ≤ 9223372036854775807 := by unfold maxLen at hl; omega
  obtain ⟨a, cap, rfl, _, ha⟩ := hv
  by_cases h1 : (l.length : Int) < 1
  · have HB := hide (not_many (l := l) (.inl (by omega)))
    clear ha
    go_enter Try.func20, Try.ntmps20
    go_wp2
    go_ret
    exact ⟨ret_bool HB.out.symm, rfl⟩
  by_cases h2 : (9 : Int) < (l.length : Int)
  · have HB := hide (not_many (l := l) (.inr (by omega)))
    clear ha
    go_enter Try.func20, Try.ntmps20
    go_wp2
    go_ret
    exact ⟨ret_bool HB.out.symm, rfl⟩
  obtain ⟨b, o, rfl, hcap, hmax, hb, hin⟩ : ∃ b o, a = some ⟨b, o, none⟩ ∧ l.length ≤ cap ∧ cap ≤ maxLen ∧ b < w.heap.size ∧ TxIn w b o l := by
    rcases ha with ha | ha
    · rw [ha] at h1; simp at h1
    · exact ha
  obtain ⟨n, hn⟩ : ∃ n : Nat, l.length = n + 1 := ⟨l.length - 1, by omega⟩
  have HL : Hid (l.length = n + 1) := hn
  have HI : Hid (TxIn w b o l) := hin
  have HZ : Hid (∀ t ∈ l, t.size ≤ maxLen) := hz
  have hn1 : (l.length : Int) - 1 = (n : Int) := by omega
  have hn2 : n ≤ 8 := by omega
  have hnc : n ≤ cap := by omega
  have hnl : n < l.length := by omega
  clear hin hn ha hz
  go_enter Try.func20, Try.ntmps20
  go_wp2
  go_loopw [21] (fun x wr => ∃ j : Nat, j ≤ n ∧ x = .int .i64 (j : Int) ∧ wr = w ∧ Hid (∀ i (h : i < l.length), i < j → l[i].size = 32)) (fun x _ => n - (intOf x).toNat)
  case atStart => exact ⟨0, Nat.zero_le _, rfl, rfl, fun i _ h => by omega⟩
  case round =>
    obtain ⟨j, hj, rfl, rfl, HG⟩ := hrel
    by_cases hlt : j < n
    · have hjl : j < l.length := by omega
      have hc := HI.out j hjl
      have hzz : l[j].size ≤ maxLen := HZ.out _ (List.getElem_mem hjl)
      unfold maxLen at hzz
      by_cases h32 : l[j].size = 32
      · have HG2 : Hid (∀ i (h : i < l.length), i < j + 1 → l[i].size = 32) := fun i hi hij => by
          by_cases e : i = j
          · subst e; exact h32
          · exact HG.out i hi (by omega)
        have h33 : (l[j].size : Int) = 32 := by omega
        generalize l[j] = T at *
        clear h32
        go_wp2
        exact ⟨⟨j + 1, by omega, by go_num, (by first | rfl | trivial), HG2⟩, by simp [intOf]; omega⟩
      · have HB : Hid (joinB l = false) := not_good hjl (fun g => h32 (g.2.2 (by have := HL.out; omega)))
        have h33 : ¬ (l[j].size : Int) = 32 := by omega
        generalize l[j] = T at *
        clear h32
        go_wp2
        go_ret
        exact ⟨ret_bool HB.out.symm, rfl⟩
    · obtain rfl : j = n := by omega
      have hc := HI.out j hnl
      have hzz : l[j].size ≤ maxLen := HZ.out _ (List.getElem_mem hnl)
      unfold maxLen at hzz
      have HE : Hid (joinB l = (decide ((1 : Int) ≤ (l[j].size : Int)) && decide ((l[j].size : Int) ≤ 32))) := by
        have hL := HL.out
        by_cases g : 1 ≤ l[j].size ∧ l[j].size ≤ 32
        · rw [joinB_t (show JoinOk l from ⟨by omega, by omega, fun i hi _ => ?_⟩), decide_eq_true (by omega), decide_eq_true (by omega)]
          · rfl
          · by_cases e : i = j
            · subst e; exact ⟨g.1, g.2, fun h => by omega⟩
            · have := HG.out i hi (by omega)
              exact ⟨by omega, by omega, fun _ => this⟩
        · rw [not_good hnl (fun h => g ⟨h.1, h.2.1⟩)]
          by_cases g1 : 1 ≤ l[j].size
          · rw [decide_eq_false (p := (l[j].size : Int) ≤ 32) (by omega), Bool.and_false]; exact rfl
          · rw [decide_eq_false (p := (1 : Int) ≤ (l[j].size : Int)) (by omega), Bool.false_and]; exact rfl
      generalize l[j] = T at *
      clear hlt hj
      by_cases g1 : (1 : Int) ≤ (T.size : Int)
      · go_wp2
        go_ret
        refine ⟨ret_bool ?_, rfl⟩
        rw [HE.out, decide_eq_true g1, Bool.true_and]
      · go_wp2
        go_ret
        refine ⟨ret_bool ?_, rfl⟩
        rw [HE.out, decide_eq_false (p := (1 : Int) ≤ (T.size : Int)) (by omega), Bool.false_and]
set_option maxRecDepth 100000 in
set_option maxHeartbeats 400000 in
theorem join_no (v : Value) (l : List ByteArray) (w : World) (hl : l.length ≤ maxLen) (hz : ∀ t ∈ l, t.size ≤ maxLen) (hv : IsTx w v l) (h : joinB l = false) : Calls Try.prog 10 #[v] w fun e w' => e = .returned (.tuple #[.string ⟨#[]⟩, .int .i64 1000]) ∧ w' = w := by
  have HM := hide (mayB_any v l w hl hz hv)
  rw [h] at HM
  clear h hz
  obtain ⟨a, cap, rfl, _, _⟩ := hv
  go_enter Try.func10, Try.ntmps10
  go_wp2_with (go_at_call 20; refine HM.out.mono ?_; rintro e w' ⟨rfl, rfl⟩)
  go_ret2
  exact ⟨rfl, rfl⟩
theorem str_empty : Lib.strCells ⟨#[]⟩ = [] := rfl
theorem strCells_append (a b : ByteArray) : Lib.strCells (a ++ b) = Lib.strCells a ++ Lib.strCells b := by
  unfold Lib.strCells
  rw [list_append, List.map_append]
theorem owned_text {P : Program} {w : World} {base : Nat} {e : TypeId} {g cap : Nat} {s : ByteArray} (h : w.ownsRow base e 1 (.slice (some ⟨g, 0, none⟩) s.size cap) s.size (Lib.strCells s)) (src dst : TypeId) (hs : P.underlying src = some (.slice e)) (he : P.underlying e = some (.int .u8)) (hd : P.underlying dst = some .string) :
    (convert src dst (.slice (some ⟨g, 0, none⟩) s.size cap)).run P w = .ok (.string s) w := by
  have hr : Row w g s.data.toList := by
    refine ⟨fun j hj => ?_, fun j _ => h.frozenAt j⟩
    have hj' : j < s.size := by rw [Array.length_toList] at hj; exact hj
    rw [h.cellAt j (by omega)]
    unfold Lib.strCells
    rw [List.getElem?_map, List.getElem?_eq_getElem hj]
    rfl
  have := hr.text (P := P) src dst e cap s.size (by rw [Array.length_toList]; rfl) hs he hd
  rw [this]
set_option maxRecDepth 100000 in
set_option maxHeartbeats 1000000 in
theorem join_yes (v : Value) (l : List ByteArray) (w : World) (hv : IsTx w v l) (h : joinB l = true) : Calls Try.prog 10 #[v] w fun e w' => e = .returned (.tuple #[.string (joinTo l l.length), .int .i64 0]) ∧ Below w.heap.size w w' := by
  obtain ⟨ok1, ok2, ok3⟩ := joinB_of h
  have HM := hide (mayB_any v l w (by unfold maxLen; omega) (fun t ht => by
    obtain ⟨i, hi, rfl⟩ := List.getElem_of_mem ht
    have := (ok3 i hi hi).2.1
    unfold maxLen
    omega) hv)
  rw [h] at HM
  have hend := (ok_end ok3).1 (joinB_of h)
  have HG : Hid (Blo.Good l l.length) := ok3
  clear h ok3
  obtain ⟨a, cap, rfl, _, ha⟩ := hv
  obtain ⟨b, o, rfl, hcap, hmax, hb, hin⟩ : ∃ b o, a = some ⟨b, o, none⟩ ∧ l.length ≤ cap ∧ cap ≤ maxLen ∧ b < w.heap.size ∧ TxIn w b o l := by
    rcases ha with ha | ha
    · rw [ha] at ok1; simp at ok1
    · exact ha
  have HI : Hid (TxIn w b o l) := hin
  clear hin ha
  obtain ⟨i, hi, hz0, hz1, hz2⟩ := info_parts info_u8
  go_enter Try.func10, Try.ntmps10
  go_wp2_with (go_at_call 20; refine HM.out.mono ?_; rintro e w' ⟨rfl, rfl⟩)
  go_loopw [4, 12] (fun v x wr => ∃ j : Nat, j ≤ l.length ∧ x = .int .i64 (j : Int) ∧ wr.ownsRow w'.heap.size 5 1 v (joinTo l j).size (Lib.strCells (joinTo l j)) ∧ Below w'.heap.size w' wr) (fun _ x _ => l.length - (intOf x).toNat)
  case atStart => exact ⟨0, Nat.zero_le _, rfl, World.ownsRow_nil _ _ _ _, Below.refl _ _⟩
  case round =>
    obtain ⟨j, hj, rfl, hown, hbel⟩ := hrel
    by_cases hlt : j < l.length
    · have hc : wr.cell? ⟨b, o + j, none⟩ = some (.string l[j]) := by rw [hbel.cell (p := ⟨b, o + j, none⟩) hb]; exact HI.out j hlt
      have hsz : (joinTo l j).size ≤ 288 := by
        rw [size_good (fun i hi hij => HG.out i hi (by omega)) hlt]
        omega
      have hT : l[j].size ≤ 32 := (HG.out j hlt hlt).2.1
      have HS : Hid (joinTo l (j + 1) = joinTo l j ++ l[j]) := joinTo_succ l j hlt
      have s1 := hbel.size
      have b1 : (joinTo l j).size + l[j].size ≤ maxLen := by unfold maxLen; omega
      have b2 : (joinTo l j).size + l[j].size ≤ 140737488355328 := by omega
      generalize l[j] = T at *
      go_wp2_with (at_builtin; refine Lib.wpList_append_own_string _ rfl _ _ _ _ rfl w'.heap.size 5 i Try.underlying38 Try.underlying9 hi hz0 hz1 hz2 u4 _ _ rfl hown T rfl b1 b2 s1 ?_; intro v' w2 hown1 hgrow _)
      refine ⟨⟨j + 1, by omega, by go_num, ?_, hbel.grown hgrow s1 (fun k hk => (hown.lt k hk).1)⟩, by simp [intOf]; omega⟩
      rw [HS.out, strCells_append, ByteArray.size_append]
      exact hown1
    · obtain rfl : j = l.length := by omega
      obtain ⟨g, cap, rfl, _, _⟩ := hown.form (by omega)
      have hcv := owned_text (P := Try.prog) hown 38 9 Try.underlying38 Try.underlying5 Try.underlying9
      go_wp2
      go_ret2
      exact ⟨rfl, hbel⟩
theorem join_any (v : Value) (l : List ByteArray) (w : World) (hl : l.length ≤ maxLen) (hz : ∀ t ∈ l, t.size ≤ maxLen) (hv : IsTx w v l) : Calls Try.prog 10 #[v] w fun e w' => e = .returned (.tuple #[.string (joinS l), .int .i64 (errB (joinB l))]) ∧ Below w.heap.size w w' := by
  cases h : joinB l with
  | false =>
    rw [joinS_f h]
    refine (join_no v l w hl hz hv h).mono ?_
    rintro e w' ⟨rfl, rfl⟩
    exact ⟨rfl, Below.refl _ _⟩
  | true =>
    rw [joinS_t h]
    exact join_yes v l w hv h
end Go.Proofs.Ytpoigakjhhkifaa.BloWalk
