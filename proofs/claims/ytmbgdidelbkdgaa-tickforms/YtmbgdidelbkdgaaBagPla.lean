/- The contracts of package place: the next record's number, the sector in which the active one stands, where the next one goes, the steps that lay it down; whatever the arguments. Of what was there nothing has turned. -/
import Derived.Test.YtmbgdidelbkdgaaBagCho
import Derived.Test.YtmbgdidelbkdgaaBagAct
import Derived.Test.YtmbgdidelbkdgaaBagOps
import Derived.Laws.OwnMore
namespace Go.Proofs.Ytmbgdidelbkdgaa.PlaWalk
open Go.Proofs.Ytmbgdidelbkdgaa Go.RowKit Go.Proofs.Ytmbgdidelbkdgaa.Bytes Go.Proofs.Ytmbgdidelbkdgaa.NorWalk Go.Proofs.Ytmbgdidelbkdgaa.Ent Go.Proofs.Ytmbgdidelbkdgaa.EntRow Go.Proofs.Ytmbgdidelbkdgaa.EntWalk Go.Proofs.Ytmbgdidelbkdgaa.Jou Go.Proofs.Ytmbgdidelbkdgaa.JouRow Go.Proofs.Ytmbgdidelbkdgaa.JouWalk Go.Proofs.Ytmbgdidelbkdgaa.Ops Go.Proofs.Ytmbgdidelbkdgaa.Act Go.Proofs.Ytmbgdidelbkdgaa.ActRef Go.Proofs.Ytmbgdidelbkdgaa.ActNext Go.Proofs.Ytmbgdidelbkdgaa.ActApp Go.Proofs.Ytmbgdidelbkdgaa.Cho Go.Proofs.Ytmbgdidelbkdgaa.ChoWalk

theorem ret_i {a b : Int} (h : a = b) : Ending.returned (.int .i64 a) = .returned (.int .i64 b) := by rw [h]
theorem ret_ib {a b : Int} {c d : Bool} (h : a = b) (g : c = d) : Ending.returned (.tuple #[.int .i64 a, .bool c]) = .returned (.tuple #[.int .i64 b, .bool d]) := by rw [h, g]
theorem act_pa (f : ByteArray) : 0 ≤ (actV f).pa ∧ (actV f).pa ≤ 168 := by
  rcases three f with ⟨_, _, h, _⟩ | ⟨_, _, h, _⟩ | ⟨_, h, _⟩
  · rw [h]; show (0 : Int) ≤ 0 ∧ (0 : Int) ≤ 168; omega
  · rw [h]; show (0 : Int) ≤ 0 ∧ (0 : Int) ≤ 168; omega
  · exact (act_rec h).2.2
theorem appOk_ff {f : ByteArray} {q t z m : Int} (h : appOk f q t z m = false) : recMay q t z m = false ∨ recMay q t z m = true ∧ mayB f = false := by
  unfold appOk at h
  cases hr : recMay q t z m with
  | false => exact .inl rfl
  | true => rw [hr, Bool.and_true] at h; exact .inr ⟨rfl, h⟩
end Go.Proofs.Ytmbgdidelbkdgaa.PlaWalk

/- The contracts of package stage and of the document's own steps that erase a slot: the row of steps, owned; the record of a slot's first bytes; whatever the arguments. Of what was there nothing has turned. -/
namespace Go.Proofs.Ytmbgdidelbkdgaa.StaWalk
open Go.Proofs.Ytmbgdidelbkdgaa Go.RowKit Go.Proofs.Ytmbgdidelbkdgaa.Bytes Go.Proofs.Ytmbgdidelbkdgaa.NorWalk Go.Proofs.Ytmbgdidelbkdgaa.Ent Go.Proofs.Ytmbgdidelbkdgaa.EntRow Go.Proofs.Ytmbgdidelbkdgaa.EntWalk Go.Proofs.Ytmbgdidelbkdgaa.Jou Go.Proofs.Ytmbgdidelbkdgaa.Ops Go.Proofs.Ytmbgdidelbkdgaa.Act Go.Proofs.Ytmbgdidelbkdgaa.ActRef Go.Proofs.Ytmbgdidelbkdgaa.ActApp Go.Proofs.Ytmbgdidelbkdgaa.ImgWalk Go.Proofs.Ytmbgdidelbkdgaa.PlaWalk Go.Proofs.Ytmbgdidelbkdgaa.Sta

theorem errG_t {ok : Bool} (h : ok = true) : errG ok = 0 := by rw [h]; rfl
set_option maxRecDepth 100000 in
set_option maxHeartbeats 400000 in
theorem refErases_no (t : Int) (w : World) (h : baseOk t = false) : Calls Try.prog 24 #[.int .i64 t] w fun e w' => e = .returned (.tuple #[.slice none 0 0, .int .i64 900]) ∧ w' = w := by
  have e1 : errI false = 600 := rfl
  have HB := hide (fun w => refBase_any t w)
  rw [h] at HB
  go_enter Try.func24, Try.ntmps24
  go_wp2_with (go_at_call 48; refine (HB.out _).mono ?_; rintro e w' ⟨rfl, rfl⟩)
  go_ret2
  exact ⟨rfl, rfl⟩
set_option maxRecDepth 100000 in
set_option maxHeartbeats 1000000 in
theorem refErases_yes (t p : Nat) (w : World) (ht : t ≤ 1) (hp : p = 192 + 288 * t) : Calls Try.prog 24 #[.int .i64 (t : Int)] w fun e w' => ∃ v, e = .returned (.tuple #[v, .int .i64 0]) ∧ w'.ownsRow w.heap.size 40 3 v 3 (OpsRow.flat (erTo (p : Int) 3)) ∧ Below w.heap.size w w' := by
  have HB := hide (fun w => refBase_nat t p w ht hp)
  have hp1 : p ≤ 480 := by omega
  obtain ⟨i, hi, hz0, hz1, hz2⟩ := info_parts OpsWalk.info_op
  have hbd := OpsWalk.build_er_at
  clear hp ht
  go_enter Try.func24, Try.ntmps24
  go_wp2_with (go_at_call 48; refine (HB.out _).mono ?_; rintro e w' ⟨rfl, rfl⟩)
  go_loopw [6, 7] (fun s x wr => ∃ j : Nat, j ≤ 3 ∧ x = .int .i64 j ∧ wr.ownsRow w'.heap.size 40 3 s j (OpsRow.flat (erTo (p : Int) j)) ∧ Below w'.heap.size w' wr) (fun _ x _ => 3 - (intOf x).toNat)
  case atStart => exact ⟨0, Nat.zero_le _, rfl, OpsRow.owns_nil _ _ _, Below.refl _ _⟩
  case round =>
    obtain ⟨j, hj, rfl, hown, hbel⟩ := hrel
    by_cases hlt : j < 3
    · have s1 := hbel.size
      have b1 : j + 1 ≤ maxLen := by unfold maxLen; omega
      have b2 : (j + 1) * 32 ≤ 140737488355328 := by omega
      go_wp2_with (at_builtin; refine wpList_append_lies _ rfl _ _ _ rfl w'.heap.size 40 i _ 3 32 Try.underlying22 hi hz0 hz1 hz2 rfl (by omega) u6 j _ rfl (hown.alloc _) ⟨wr.heap.size, 0, none⟩ 1 1 _ rfl rfl (World.news_of_block (heap_alloc_new wr _)) (OpsRow.flat_oneCell [⟨true, _, ⟨#[]⟩⟩]) (by omega) b1 b2 (by simp; omega) _ rfl ?_; intro g cap w1 hown1 hgrow hat hlt1)
      refine ⟨⟨j + 1, by omega, by go_num, ?_, ?_⟩, by simp [intOf]; omega⟩
      · rw [erTo_succ, OpsRow.flat_append, Int.mul_comm 96 (j : Int)]
        exact hown1
      · exact (hbel.alloc s1 _).grown hgrow (by simp; omega) (fun k hk => (hown.lt k hk).1)
    · obtain rfl : j = 3 := by omega
      go_wp2
      go_ret2
      exact ⟨_, rfl, hown, hbel⟩
theorem refErases_any (t : Int) (w : World) : Calls Try.prog 24 #[.int .i64 t] w fun e w' => ∃ v, e = .returned (.tuple #[v, .int .i64 (errG (baseOk t))]) ∧ w'.ownsRow w.heap.size 40 3 v (erL t).length (OpsRow.flat (erL t)) ∧ Below w.heap.size w w' := by
  cases h : baseOk t with
  | false =>
    rw [erL_no h]
    refine (refErases_no t w h).mono ?_
    rintro e w' ⟨rfl, rfl⟩
    exact ⟨_, rfl, OpsRow.owns_nil _ _ _, Below.refl _ _⟩
  | true =>
    obtain ⟨h1, h2⟩ := baseOk_parts.1 h
    obtain ⟨a, rfl⟩ := Int.eq_ofNat_of_zero_le h1
    have e : baseI (a : Int) = ((192 + 288 * a : Nat) : Int) := by unfold baseI; rw [if_pos h]; omega
    rw [erL_ok h, length_erTo, e]
    exact refErases_yes a _ w (by omega) rfl
theorem rof_c {f : ByteArray} {t z : Int} (h : rofOk f t z = false) : baseOk t = false ∨ (baseOk t = true ∧ mayB f = false) ∨ (baseOk t = true ∧ mayB f = true ∧ z < 1) ∨ (baseOk t = true ∧ mayB f = true ∧ ¬ z < 1 ∧ 288 < z) := by
  unfold rofOk at h
  have h' := of_decide_eq_false h
  unfold mayB baseOk
  by_cases h2 : 0 ≤ t ∧ t ≤ 1
  · rw [decide_eq_true h2]
    by_cases h1 : f.size = 768
    · rw [decide_eq_true h1]
      by_cases h3 : z < 1
      · exact .inr (.inr (.inl ⟨rfl, rfl, h3⟩))
      · exact .inr (.inr (.inr ⟨rfl, rfl, h3, by omega⟩))
    · rw [decide_eq_false h1]
      exact .inr (.inl ⟨rfl, rfl⟩)
  · rw [decide_eq_false h2]
    exact .inl rfl
end Go.Proofs.Ytmbgdidelbkdgaa.StaWalk
