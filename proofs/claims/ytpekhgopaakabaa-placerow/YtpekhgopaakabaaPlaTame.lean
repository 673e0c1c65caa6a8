/- The contract of the laws' question whether a flash is tame: it answers just that; nothing is turned. -/
import Derived.Test.YtpekhgopaakabaaPlaMath
import Derived.Test.YtpekhgopaakabaaNorWalk
import Derived.BigQuiet
namespace Go.Proofs.Ytpekhgopaakabaa.PlaTame
open Go.Proofs.Ytpekhgopaakabaa Go.RowKit Go.Proofs.Ytpekhgopaakabaa.Bytes Go.Proofs.Ytpekhgopaakabaa.NorWalk Go.Proofs.Ytpekhgopaakabaa.Pla

theorem or_u8 (a b c : UInt8) (h : a ||| b = c) : bits .or .u8 (a.toNat : Int) (b.toNat : Int) = (c.toNat : Int) := by
  rw [u8_or_nat _ _ a.toNat_lt b.toNat_lt, ← UInt8.toNat_or, h]
theorem tame_no {f : ByteArray} (h : ¬ f.size = 768) : tameB f = false := by
  cases e : tameB f with
  | false => rfl
  | true => exact absurd (tame_parts.1 e).1 h
theorem tame_not {f : ByteArray} {i k : Nat} (hi : i < 8) (hk : k < 12) (h : ¬ bt f (24 * i + k) ||| bt f (24 * i + k + 12) = 255) : tameB f = false := by
  cases e : tameB f with
  | false => rfl
  | true => exact absurd ((tame_parts.1 e).2 i hi k hk) h
theorem ne_ff {c : UInt8} (h : ¬ c = 255) : ((c.toNat : Int) != 255) = true := by
  rw [bne_iff_ne]
  intro e
  apply h
  apply UInt8.toNat_inj.1
  show c.toNat = 255
  omega
theorem ret_b {a b : Bool} (h : a = b) : Ending.returned (.bool a) = .returned (.bool b) := by rw [h]
set_option maxRecDepth 100000 in
set_option maxHeartbeats 2000000 in
theorem tame_any (f : ByteArray) (w : World) : Calls Try.prog 18 #[.string f] w fun e w' => e = .returned (.bool (tameB f)) ∧ Below w.heap.size w w' := by
  by_cases hf : f.size = 768
  · have HT : Hid ((∀ i, i < 8 → ∀ k, k < 12 → bt f (24 * i + k) ||| bt f (24 * i + k + 12) = 255) → tameB f = true) := fun h => tame_parts.2 ⟨hf, h⟩
    have HN : Hid (∀ i k, i < 8 → k < 12 → ¬ bt f (24 * i + k) ||| bt f (24 * i + k + 12) = 255 → tameB f = false) := fun i k h1 h2 h => tame_not h1 h2 h
    have hz : (f.size : Int) = 768 := by omega
    have HZ := hide hf
    clear hf
    generalize tameB f = B at *
    go_enter Try.func18, Try.ntmps18
    go_wp2
    go_loopw [3] (fun y wr => ∃ i : Nat, i ≤ 8 ∧ y = .int .i64 i ∧ Hid (∀ a, a < i → ∀ k, k < 12 → bt f (24 * a + k) ||| bt f (24 * a + k + 12) = 255) ∧ Below w.heap.size w wr) (fun y _ => 8 - (intOf y).toNat)
    case atStart => exact ⟨0, Nat.zero_le _, rfl, fun a h => by omega, Below.refl _ _⟩
    case round =>
      obtain ⟨i, hi, rfl, HI, hbel⟩ := hrel
      by_cases hlt : i < 8
      · have hg : decide ((i : Int) < 8) = true := decide_eq_true (by omega)
        go_wp2
        obtain ⟨q, hq⟩ : ∃ q : Nat, q = 24 * i := ⟨_, rfl⟩
        have hq1 : 24 * (i : Int) = (q : Int) := by omega
        rw [hq1]
        have HQ := hide hq
        clear hq hq1
        go_loopw [4] (fun y wr => ∃ k : Nat, k ≤ 12 ∧ y = .int .i64 ((q + k : Nat) : Int) ∧ Hid (∀ b, b < k → bt f (24 * i + b) ||| bt f (24 * i + b + 12) = 255) ∧ Below w.heap.size w wr) (fun y _ => (q + 12) - (intOf y).toNat)
        case atStart => exact ⟨0, Nat.zero_le _, rfl, fun b h => by omega, hbel⟩
        case round =>
          obtain ⟨k, hk, rfl, HK, hbel2⟩ := hrel
          obtain ⟨p, hp⟩ : ∃ p : Nat, p = q + k := ⟨_, rfl⟩
          rw [← hp]
          have HP := hide hp
          by_cases hkt : k < 12
          · have hq := HQ.out
            have h0 : p < f.size := by rw [HZ.out]; omega
            obtain ⟨r, hr⟩ : ∃ r : Nat, r = p + 12 := ⟨_, rfl⟩
            have hw : IntKind.i64.wrap ((p : Int) + 12) = (r : Int) := by rw [IntKind.wrap_i64]; omega
            have h1 : r < f.size := by rw [HZ.out]; omega
            have b0 := bt_get f p h0
            have b1 := bt_get f r h1
            have hg2 : decide ((p : Int) < 24 * (i : Int) + 12) = true := decide_eq_true (by omega)
            have hp9 : p ≤ 180 := by omega
            have e1 : 24 * i + k = p := by omega
            have e2 : 24 * i + k + 12 = r := by omega
            clear hq hp hz hr
            by_cases hc : bt f p ||| bt f r = 255
            · have HK2 : Hid (∀ b, b < k + 1 → bt f (24 * i + b) ||| bt f (24 * i + b + 12) = 255) := fun b hb => by
                by_cases e : b = k
                · subst e; rw [e2, e1]; exact hc
                · exact HK.out b (by omega)
              have ho : bits .or .u8 (f[p].toNat : Int) (f[r].toNat : Int) = 255 := or_u8 _ _ 255 (by rw [b0, b1]; exact hc)
              clear b0 b1 hc HK e1 e2
              go_wp2
              go_quiet (fail)
              go_wp2
              exact ⟨⟨k + 1, by omega, by rw [← Nat.add_assoc, ← HP.out]; go_num, HK2, bel_drewN hbel2 _⟩, by have := HP.out; simp [intOf]; omega⟩
            · have HB : Hid (B = false) := HN.out i k hlt hkt (by rw [e2, e1]; exact hc)
              have ho : bits .or .u8 (f[p].toNat : Int) (f[r].toNat : Int) = ((bt f p ||| bt f r).toNat : Int) := or_u8 _ _ _ (by rw [b0, b1])
              have hne := ne_ff hc
              clear b0 b1 hc HK e1 e2
              generalize (bt f p ||| bt f r).toNat = X at *
              go_wp2
              go_quiet (fail)
              go_wp2
              go_ret
              exact ⟨ret_b HB.out.symm, bel_drewN hbel2 _⟩
          · have HI2 : Hid (∀ a, a < i + 1 → ∀ k, k < 12 → bt f (24 * a + k) ||| bt f (24 * a + k + 12) = 255) := fun a ha b hb => by
              by_cases e : a = i
              · subst e; exact HK.out b (by omega)
              · exact HI.out a (by omega) b hb
            have hg2 : decide ((p : Int) < 24 * (i : Int) + 12) = false := decide_eq_false (by have := HQ.out; omega)
            have hp9 : p ≤ 200 := by have := HQ.out; omega
            clear HK HI hp
            go_wp2
            exact ⟨⟨i + 1, by omega, by go_num, HI2, hbel2⟩, by simp [intOf]; omega⟩
      · obtain rfl : i = 8 := by omega
        have HB : Hid (B = true) := HT.out fun a ha => HI.out a ha
        go_wp2
        go_ret
        exact ⟨ret_b HB.out.symm, hbel⟩
  · rw [tame_no hf]
    have hz : ¬ (f.size : Int) = 768 := by omega
    go_enter Try.func18, Try.ntmps18
    go_wp2
    go_loopw [3] (fun y wr => y = .int .i64 0 ∧ wr = w) (fun _ _ => 0)
    case atStart => exact ⟨rfl, rfl⟩
    case round =>
      obtain ⟨rfl, rfl⟩ := hrel
      go_wp2
      go_ret
      exact ⟨rfl, Below.refl _ _⟩
end Go.Proofs.Ytpekhgopaakabaa.PlaTame
