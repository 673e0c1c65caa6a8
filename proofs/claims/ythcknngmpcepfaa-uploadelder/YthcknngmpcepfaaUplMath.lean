/- Reading back: what may be asked, what becomes of the device, which bytes it tells. No program is named here. -/
import Derived.Test.YthcknngmpcepfaaBagDnl
import Derived.Test.YthcknngmpcepfaaBagCho
import Derived.Test.YthcknngmpcepfaaBagTim
namespace Go.Proofs.Ythcknngmpcepfaa.Upl
open Go.Proofs.Ythcknngmpcepfaa Go.Proofs.Ythcknngmpcepfaa.Bytes Go.Proofs.Ythcknngmpcepfaa.Nor Go.Proofs.Ythcknngmpcepfaa.Ent Go.Proofs.Ythcknngmpcepfaa.Ops Go.Proofs.Ythcknngmpcepfaa.Jou Go.Proofs.Ythcknngmpcepfaa.Act Go.Proofs.Ythcknngmpcepfaa.Cho Go.Proofs.Ythcknngmpcepfaa.Ans Go.Proofs.Ythcknngmpcepfaa.Dev Go.Proofs.Ythcknngmpcepfaa.Dnl Go.Proofs.Ythcknngmpcepfaa.Tic

/-- May this be asked? -/
def readsB (s : Int) : Bool := decide (s = 0 ∨ s = 6)
def askB (b n : Int) : Bool := upB b 65535 && upB n 32
def okU (f : ByteArray) (d : FDev) (b n : Int) : Bool := bothB f d && readsB d.sa && askB b n
def errV (ok : Bool) : Int := if ok then 0 else 2000
/-- The active image: none, no byte. -/
def actS (f : ByteArray) : ByteArray := imgS f (actV f).pq (actV f).pt (actV f).pz (actV f).pm
/-- The block that it waits for. -/
def nextU (d : FDev) : Int := if d.sa = 0 then 0 else d.nx
def begunD (d : FDev) : FDev := ⟨d.sa, d.su, nextU d, d.gt, d.sl, d.ops⟩
def fromN (t : ByteArray) (b : Nat) : Nat := min (b * 32) t.size
def endN (t : ByteArray) (b n : Nat) : Nat := min (fromN t b + n) t.size
def pieceN (t : ByteArray) (b n : Nat) : ByteArray := t.extract (fromN t b) (endN t b n)
def behindD (d : FDev) (k : Nat) : FDev := if k < 32 then newD else ⟨6, d.su, min (d.nx + 1) 16, d.gt, d.sl, d.ops⟩
/-- The bytes that it tells, where nothing is wrong. -/
def dataS (f : ByteArray) (d : FDev) (n : Int) : ByteArray := pieceN (actS f) (nextU d).toNat n.toNat
def toldD (f : ByteArray) (d : FDev) (b n : Int) : FDev := if errA f = 0 then (if b = nextU d then behindD (begunD d) (dataS f d n).size else failedD 4) else failedD 2
def toldS (f : ByteArray) (d : FDev) (b n : Int) : ByteArray := if errA f = 0 then (if b = nextU d then dataS f d n else ⟨#[]⟩) else ⟨#[]⟩
/-- What Give answers, whatever it is asked. -/
def giveD (f : ByteArray) (d : FDev) (b n : Int) : FDev := if okU f d b n then toldD f d b n else newD
def giveS (f : ByteArray) (d : FDev) (b n : Int) : ByteArray := if okU f d b n then toldS f d b n else ⟨#[]⟩
theorem errV_t {ok : Bool} (h : ok = true) : errV ok = 0 := by rw [h]; rfl
theorem errV_f {ok : Bool} (h : ok = false) : errV ok = 2000 := by rw [h]; rfl
theorem give_no {f : ByteArray} {d : FDev} {b n : Int} (h : okU f d b n = false) : giveD f d b n = newD ∧ giveS f d b n = ⟨#[]⟩ := by unfold giveD giveS; rw [h]; exact ⟨rfl, rfl⟩
theorem give_ok {f : ByteArray} {d : FDev} {b n : Int} (h : okU f d b n = true) : giveD f d b n = toldD f d b n ∧ giveS f d b n = toldS f d b n := by unfold giveD giveS; rw [if_pos h, if_pos h]; exact ⟨rfl, rfl⟩
theorem okU_parts {f : ByteArray} {d : FDev} {b n : Int} : okU f d b n = true ↔ mayF f = true ∧ devB d = true ∧ (d.sa = 0 ∨ d.sa = 6) ∧ (0 ≤ b ∧ b ≤ 65535) ∧ 0 ≤ n ∧ n ≤ 32 := by
  unfold okU readsB askB
  simp only [Bool.and_eq_true, decide_eq_true_iff, upB_iff, both_parts]
  constructor
  · rintro ⟨⟨⟨h1, h2⟩, h3⟩, h4, h5⟩; exact ⟨h1, h2, h3, h4, h5⟩
  · rintro ⟨h1, h2, h3, h4, h5⟩; exact ⟨⟨⟨h1, h2⟩, h3⟩, h4, h5⟩
theorem okU_no {f : ByteArray} {d : FDev} {b n : Int} (h : okU f d b n = false) : mayF f = false ∨ (mayF f = true ∧ devB d = false) ∨ (mayF f = true ∧ devB d = true ∧ readsB d.sa = false) ∨ (mayF f = true ∧ devB d = true ∧ readsB d.sa = true ∧ askB b n = false) := by
  unfold okU bothB at h
  cases h1 : mayF f with
  | false => exact .inl rfl
  | true =>
    cases h2 : devB d with
    | false => exact .inr (.inl ⟨rfl, rfl⟩)
    | true =>
      cases h3 : readsB d.sa with
      | false => exact .inr (.inr (.inl ⟨rfl, rfl, rfl⟩))
      | true =>
        rw [h1, h2, h3] at h
        exact .inr (.inr (.inr ⟨rfl, rfl, rfl, h⟩))
theorem okU_all {f : ByteArray} {d : FDev} {b n : Int} (h : okU f d b n = true) : mayF f = true ∧ devB d = true ∧ readsB d.sa = true ∧ askB b n = true := by
  unfold okU bothB at h
  rw [Bool.and_eq_true, Bool.and_eq_true, Bool.and_eq_true] at h
  exact ⟨h.1.1.1, h.1.1.2, h.1.2, h.2⟩
theorem next_in {d : FDev} (h : devB d = true) : 0 ≤ nextU d ∧ nextU d ≤ 16 := by
  have := (dev_parts h).1
  unfold nextU
  split <;> omega
theorem begun_may {d : FDev} (h : devB d = true) : devB (begunD d) = true := by
  have h0 := next_in h
  unfold devB at h ⊢
  unfold begunD
  dsimp only
  rw [show upB (nextU d) 16 = true from upB_iff.2 h0]
  simp only [Bool.and_eq_true] at h ⊢
  exact ⟨⟨⟨⟨⟨h.1.1.1.1.1, h.1.1.1.1.2⟩, trivial⟩, h.1.1.2⟩, h.1.2⟩, h.2⟩
theorem told_none {f : ByteArray} (d : FDev) (b n : Int) (h : ¬ errA f = 0) : toldD f d b n = failedD 2 ∧ toldS f d b n = ⟨#[]⟩ := by unfold toldD toldS; rw [if_neg h, if_neg h]; exact ⟨rfl, rfl⟩
theorem told_other {f : ByteArray} {d : FDev} {b : Int} (n : Int) (h : errA f = 0) (g : ¬ b = nextU d) : toldD f d b n = failedD 4 ∧ toldS f d b n = ⟨#[]⟩ := by unfold toldD toldS; rw [if_pos h, if_pos h, if_neg g, if_neg g]; exact ⟨rfl, rfl⟩
theorem told_is {f : ByteArray} {d : FDev} {b : Int} (n : Int) (h : errA f = 0) (g : b = nextU d) : toldD f d b n = behindD (begunD d) (dataS f d n).size ∧ toldS f d b n = dataS f d n := by unfold toldD toldS; rw [if_pos h, if_pos h, if_pos g, if_pos g]; exact ⟨rfl, rfl⟩
theorem act_yes {f : ByteArray} (h : errA f = 0) : ∃ p, actO f = some p ∧ actV f = p := by
  cases ha : actO f with
  | none =>
    unfold errA at h
    rw [ha] at h
    cases hm : mayF f <;> rw [hm] at h <;> simp at h
  | some p => exact ⟨p, rfl, (act_may ha).2.1⟩
theorem act_img {f : ByteArray} (h : errA f = 0) : imgOk f (actV f).pq (actV f).pt (actV f).pz (actV f).pm = true := by
  obtain ⟨p, ha, hp⟩ := act_yes h
  obtain ⟨h1, h2, _⟩ := act_rec ha
  rw [hp]
  exact imgOk_parts.2 ⟨h1, h2⟩
theorem size_actS (f : ByteArray) : (actS f).size ≤ 288 := size_imgS _ _ _ _ _
theorem from_le (t : ByteArray) (b : Nat) : fromN t b ≤ t.size := Nat.min_le_right _ _
theorem end_le (t : ByteArray) (b n : Nat) : endN t b n ≤ t.size := Nat.min_le_right _ _
theorem from_end (t : ByteArray) (b n : Nat) : fromN t b ≤ endN t b n := by
  have := from_le t b
  unfold endN
  omega
theorem size_pieceN (t : ByteArray) (b n : Nat) : (pieceN t b n).size = min n (t.size - b * 32) := by
  unfold pieceN
  rw [ByteArray.size_extract]
  unfold endN fromN
  omega
theorem size_dataS (f : ByteArray) (d : FDev) (n : Int) : (dataS f d n).size ≤ n.toNat := by unfold dataS; rw [size_pieceN]; omega
theorem behind_few (d : FDev) (k : Nat) (h : d.ops.length ≤ 768) : (behindD d k).ops.length ≤ 768 := by
  unfold behindD
  split
  · exact Nat.zero_le _
  · exact h
theorem told_few (f : ByteArray) (d : FDev) (b n : Int) (h : d.ops.length ≤ 768) : (toldD f d b n).ops.length ≤ 768 := by
  unfold toldD
  split
  · split
    · exact behind_few _ _ h
    · exact Nat.zero_le _
  · exact Nat.zero_le _
theorem give_few (f : ByteArray) (d : FDev) (b n : Int) : (giveD f d b n).ops.length ≤ 768 := by
  cases h : okU f d b n with
  | false => rw [(give_no h).1]; exact Nat.zero_le _
  | true => rw [(give_ok h).1]; exact told_few _ _ _ _ (dev_parts (okU_parts.1 h).2.1).2.2.2
end Go.Proofs.Ythcknngmpcepfaa.Upl
