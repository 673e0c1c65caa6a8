/- The contracts of package journal: each call returns what the plain functions give, whatever its arguments; of what was there nothing has turned. -/
import Derived.Test.YtdilicfilmpfhaaJouRow
import Derived.Test.YtdilicfilmpfhaaEntWalk
namespace Go.Proofs.Ytdilicfilmpfhaa.JouWalk
open Go.Proofs.Ytdilicfilmpfhaa Go.RowKit Go.Proofs.Ytdilicfilmpfhaa.Bytes Go.Proofs.Ytdilicfilmpfhaa.NorWalk Go.Proofs.Ytdilicfilmpfhaa.Ent Go.Proofs.Ytdilicfilmpfhaa.EntRow Go.Proofs.Ytdilicfilmpfhaa.EntWalk Go.Proofs.Ytdilicfilmpfhaa.Jou Go.Proofs.Ytdilicfilmpfhaa.JouRow

theorem ret_str {a b : ByteArray} (h : a = b) : Ending.returned (.string a) = .returned (.string b) := by rw [h]
def ffB (s : ByteArray) : Bool := decide (s.data.toList = List.replicate s.size 255)
theorem ff_get {s : ByteArray} (h : ∀ i (hi : i < s.size), s[i] = 255) : ffB s = true := by
  unfold ffB
  refine decide_eq_true (List.ext_getElem? fun i => ?_)
  by_cases hi : i < s.size
  · rw [Nor.ba_get s i hi, h i hi, List.getElem?_replicate, if_pos hi]
  · rw [List.getElem?_eq_none (by rw [Nor.size_list]; omega), List.getElem?_replicate, if_neg hi]
theorem ff_not {s : ByteArray} {i : Nat} (hi : i < s.size) (h : ¬ s[i] = 255) : ffB s = false := by
  unfold ffB
  refine decide_eq_false (fun e => h ?_)
  have g := Nor.ba_get s i hi
  rw [e, List.getElem?_replicate, if_pos hi] at g
  exact (Option.some.inj g).symm
theorem u8_ne {b : UInt8} (h : ¬ b = 255) : ((b.toNat : Int) != 255) = true := by
  rw [bne_iff_ne]
  intro e
  exact h (UInt8.toNat_inj.1 (by simpa using (show b.toNat = 255 by omega)))
theorem ff_slot {f : ByteArray} {j : Nat} (hf : f.size = 768) (hj : j < 32) : ffB (slotS f j) = blankP f j := by
  unfold ffB blankP
  rw [size_slotS hf hj, decide_eq_decide]
  constructor
  · intro h; exact ba_ext h
  · intro h; rw [h]; rfl

theorem info_pl : (Try.prog.info? 69).map (fun i => (i.zero, i.size, i.bytes)) = some (some (.agg #[.int .i64 0, .int .i64 0, .int .i64 0, .int .i64 0, .int .i64 0]), 5, 40) := by kernel_rfl
theorem build_pl (a q t z m : Int) (w : World) : (Instr.build 69 #[(0, .int .i64 a), (1, .agg #[.int .i64 q, .int .i64 t, .int .i64 z, .int .i64 m])]).run Try.prog w = .ok (.agg #[.int .i64 a, .int .i64 q, .int .i64 t, .int .i64 z, .int .i64 m]) w := run_build w 69 _ _ (by kernel_rfl)
theorem may_f (f : ByteArray) : mayB f = mayF f := rfl
theorem new2 (w : World) (o p : Obj) : ((w.alloc o).alloc p).heap[w.heap.size + 1]? = some p := by
  have h := heap_alloc_new (w.alloc o) p
  rw [show (w.alloc o).heap.size = w.heap.size + 1 from by simp] at h
  exact h
theorem freeOk_f {f : ByteArray} {s : Int} (h : freeOk f s = false) : mayB f = false ∨ mayB f = true ∧ s < 0 ∨ mayB f = true ∧ 0 ≤ s ∧ 2 ≤ s := by
  unfold freeOk at h
  have h' := of_decide_eq_false h
  unfold mayB
  by_cases h1 : f.size = 768
  · rw [decide_eq_true h1]
    by_cases h2 : s < 0
    · exact .inr (.inl ⟨rfl, h2⟩)
    · exact .inr (.inr ⟨rfl, by omega, by omega⟩)
  · rw [decide_eq_false h1]
    exact .inl rfl
theorem ret3 {a a' : Int} {b b' : Bool} {c c' : Int} (h1 : a = a') (h2 : b = b') (h3 : c = c') : Ending.returned (.tuple #[.int .i64 a, .bool b, .int .i64 c]) = .returned (.tuple #[.int .i64 a', .bool b', .int .i64 c']) := by rw [h1, h2, h3]
end Go.Proofs.Ytdilicfilmpfhaa.JouWalk
