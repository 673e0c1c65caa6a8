/- A block taken by a device without steps, of a flash that may be: what it answers, way by way; texts as their first pieces. No program is named here. -/
import Derived.Test.YthpoefaipmcceaaDnlMath
namespace Go.Proofs.Ythpoefaipmcceaa.DnlMore
open Go.Proofs.Ythpoefaipmcceaa Go.Proofs.Ythpoefaipmcceaa.Bytes Go.Proofs.Ythpoefaipmcceaa.Nor Go.Proofs.Ythpoefaipmcceaa.Ops Go.Proofs.Ythpoefaipmcceaa.Jou Go.Proofs.Ythpoefaipmcceaa.Act Go.Proofs.Ythpoefaipmcceaa.Held Go.Proofs.Ythpoefaipmcceaa.Cho Go.Proofs.Ythpoefaipmcceaa.Sta Go.Proofs.Ythpoefaipmcceaa.Ans Go.Proofs.Ythpoefaipmcceaa.Dev Go.Proofs.Ythpoefaipmcceaa.Dnl

theorem oth_blank : othI blankS = 0 := by unfold othI; rw [blank_act.1]
theorem may_blank : mayF blankS = true := mayF_t size_blankS
theorem dev_new : devB newD = true := rfl
/-- A flash of whose journal every byte is blank has no active image. -/
theorem oth_bare {f : ByteArray} (hf : f.size = 768) (h : ∀ i, i < 192 → f.data.toList[i]? = some 255) : othI f = 0 := by
  have hs : scanL f = [] := by rw [scan_ok hf]; exact found_none f 8 (fun j hj => slot_full fun i hi => h _ (by omega))
  unfold othI
  rw [(act_none (mayF_t hf) (by unfold bestO; rw [hs]; rfl)).1]
theorem start_is {f t : ByteArray} (hf : mayF f = true) (h0 : ¬ t.size = 0) (h1 : t.size ≤ 32) : okB f newD 0 t = true ∧ takeD f newD 0 t = ⟨1, 0, 1, t.size, othI f, erL (othI f) ++ wordsL (baseI (othI f)) t⟩ := by
  have hok : okB f newD 0 t = true := okB_parts.2 ⟨hf, dev_new, .inl rfl, ⟨by omega, by omega⟩, h1⟩
  refine ⟨hok, ?_⟩
  rw [take_first hok rfl]
  unfold firstD
  rw [if_neg h0, if_pos rfl]
  rfl
theorem start_none {f t : ByteArray} (hf : mayF f = true) (h0 : t.size = 0) : okB f newD 0 t = true ∧ takeD f newD 0 t = failedD 5 := by
  have hok : okB f newD 0 t = true := okB_parts.2 ⟨hf, dev_new, .inl rfl, ⟨by omega, by omega⟩, by omega⟩
  refine ⟨hok, ?_⟩
  rw [take_first hok rfl]
  unfold firstD
  rw [if_pos h0]
/-- A device that has taken k blocks, g bytes, into the first slot. -/
abbrev downD (k g : Int) : FDev := ⟨3, 0, k, g, 0, []⟩
theorem dev_down {k g : Int} (h0 : 0 ≤ k) (h1 : k ≤ 16) (h2 : 0 ≤ g) (h3 : g ≤ 288) : devB (downD k g) = true := by
  unfold devB
  have a1 : upB k 16 = true := upB_iff.2 ⟨h0, h1⟩
  have a2 : upB g 288 = true := upB_iff.2 ⟨h2, h3⟩
  simp only [a1, a2]
  rfl
theorem ok_down {f t : ByteArray} {k g b : Int} (hf : mayF f = true) (h0 : 0 ≤ k) (h1 : k ≤ 16) (h2 : 0 ≤ g) (h3 : g ≤ 288) (hb : 0 ≤ b) (hb' : b ≤ 65535) (ht : t.size ≤ 32) : okB f (downD k g) b t = true := okB_parts.2 ⟨hf, dev_down h0 h1 h2 h3, .inr rfl, ⟨hb, hb'⟩, ht⟩
theorem more_is {f t : ByteArray} {k g : Int} (hok : okB f (downD k g) k t = true) (h0 : ¬ t.size = 0) (hg : g % 32 = 0) (hs : g + t.size ≤ 288) (hk : k < 16) : takeD f (downD k g) k t = ⟨1, 0, k + 1, g + t.size, 0, wordsL (192 + g) t⟩ := by
  rw [take_further hok rfl]
  unfold furtherD
  rw [if_neg (by show ¬ k = k - 1; omega), if_neg (by simp), if_neg h0, if_pos (room_iff.2 ⟨hg, hs, hk⟩)]
  rfl
theorem again_is {f t : ByteArray} {k g b : Int} (hok : okB f (downD k g) b t = true) (hb : b = k - 1) : takeD f (downD k g) b t = ⟨1, 0, k, g, 0, []⟩ := by
  rw [take_further hok rfl]
  unfold furtherD
  rw [if_pos hb]
  rfl
theorem none_is {f t : ByteArray} {k g : Int} (hok : okB f (downD k g) k t = true) (h0 : t.size = 0) : takeD f (downD k g) k t = ⟨4, 0, k, g, 0, []⟩ := by
  rw [take_further hok rfl]
  unfold furtherD
  rw [if_neg (by show ¬ k = k - 1; omega), if_neg (by simp), if_pos h0]
  rfl
theorem other_is {f t : ByteArray} {k g b : Int} (hok : okB f (downD k g) b t = true) (h1 : ¬ b = k - 1) (h2 : ¬ b = k) : takeD f (downD k g) b t = failedD 4 := by
  rw [take_further hok rfl]
  unfold furtherD
  rw [if_neg h1, if_pos h2]
theorem full_is {f t : ByteArray} {k g : Int} (hok : okB f (downD k g) k t = true) (h0 : ¬ t.size = 0) (hr : ¬ (g % 32 = 0 ∧ g + t.size ≤ 288 ∧ k < 16)) : takeD f (downD k g) k t = failedD 4 := by
  rw [take_further hok rfl]
  unfold furtherD
  rw [if_neg (by show ¬ k = k - 1; omega), if_neg (by simp), if_neg h0, if_neg (fun h => hr (room_iff.1 h))]
theorem length_start (s : Int) (t : ByteArray) (h0 : 0 ≤ s) (h1 : s ≤ 1) (ht : t.size ≤ 32) : (erL s ++ wordsL (baseI s) t).length = 3 + (t.size + 3) / 4 := by
  rw [List.length_append, erL_ok (base_of h0 h1).1, length_erTo, wordsL_ok (start_ok h0 h1 ht), length_wordsTo]
  rfl
end Go.Proofs.Ythpoefaipmcceaa.DnlMore
