/- A flash whose other slot is turned: by one word that is programmed or cut, or by any text that is laid there. No program is named here. -/
import Derived.Test.YthcknngmpcepfaaBagCho
namespace Go.Proofs.Ythcknngmpcepfaa.Cho
open Go.Proofs.Ythcknngmpcepfaa Go.Proofs.Ythcknngmpcepfaa.Bytes Go.Proofs.Ythcknngmpcepfaa.Ent Go.Proofs.Ythcknngmpcepfaa.Ops Go.Proofs.Ythcknngmpcepfaa.Jou Go.Proofs.Ythcknngmpcepfaa.Act Go.Proofs.Ythcknngmpcepfaa.Held

theorem turned_torn {f : ByteArray} {p : FPl} {c : Nat} {k a : Int} {v : ByteArray} (hs : p.pt = 0 ∨ p.pt = 1) (hc : c < 72) (ha : a = 192 + 288 * (1 - p.pt) + 4 * (c : Int)) (h : Nor.tornOk f a v k = true) : Turned f (Nor.tornS f a v k) p := by
  refine ⟨Nor.size_of_tornOk h, Nor.size_tornS h, fun i hi => ?_⟩
  rw [Nor.list_tornS h, Nor.get_tornL]
  cases f.data.toList[i]? with
  | none => rfl
  | some b =>
    simp only [Option.map_some]
    rw [if_neg]
    rcases hs with e | e <;> rw [e] at ha hi <;> omega
theorem turned_put {f s : ByteArray} {p : FPl} {a : Nat} (hf : f.size = 768) (hs : p.pt = 0 ∨ p.pt = 1) (ha : a = 192 + 288 * (1 - p.pt).toNat) (hz : s.size ≤ 288) : Turned f (f.extract 0 a ++ s ++ f.extract (a + s.size) f.size) p := by
  have ha2 : a ≤ 480 := by rcases hs with e | e <;> rw [e] at ha <;> omega
  have hl : f.data.toList.length = 768 := by rw [Nor.size_list]; exact hf
  have hm : s.data.toList.length = s.size := Nor.size_list s
  refine ⟨hf, ?_, fun i hi => ?_⟩
  · rw [ByteArray.size_append, ByteArray.size_append, ByteArray.size_extract, ByteArray.size_extract]
    omega
  · rw [← ha] at hi
    rw [list_append, list_append, list_head, list_tail]
    rcases hi with hi | hi
    · rw [List.append_assoc, List.getElem?_append_left (by rw [List.length_take]; omega), List.getElem?_take_of_lt hi]
    · rw [List.getElem?_append_right (by rw [List.length_append, List.length_take]; omega), List.length_append, List.length_take, hl, hm, List.getElem?_drop]
      congr 1
      omega
end Go.Proofs.Ythcknngmpcepfaa.Cho
