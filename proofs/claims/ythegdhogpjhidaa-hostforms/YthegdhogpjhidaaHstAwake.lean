/- The contract of 'awake' of the laws over package host, which asks what is known of a few hosts: it answers true. -/
import Derived.Test.YthegdhogpjhidaaHstCarry
import Derived.Test.YthegdhogpjhidaaHstSet
namespace Go.Proofs.Ythegdhogpjhidaa.HstAwake
open Go.Proofs.Ythegdhogpjhidaa Go.RowKit Go.Proofs.Ythegdhogpjhidaa.Bytes Go.Proofs.Ythegdhogpjhidaa.NorWalk Go.Proofs.Ythegdhogpjhidaa.Suf Go.Proofs.Ythegdhogpjhidaa.Idt Go.Proofs.Ythegdhogpjhidaa.Sup Go.Proofs.Ythegdhogpjhidaa.Hst Go.Proofs.Ythegdhogpjhidaa.HstWalk Go.Proofs.Ythegdhogpjhidaa.HstAsk Go.Proofs.Ythegdhogpjhidaa.HstHost Go.Proofs.Ythegdhogpjhidaa.HstCarry Go.Proofs.Ythegdhogpjhidaa.HstSet
open Go.Proofs.Ythegdhogpjhidaa.SufRef (refBuild_any)
open Go.Proofs.Ythegdhogpjhidaa.IdtWalk (num_any)
attribute [local go_sem ↓] Go.wp_at_zero Go.wp_at_succ
theorem build_v (v : Int) (w : World) : (Instr.build 25 #[(0, .int .i64 v)]).run Try.prog w = .ok (.agg #[.int .i64 v, .int .i64 0, .int .i64 0]) w := run_build w 25 _ _ (by kernel_rfl)
/-- 'image'. -/
def imgS : ByteArray := ⟨#[105, 109, 97, 103, 101]⟩
theorem img_ok : bldOk imgS 1155 57105 512 = true := by decide
theorem x_no : toB ⟨#[120]⟩ 1155 57105 512 = false := to_no1 (by unfold parB; rw [show frmB ⟨#[120]⟩ = false from by decide]; rfl)
/-- A file's host, begun; a text that is none. -/
theorem start_file {s : ByteArray} (h : bldOk s 1155 57105 512 = true) (w : World) : Calls Try.prog 8 #[.string (fileS s 1155 57105 512), .agg #[.int .i64 1155, .int .i64 57105, .int .i64 512]] w (Begun w 1 s 0 0) := by
  have g := start_any (fileS s 1155 57105 512) 1155 57105 512 w (file_small h)
  obtain ⟨e1, e2, e3⟩ := file_st h
  rw [e1, e2, e3, ids_ok] at g
  exact g
theorem start_x (w : World) : Calls Try.prog 8 #[.string ⟨#[120]⟩, .agg #[.int .i64 1155, .int .i64 57105, .int .i64 512]] w (Begun w 7 ⟨#[]⟩ 3 0) := by
  have g := start_any ⟨#[120]⟩ 1155 57105 512 w (by decide)
  obtain ⟨e1, e2, e3⟩ := st_not ids_ok x_no
  rw [e1, e2, e3, ids_ok] at g
  exact g
theorem start_no {f : ByteArray} {v p r : Int} (hs : f.size < 9223372036854775808) (h : idsB v p r = false) (w : World) : Calls Try.prog 8 #[.string f, .agg #[.int .i64 v, .int .i64 p, .int .i64 r]] w (Begun w 0 ⟨#[]⟩ 0 2200) := by
  have g := start_any f v p r w hs
  obtain ⟨e1, e2, e3⟩ := st_no (f := f) h
  rw [e1, e2, e3, h] at g
  exact g
/-- What a host asks, told. -/
theorem asks_is {ph : Int} {im : ByteArray} {bl : Int} {ag : Bool} {tr : Int} {rd : ByteArray} {rp : Int} {U D : ByteArray} (h : askB ph im bl tr rd rp = true) (hU : supS (reqC ph bl ag) (reqV ph bl) (reqN ph im bl ag) = U) (hD : reqD ph im bl = D) (w : World) : Calls Try.prog 10 #[.agg #[.int .i64 ph, .string im, .int .i64 bl, .bool ag, .int .i64 tr, .string rd, .int .i64 rp]] w (Asked w U D 0) := by
  have g := asks_any ph im bl ag tr rd rp w
  obtain ⟨e1, e2⟩ := ask_yes ag h
  rw [e1, e2, h, hU, hD] at g
  exact g
theorem asks_not {ph : Int} {im : ByteArray} {bl : Int} {ag : Bool} {tr : Int} {rd : ByteArray} {rp : Int} (h : askB ph im bl tr rd rp = false) (w : World) : Calls Try.prog 10 #[.agg #[.int .i64 ph, .string im, .int .i64 bl, .bool ag, .int .i64 tr, .string rd, .int .i64 rp]] w (Asked w ⟨#[]⟩ ⟨#[]⟩ 2200) := asks_no ph im bl ag tr rd rp w h
theorem a1 (w : World) : Calls Try.prog 10 #[.agg #[.int .i64 1, .string imgS, .int .i64 0, .bool false, .int .i64 0, .string ⟨#[]⟩, .int .i64 0]] w (Asked w ⟨#[161, 3, 0, 0, 0, 0, 6, 0]⟩ ⟨#[]⟩ 0) := asks_is (by decide) (by decide +kernel) (by decide +kernel) w
theorem a2 (w : World) : Calls Try.prog 10 #[.agg #[.int .i64 2, .string (iotaS 40), .int .i64 1, .bool false, .int .i64 0, .string ⟨#[]⟩, .int .i64 0]] w (Asked w ⟨#[33, 1, 1, 0, 0, 0, 8, 0]⟩ ⟨#[32, 33, 34, 35, 36, 37, 38, 39]⟩ 0) := asks_is (by decide +kernel) (by decide +kernel) (by decide +kernel) w
theorem a3 (w : World) : Calls Try.prog 10 #[.agg #[.int .i64 7, .string ⟨#[]⟩, .int .i64 0, .bool false, .int .i64 0, .string ⟨#[]⟩, .int .i64 3]] w (Asked w ⟨#[]⟩ ⟨#[]⟩ 2200) := asks_not (by decide) w
theorem m1 (w : World) : Calls Try.prog 13 #[.agg #[.int .i64 1, .string imgS, .int .i64 0, .bool false, .int .i64 0, .string ⟨#[]⟩, .int .i64 0]] w fun e w' => e = .returned (.bool true) ∧ Below w.heap.size w w' := by
  have g := hmay_any 1 imgS 0 false 0 ⟨#[]⟩ 0 w
  rw [show hostB 1 imgS 0 0 ⟨#[]⟩ 0 = true from by decide] at g
  exact g
set_option maxRecDepth 100000 in
set_option maxHeartbeats 4000000 in
theorem awake_any (w : World) : Calls Try.prog 15 #[] w fun e w' => e = .returned (.bool true) ∧ Below w.heap.size w w' := by
  have b1 := build_h7
  have b2 := build_h1
  have b3 := build_v
  have hB := Below.refl w.heap.size w
  have HI := hide (fun w => ids22_any w)
  have HF := hide (fun w => refBuild_any imgS 1155 57105 512 w)
  have K1 := hide (fun w => start_file img_ok w)
  have K2 := hide (fun w => start_x w)
  have K3 := hide (fun w => carrying22_any 40 w (by decide) (by decide))
  have K4 := hide (fun w => start_no (f := fileS imgS 1155 57105 512) (v := -1) (p := 0) (r := 0) (file_small img_ok) (by decide) w)
  have A1 := hide a1
  have A2 := hide a2
  have A3 := hide a3
  have M1 := hide m1
  rw [img_ok] at HF
  unfold Begun at K1 K2 K4
  unfold Asked at A1 A2 A3
  have hI : imgS = ⟨#[105, 109, 97, 103, 101]⟩ := rfl
  generalize fileS imgS 1155 57105 512 = F at *
  generalize iotaS 40 = T at *
  rw [hI] at HF K1 A1 M1
  clear hI
  go_enter Try.func15, Try.ntmps15
  go_upto_region 2 with (first | (go_at_call 18; refine (HI.out _).mono ?_; rintro e w1 ⟨rfl, hb⟩; replace hB := thenB hB hb; clear hb) | (go_at_call 17; refine (HF.out _).mono ?_; rintro e w2 ⟨rfl, hb⟩; replace hB := thenB hB hb; clear hb))
  go_upto_region 3 with (first | (go_at_call 18; refine (HI.out _).mono ?_; rintro e w3 ⟨rfl, hb⟩; replace hB := thenB hB hb; clear hb) | (go_at_call 8; refine (K1.out _).mono ?_; rintro e w4 ⟨rfl, hb⟩; replace hB := thenB hB hb; clear hb))
  have hX := sevRM w4 (.int .i64 1) (.string ⟨#[105, 109, 97, 103, 101]⟩) (.int .i64 0) (.bool false) (.int .i64 0) (.string ⟨#[]⟩) (.int .i64 0) 23
  have hn := hal w4 (.cells #[.int .i64 1, .string ⟨#[105, 109, 97, 103, 101]⟩, .int .i64 0, .bool false, .int .i64 0, .string ⟨#[]⟩, .int .i64 0] 23)
  replace hB := thenB hB hn
  clear hn K1 HF
  generalize w4.alloc _ = W1 at *
  generalize w4.heap.size = G1 at *
  go_upto_region 4 with (first | (go_at_call 18; refine (HI.out _).mono ?_; rintro e w5 ⟨rfl, hb⟩; replace hB := thenB hB hb; replace hX := sevRB hX hb; clear hb) | (go_at_call 8; refine (K2.out _).mono ?_; rintro e w6 ⟨rfl, hb⟩; replace hB := thenB hB hb; replace hX := sevRB hX hb; clear hb))
  have hY := sevRM w6 (.int .i64 7) (.string ⟨#[]⟩) (.int .i64 0) (.bool false) (.int .i64 0) (.string ⟨#[]⟩) (.int .i64 3) 23
  have hn := hal w6 (.cells #[.int .i64 7, .string ⟨#[]⟩, .int .i64 0, .bool false, .int .i64 0, .string ⟨#[]⟩, .int .i64 3] 23)
  replace hB := thenB hB hn
  replace hX := sevRB hX hn
  clear hn K2
  generalize w6.alloc _ = W2 at *
  generalize w6.heap.size = G2 at *
  go_upto_region 5 with (first | (go_at_call 10; refine (A1.out _).mono ?_; rintro e w7 ⟨rfl, hb⟩; replace hB := thenB hB hb; replace hX := sevRB hX hb; replace hY := sevRB hY hb; clear hb))
  go_upto_region 6 with (first | (go_at_call 16; refine (K3.out _).mono ?_; rintro e w8 ⟨rfl, hb⟩; replace hB := thenB hB hb; replace hX := sevRB hX hb; replace hY := sevRB hY hb; clear hb))
  have hZ := sevRM w8 (.int .i64 1) (.string T) (.int .i64 0) (.bool false) (.int .i64 0) (.string ⟨#[]⟩) (.int .i64 0) 23
  have hn := hal w8 (.cells #[.int .i64 1, .string T, .int .i64 0, .bool false, .int .i64 0, .string ⟨#[]⟩, .int .i64 0] 23)
  have hl1 := hX.1
  have hl2 := hY.1
  have hl0 := hB.size
  replace hB := thenB hB hn
  replace hX := sevRB hX hn
  replace hY := sevRB hY hn
  clear hn K3
  generalize w8.alloc _ = W3 at *
  generalize w8.heap.size = G3 at *
  go_upto_region 8 with fail
  replace hZ := set2 (set0 hZ (.int .i64 2)) (.int .i64 1)
  replace hX := setO (setO hX (show G3 ≠ G1 by omega) 0 (.int .i64 2)) (show G3 ≠ G1 by omega) 2 (.int .i64 1)
  replace hY := setO (setO hY (show G3 ≠ G2 by omega) 0 (.int .i64 2)) (show G3 ≠ G2 by omega) 2 (.int .i64 1)
  replace hB := (hB.setCell (p := ⟨G3, 0, none⟩) hl0 (.int .i64 2)).setCell (p := ⟨G3, 2, none⟩) hl0 (.int .i64 1)
  generalize (W3.setCell _ _).setCell _ _ = W4 at *
  clear hl0 hl1 hl2
  go_upto_region 9 with (first | (go_at_call 10; refine (A2.out _).mono ?_; rintro e w9 ⟨rfl, hb⟩; replace hB := thenB hB hb; replace hX := sevRB hX hb; replace hY := sevRB hY hb; clear hb hZ))
  go_upto_region 10 with (first | (go_at_call 10; refine (A3.out _).mono ?_; rintro e w10 ⟨rfl, hb⟩; replace hB := thenB hB hb; replace hX := sevRB hX hb; replace hY := sevRB hY hb; clear hb))
  go_upto_region 11 with (first | (go_at_call 8; refine (K4.out _).mono ?_; rintro e w11 ⟨rfl, hb⟩; replace hB := thenB hB hb; replace hX := sevRB hX hb; replace hY := sevRB hY hb; clear hb))
  have hn := hal w11 (.cells #[.int .i64 0, .string ⟨#[]⟩, .int .i64 0, .bool false, .int .i64 0, .string ⟨#[]⟩, .int .i64 0] 23)
  replace hB := thenB hB hn
  replace hX := sevRB hX hn
  replace hY := sevRB hY hn
  clear hn K4 A1 A2 A3 HI
  generalize w11.alloc _ = W5 at *
  go_wp2_with (first | (go_at_call 12; refine (num_any _ _).mono ?_; rintro e w' ⟨rfl, rfl⟩) | (go_at_call 13; refine (M1.out _).mono ?_; rintro e w12 ⟨rfl, hb⟩; replace hB := thenB hB hb; clear hb))
  go_ret
  exact ⟨rfl, hB⟩
end Go.Proofs.Ythegdhogpjhidaa.HstAwake
