/- A device's steps spoilt by whoever holds it: only memory of their own turns. How many steps a taken block leaves. -/
import Derived.Test.YthpoefaipmcceaaDnlTake
import Derived.Test.YthpoefaipmcceaaOpsHelp
namespace Go.Proofs.Ythpoefaipmcceaa.DnlHelp
open Go.Proofs.Ythpoefaipmcceaa Go.RowKit Go.Proofs.Ythpoefaipmcceaa.Bytes Go.Proofs.Ythpoefaipmcceaa.Ops Go.Proofs.Ythpoefaipmcceaa.OpsRow Go.Proofs.Ythpoefaipmcceaa.Act Go.Proofs.Ythpoefaipmcceaa.Cho Go.Proofs.Ythpoefaipmcceaa.Sta Go.Proofs.Ythpoefaipmcceaa.Dev Go.Proofs.Ythpoefaipmcceaa.DevRow Go.Proofs.Ythpoefaipmcceaa.Dnl Go.Proofs.Ythpoefaipmcceaa.DnlCopy
/-- What Take gives, with its steps' number told, in memory of their own: it is taken. -/
theorem tookO {f : ByteArray} {d : FDev} {b : Int} {t : ByteArray} {D : FDev} {n : Nat} (ho : okB f d b t = true) (h : takeD f d b t = D) (hn : D.ops.length = n) (v : Value) (w : World) (hv : IsSt w v d.ops) : Calls Try.prog 9 #[.string f, .agg #[.int .i64 d.sa, .int .i64 d.su, .int .i64 d.nx, .int .i64 d.gt, .int .i64 d.sl, v], .int .i64 b, .string t] w fun r w' => ∃ a c, r = .returned (.tuple #[.agg #[.int .i64 D.sa, .int .i64 D.su, .int .i64 D.nx, .int .i64 D.gt, .int .i64 D.sl, .slice a n c], .int .i64 0]) ∧ w'.ownsRow w.heap.size 44 3 (.slice a n c) n (flat D.ops) ∧ Below w.heap.size w w' := by
  have g := DnlTake.take_any f d v b t w hv
  rw [ho, h, show errL true = 0 from rfl] at g
  refine g.mono ?_
  rintro e w' ⟨u, rfl, hown, hb⟩
  rw [hn] at hown
  obtain ⟨a, c, rfl⟩ := owns_form hown
  exact ⟨a, c, rfl, hown, hb⟩
/-- The steps of a device that a call gave. -/
theorem field_sent (a : Option Addr) (c : Nat) (w : World) : (Instr.field 24 (.agg #[.int .i64 1, .int .i64 0, .int .i64 1, .int .i64 32, .int .i64 0, .slice a 11 c]) 5).run Try.prog w = .ok (.slice a 11 c) w := by kernel_rfl
/-- A slice of some steps: where they lie. -/
theorem st_open {w : World} {a : Option Addr} {n c : Nat} {l : List FOp} (h : IsSt w (.slice a n c) l) (hn : 0 < n) : l.length = n ∧ ∃ b o, a = some ⟨b, o, none⟩ ∧ n ≤ c ∧ c ≤ maxLen ∧ b < w.heap.size ∧ StIn w b o l := by
  obtain ⟨a', c', he, _, hr⟩ := h
  injection he with e1 e2 e3
  subst e1 e3
  refine ⟨e2.symm, ?_⟩
  rcases hr with hr | ⟨b, o, h1, h2, h3, h4, h5⟩
  · rw [hr] at e2; simp at e2; omega
  · exact ⟨b, o, h1, by omega, h3, h4, h5⟩
theorem take_few (f : ByteArray) (d : FDev) (b : Int) (t : ByteArray) : (takeD f d b t).ops.length ≤ 65536 := by
  unfold takeD
  split
  · rename_i h
    obtain ⟨_, h2, _, _, h5⟩ := okB_parts.1 h
    have hd := (dev_parts h2).2.2.2
    split
    · unfold firstD
      split
      · exact Nat.zero_le _
      split
      · show (erL (othI f) ++ wordsL (baseI (othI f)) t).length ≤ 65536
        have := words_few (baseI (othI f)) t h5
        have := er_three f
        rw [List.length_append]
        omega
      · exact Nat.zero_le _
    · unfold furtherD
      split
      · show d.ops.length ≤ 65536; omega
      split
      · exact Nat.zero_le _
      split
      · show d.ops.length ≤ 65536; omega
      split
      · show (wordsL (baseI d.sl + d.gt) t).length ≤ 65536
        have := words_few (baseI d.sl + d.gt) t h5
        omega
      · exact Nat.zero_le _
  · exact Nat.zero_le _
set_option maxRecDepth 100000 in
set_option maxHeartbeats 1000000 in
theorem spoilDev_any (d : FDev) (v : Value) (w : World) (base : Nat) (hl : d.ops.length ≤ 65536) (hbase : base ≤ w.heap.size) (hv : w.ownsRow base 44 3 v d.ops.length (flat d.ops)) : Calls Try.prog 13 #[.agg #[.int .i64 d.sa, .int .i64 d.su, .int .i64 d.nx, .int .i64 d.gt, .int .i64 d.sl, v]] w fun e w' => e = .returned (.tuple #[]) ∧ Below base w w' := by
  have hB := (Below.refl base w).alloc hbase (.cells #[.int .i64 d.sa, .int .i64 d.su, .int .i64 d.nx, .int .i64 d.gt, .int .i64 d.sl, v] 24)
  have hv2 := hv.alloc (.cells #[.int .i64 d.sa, .int .i64 d.su, .int .i64 d.nx, .int .i64 d.gt, .int .i64 d.sl, v] 24)
  have HS := hide (OpsHelp.spoil_any v d.ops _ base hl hv2)
  obtain ⟨a, c, rfl⟩ := owns_form hv
  obtain ⟨sa, su, nx, gt, sl, l⟩ := d
  dsimp only at *
  go_enter Try.func13, Try.ntmps13
  go_wp2_with fail
  refine HS.out.mono ?_
  rintro e w2 ⟨rfl, hb⟩
  go_wp2_with fail
  go_end0
  exact ⟨rfl, hB.trans hb⟩
end Go.Proofs.Ythpoefaipmcceaa.DnlHelp
