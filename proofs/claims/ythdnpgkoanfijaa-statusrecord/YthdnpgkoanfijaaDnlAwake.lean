/- The contracts of 'sent' and 'awake' of the laws over package download: a device that took a block; what is known of a few blocks: true. -/
import Derived.Test.YthdnpgkoanfijaaBagDnl
import Derived.Test.YthdnpgkoanfijaaDnlDoc
import Derived.Test.YthdnpgkoanfijaaBagDev
import Derived.Deep.RegionHeld3
namespace Go.Proofs.Ythdnpgkoanfijaa.DnlAwake
open Go.Proofs.Ythdnpgkoanfijaa Go.RowKit Go.Proofs.Ythdnpgkoanfijaa.Bytes Go.Proofs.Ythdnpgkoanfijaa.Nor Go.Proofs.Ythdnpgkoanfijaa.Ops Go.Proofs.Ythdnpgkoanfijaa.OpsRow Go.Proofs.Ythdnpgkoanfijaa.Act Go.Proofs.Ythdnpgkoanfijaa.Cho Go.Proofs.Ythdnpgkoanfijaa.Sta Go.Proofs.Ythdnpgkoanfijaa.Dev Go.Proofs.Ythdnpgkoanfijaa.DevRow Go.Proofs.Ythdnpgkoanfijaa.DevSet Go.Proofs.Ythdnpgkoanfijaa.Dnl Go.Proofs.Ythdnpgkoanfijaa.DnlMore Go.Proofs.Ythdnpgkoanfijaa.DnlCopy Go.Proofs.Ythdnpgkoanfijaa.DnlWalk
open Go.Proofs.Ythdnpgkoanfijaa.DevWalk (build_d0)
open Go.Proofs.Ythdnpgkoanfijaa.DevAwake (hal)
def txt32 : ByteArray := ⟨#[48, 49, 50, 51, 52, 53, 54, 55, 56, 57, 97, 98, 99, 100, 101, 102, 48, 49, 50, 51, 52, 53, 54, 55, 56, 57, 97, 98, 99, 100, 101, 102]⟩
def sentL : List FOp := erL 0 ++ wordsL (baseI 0) txt32
theorem sent_len : sentL.length = 11 := by unfold sentL; rw [length_start 0 txt32 (by omega) (by omega) (by decide)]; rfl
theorem sent_is : okB blankS newD 0 txt32 = true ∧ takeD blankS newD 0 txt32 = ⟨1, 0, 1, 32, 0, sentL⟩ := by
  obtain ⟨h1, h2⟩ := start_is (t := txt32) may_blank (by decide) (by decide)
  rw [oth_blank] at h2
  exact ⟨h1, h2⟩
theorem down_sent (w : World) : Calls Try.prog 31 #[.string blankS, .agg #[.int .i64 0, .int .i64 0, .int .i64 0, .int .i64 0, .int .i64 0, .slice none 0 0], .int .i64 0, .string txt32] w fun r w' => ∃ a c, r = .returned (.tuple #[.agg #[.int .i64 1, .int .i64 0, .int .i64 1, .int .i64 32, .int .i64 0, .slice a 11 c], .int .i64 0]) ∧ w'.ownsRow w.heap.size 73 3 (.slice a 11 c) 11 (flat sentL) ∧ Below w.heap.size w w' := by
  have g := DnlDoc.refTake_any blankS newD (.slice none 0 0) 0 txt32 w (isSt_nil w)
  rw [sent_is.1, sent_is.2, show errL true = 0 from rfl] at g
  refine g.mono ?_
  rintro e w' ⟨u, rfl, hown, hb⟩
  dsimp only at hown
  rw [sent_len] at hown
  obtain ⟨a, c, rfl⟩ := owns_form hown
  exact ⟨a, c, rfl, hown, hb⟩
def abcd : ByteArray := ⟨#[97, 98, 99, 100]⟩
def xy : ByteArray := ⟨#[120, 121]⟩
def ex : ByteArray := ⟨#[120]⟩
def l1 : List FOp := erL 0 ++ wordsL (baseI 0) abcd
def l2 : List FOp := [⟨false, 224, ⟨#[120, 121, 255, 255]⟩⟩]
theorem down_ok (b : Int) (t : ByteArray) (h0 : 0 ≤ b) (h1 : b ≤ 65535) (ht : t.size ≤ 32) : okB blankS (downD 1 32) b t = true := ok_down may_blank (by omega) (by omega) (by omega) (by omega) h0 h1 ht
theorem words_xy : wordsL (192 + 32) xy = l2 := by
  rw [wordsL_ok (by decide)]
  rfl
theorem no_sync (f t : ByteArray) (b : Int) (d : FDev) (h : d.sa = 1) : okB f d b t = false := by
  cases hc : okB f d b t with
  | false => rfl
  | true => have := (okB_parts.1 hc).2.2.1; omega
end Go.Proofs.Ythdnpgkoanfijaa.DnlAwake
