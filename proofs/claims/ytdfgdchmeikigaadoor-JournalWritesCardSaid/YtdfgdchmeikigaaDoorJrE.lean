/-
  Layer 24, journal: a record that comes in. Conditions: as each theorem names.
-/
import Derived.Test.YtdfgdchmeikigaaDoorJrA
import Derived.Test.YtdfgdchmeikigaaDoorShp
import Derived.IntWalk
namespace Go.Proofs.YtdfgdchmeikigaaDoor.Jr
open Go.ChangeShapes Go.WideShapes Go.ChangeAt Go.RowKit Go.Proofs.YtdfgdchmeikigaaDoor.Kit

def recDs : List Fld := [.i .u64, .i .u8, .i .u64, .i .i64, .i .u8, .i .u8, .a .u8 32, .i .u64, .i .i64, .i .i64, .i .u64, .i .i64, .i .i64]
theorem rec_of {w : World} {B : Nat} {vs : List FVal} (h : allOk w B recDs vs) : ∃ r : Rec, r.Ok ∧ True ∧ allCells recDs vs = r.cells := by
  match vs, h with
  | [.i sq, .i ac, .i vr, .i le, .i st, .i md, .a mn, .i nv, .i nl, .i dn, .i at_, .i bk, .i az], ⟨h0, h1, h2, h3, h4, h5, h6, h7, h8, h9, h10, h11, h12, _⟩ =>
    have b7 := bounds_u64 h7
    have b10 := bounds_u64 h10
    have b0 := bounds_u64 h0
    have b2 := bounds_u64 h2
    refine ⟨⟨sq, ac, vr, le, st, md, mn, nv, nl, dn, at_, bk, az⟩, ⟨⟨b0.1, by have := b0.2; show sq < _; omega⟩, bounds_u8 h1, ⟨b2.1, by have := b2.2; show vr < _; omega⟩, bounds_i64 h3, bounds_u8 h4, bounds_u8 h5, h6.1, fun z hz => bounds_u8 (h6.2 z hz), ⟨b7.1, by have := b7.2; show nv < _; omega⟩, bounds_i64 h8, bounds_i64 h9, ⟨b10.1, by have := b10.2; show at_ < _; omega⟩, bounds_i64 h11, bounds_i64 h12⟩, trivial, ?_⟩
    simp [allCells, recDs, fvCells, Rec.cells]
end Go.Proofs.YtdfgdchmeikigaaDoor.Jr
