/-
  Layer 25, image: how the law's step comes in. Conditions: as each theorem names.
-/
import Derived.Test.YtpnodocjpedcmaaDoorImB
import Derived.Test.YtpnodocjpedcmaaDoorShp
namespace Go.Proofs.YtpnodocjpedcmaaDoor.Im
open Go.ChangeShapes Go.WideShapes Go.ChangeAt Go.RowKit Go.Proofs.YtpnodocjpedcmaaDoor.Kit

structure Step25 where
  k : Int
  blk : Int
  at_ : Int
  n : Int
  view : Int
  slot : Int
  A : Option Addr
  cap : Nat
  bs : List Int
  A2 : Option Addr
  cap2 : Nat
  zs : List Int
structure Step25.Ok (m : Step25) : Prop where
  k : -9223372036854775808 ≤ m.k ∧ m.k ≤ 9223372036854775807
  blk : -9223372036854775808 ≤ m.blk ∧ m.blk ≤ 9223372036854775807
  at_ : -9223372036854775808 ≤ m.at_ ∧ m.at_ ≤ 9223372036854775807
  n : -9223372036854775808 ≤ m.n ∧ m.n ≤ 9223372036854775807
  view : -9223372036854775808 ≤ m.view ∧ m.view ≤ 9223372036854775807
  slot : 0 ≤ m.slot ∧ m.slot ≤ 255
  b1 : m.bs.length ≤ m.cap
  b2 : m.cap ≤ maxLen
  bo : Octets m.bs
  z1 : m.zs.length ≤ m.cap2
  z2 : m.cap2 ≤ maxLen
  zo : Octets m.zs
def Step25.cells (m : Step25) : List Value := [.int .i64 m.k, .int .i64 m.blk, .int .i64 m.at_, .int .i64 m.n, .int .i64 m.view, .int .u8 m.slot, .slice m.A m.bs.length m.cap, .slice m.A2 m.zs.length m.cap2]
def Step25.In (m : Step25) (w : World) (B : Nat) : Prop := Holds w B .u8 m.A m.bs ∧ Holds w B .u8 m.A2 m.zs
def stepDs : List Fld := [.i .i64, .i .i64, .i .i64, .i .i64, .i .i64, .i .u8, .s .u8, .s .u8]
theorem step_of {w : World} {B : Nat} {vs : List FVal} (h : allOk w B stepDs vs) : ∃ m : Step25, m.Ok ∧ m.In w B ∧ allCells stepDs vs = m.cells := by
  match vs, h with
  | [.i k, .i b, .i a, .i n, .i v, .i s, .s A c bs, .s A2 c2 zs], ⟨h0, h1, h2, h3, h4, h5, h6, h7, _⟩ =>
    exact ⟨⟨k, b, a, n, v, s, A, c, bs, A2, c2, zs⟩, ⟨bounds_i64 h0, bounds_i64 h1, bounds_i64 h2, bounds_i64 h3, bounds_i64 h4, bounds_u8 h5, h6.1, h6.2.1, fun z hz => bounds_u8 (h6.2.2.1 z hz), h7.1, h7.2.1, fun z hz => bounds_u8 (h7.2.2.1 z hz)⟩, ⟨h6.2.2.2, h7.2.2.2⟩, rfl⟩
end Go.Proofs.YtpnodocjpedcmaaDoor.Im
