/-
  Layer 15, match: what is found of an image and the same one; the example: contracts. Conditions: as each theorem names.
-/
import Derived.Test.YtlcnbepldkbkgaaMGDcks4
import Derived.Test.YtlcnbepldkbkgaaMArr
import Derived.Lib.SlBytesConst
namespace Go.Proofs.Ytlcnbepldkbkgaa.Mt
open Go.ChangeShapes Go.WideShapes Go.ChangeAt Go.RowKit Go.Proofs.Ytlcnbepldkbkgaa.Kit

theorem equal_any (A1 : Option Addr) (A2 : Option Addr) (xs : List Int) (c1 c2 : Nat) (w : World) (r1 : Holds w w.heap.size .u8 A1 xs) (r2 : Holds w w.heap.size .u8 A2 xs) :
    Calls Try.prog 22 #[.slice A1 xs.length c1, .slice A2 xs.length c2] w fun e w' => e = .returned (.bool true) ∧ w = w' := by
  have f1 := conv_bytes Try.underlying22 Try.underlying5 Try.underlying9 w A1 xs c1 _ r1
  have f2 := conv_bytes Try.underlying22 Try.underlying5 Try.underlying9 w A2 xs c2 _ r2
  generalize strOfNums xs = s at *
  go_enter Try.func22, Try.ntmps22
  go_wp2
  go_ret
  exact ⟨rfl, rfl⟩

set_option maxRecDepth 100000 in
theorem find_same (A1 : Option Addr) (A2 : Option Addr) (xs : List Int) (c1 c2 : Nat) (w : World) (h0 : 0 < xs.length) (hl : xs.length ≤ 1000000) (r1 : Holds w w.heap.size .u8 A1 xs) (r2 : Holds w w.heap.size .u8 A2 xs) :
    Calls Try.prog 18 #[.slice A1 xs.length c1, .slice A2 xs.length c2] w fun e w' => e = .returned (.slice (some ⟨w.heap.size, 0, none⟩) 1 1) ∧ w.alloc (.cells #[.int .i64 0, .int .i64 0, .int .i64 xs.length] 46) = w' := by
  have GE := Lib.hid (equal_any A1 A2 xs c1 c2 w r1 r2)
  have d1 : decide ((0 : Int) < (xs.length : Int)) = true := decide_eq_true (by omega)
  have d2 : decide (0 < xs.length) = true := decide_eq_true h0
  go_enter Try.func18, Try.ntmps18
  go_wp2_with (first | (go_at_call 22; (with_reducible refine GE.out.mono ?_); rintro e w1 ⟨rfl, rfl⟩))
  go_ret
  exact ⟨rfl, rfl⟩

theorem holds_const {w : World} {t : TypeId} {zs : List Int} (m : Nat × Nat) : Holds (w.alloc (.cells (zs.map (Value.int .u8)).toArray t m)) (w.alloc (.cells (zs.map (Value.int .u8)).toArray t m)).heap.size .u8 (some ⟨w.heap.size, 0, none⟩) zs := by
  intro _
  refine ⟨w.heap.size, 0, rfl, by simp, fun j hj => ?_⟩
  have := World.cell?_alloc_mark w (zs.map (Value.int .u8)).toArray t m (0 + j)
  rw [this]
  simp [List.getD, List.getElem?_eq_getElem hj]
/-- A constant text's bytes are laid. -/
theorem conv_const (W : World) (g : Nat) (hg : g = W.heap.size) : (convert 22 22 (.slice (some ⟨g, 0, none⟩) 8 8)).run Try.prog (W.alloc (.cells #[.int .u8 97, .int .u8 98, .int .u8 99, .int .u8 100, .int .u8 101, .int .u8 102, .int .u8 103, .int .u8 104] 5)) = .ok (.slice (some ⟨g, 0, none⟩) 8 8) (W.alloc (.cells #[.int .u8 97, .int .u8 98, .int .u8 99, .int .u8 100, .int .u8 101, .int .u8 102, .int .u8 103, .int .u8 104] 5 (8, 9))) := by
  subst hg
  exact Lib.run_convert_bytes_const W 22 5 #[.int .u8 97, .int .u8 98, .int .u8 99, .int .u8 100, .int .u8 101, .int .u8 102, .int .u8 103, .int .u8 104] 8 8 Try.underlying22 Try.underlying5

end Go.Proofs.Ytlcnbepldkbkgaa.Mt
