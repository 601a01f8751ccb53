/-
  Layer 11, lz: the document's example; string(b). Conditions: as each theorem names.
-/
import Derived.Test.YthicgcgohpakgaaLzE
import Derived.Laws.BytesArg
import Derived.Lib.QuietBelow
import Derived.Deep.QuietTactic
import Derived.BigQuiet
namespace Go.Proofs.Ythicgcgohpakgaa.Lz
open Go.ChangeShapes Go.WideShapes Go.ChangeAt Go.RowKit Go.Proofs.Ythicgcgohpakgaa.Kit

/-- string(b) of a slice that reads xs, empty or not. -/
theorem conv_any (w : World) (A : Option Addr) (xs : List Int) (c B : Nat) (hr : Holds w B .u8 A xs) :
    (convert 24 9 (.slice A xs.length c)).run Try.prog w = .ok (.string (strOfNums xs)) w := by
  rcases Nat.eq_zero_or_pos xs.length with h0 | h0
  · obtain rfl : xs = [] := List.eq_nil_of_length_eq_zero h0
    cases A with
    | none => exact run_convert_bytes_nil w _ _ Try.underlying24 Try.underlying5 _ _ _ Try.underlying9
    | some ad =>
      have hl : (loadCells ad 0).run Try.prog w = .ok (([] : List Int).map (Value.int .u8)).toArray w := by simpa using run_loadCells_list (P := Try.prog) w ad [] (by simp)
      rw [run_convert_bytes_string w _ _ 5 _ _ c Try.underlying24 Try.underlying5 Try.underlying9]
      rw [show ([] : List Int).length = 0 from rfl, run_bytesToString w ad 0 c [] hl]
      rfl
  · obtain ⟨b, off, rfl, _, hc⟩ := hr h0
    exact run_convert_bytes_arg w _ _ Try.underlying24 Try.underlying5 b off xs.length c xs rfl hc _ Try.underlying9

def two : List Tok := [⟨97, 0, 0⟩, ⟨0, 3, 1⟩]

theorem two_reads (w : World) (t : TypeId) : HoldsT (w.alloc (.cells #[.int .u8 97, .int .i64 0, .int .i64 0, .int .u8 0, .int .i64 3, .int .i64 1] t)) (w.heap.size + 1) (some ⟨w.heap.size, 0, none⟩) two := by
  intro _
  have hb := Block.new w t #[.int .u8 97, .int .i64 0, .int .i64 0, .int .u8 0, .int .i64 3, .int .i64 1]
  refine ⟨_, _, rfl, by omega, fun j u hj => ?_⟩
  match j, hj with
  | 0, hj => injection hj with hj; subst hj; exact ⟨hb.cell 0, hb.cell 1, hb.cell 2⟩
  | 1, hj => injection hj with hj; subst hj; exact ⟨hb.cell 3, hb.cell 4, hb.cell 5⟩

theorem two_ok : ∀ t ∈ two, TokOk t := by
  intro t ht
  unfold two at ht
  simp at ht
  rcases ht with rfl | rfl <;> (unfold TokOk; simp)

theorem awake_any (w : World) : Calls Try.prog 7 #[] w (Gives (.bool true) w) := by
  have hx : expand 9 two [] = ([97, 97, 97, 97], 0) := by decide
  have hs : strOfNums [97, 97, 97, 97] = { data := #[97, 97, 97, 97] } := by decide
  have g1 := fun w' h => expand_any (some ⟨w.heap.size, 0, none⟩) two 2 9 w' (by decide) two_ok h
  rw [hx] at g1
  have G1 := Lib.hid g1
  have Hs := Lib.hid hs
  have h2 := two_reads w 32
  clear g1 hx hs
  go_enter Try.func7, Try.ntmps7
  go_wp2_with (go_at_call 8; refine (G1.out _ (by simpa using h2)).mono ?_; rintro e w1 ⟨A1, c1, rfl, hl1, hm1, hr1, hb1⟩; have hcv := conv_any w1 A1 [97, 97, 97, 97] c1 _ hr1; rw [Hs.out] at hcv; simp only [List.length_cons, List.length_nil, Nat.reduceAdd] at hcv)
  go_ret
  exact ⟨rfl, ((Below.refl _ _).alloc (Nat.le_refl _) _).trans (hb1.mono (by simp))⟩
end Go.Proofs.Ythicgcgohpakgaa.Lz
