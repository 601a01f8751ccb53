/-
  Layer 8, bits: the document's example. Conditions: as each theorem names.
-/
import Derived.Test.YtpofdlcadobdoaaBits2
import Derived.Laws.BytesArg
import Derived.LoopTactic
namespace Go.Proofs.Ytpofdlcadobdoaa.Bits
open Go.ChangeShapes Go.WideShapes Go.ChangeAt Go.RowKit Go.Proofs.Ytpofdlcadobdoaa.Kit

theorem elem8 : IntElem Try.prog 27 5 .u8 1 := ⟨Try.underlying27, by kernel_rfl, by omega⟩

theorem conv_any (w : World) (A : Option Addr) (xs : List Int) (c B : Nat) (hr : Holds w B .u8 A xs) :
    (convert 27 9 (.slice A xs.length c)).run Try.prog w = .ok (.string (strOfNums xs)) w := by
  rcases Nat.eq_zero_or_pos xs.length with h0 | h0
  · obtain rfl : xs = [] := List.eq_nil_of_length_eq_zero h0
    cases A with
    | none => exact run_convert_bytes_nil w _ _ Try.underlying27 Try.underlying5 _ _ _ Try.underlying9
    | some ad =>
      have hl : (loadCells ad 0).run Try.prog w = .ok (([] : List Int).map (Value.int .u8)).toArray w := by simpa using run_loadCells_list (P := Try.prog) w ad [] (by simp)
      rw [run_convert_bytes_string w _ _ 5 _ _ c Try.underlying27 Try.underlying5 Try.underlying9]
      rw [show ([] : List Int).length = 0 from rfl, run_bytesToString w ad 0 c [] hl]
      rfl
  · obtain ⟨b, off, rfl, _, hc⟩ := hr h0
    exact run_convert_bytes_arg w _ _ Try.underlying27 Try.underlying5 b off xs.length c xs rfl hc _ Try.underlying9

theorem revb_1 (w : World) : Calls Try.prog 30 #[.int .u32 128] w fun e w' => e = .returned (.int .u32 2147483648) ∧ w' = w := by
  go_enter Try.func30, Try.ntmps30
  go_wp2
  go_ret
  exact ⟨by kernel_rfl, rfl⟩

theorem rev_1 (w : World) : Calls Try.prog 29 #[.int .u32 1] w fun e w' => e = .returned (.int .u32 2147483648) ∧ w' = w := by
  have G := Lib.hid revb_1
  go_enter Try.func29, Try.ntmps29
  go_wp2_with (go_at_call 30; refine (G.out _).mono ?_; rintro e w1 ⟨rfl, rfl⟩)
  go_ret
  exact ⟨rfl, rfl⟩

theorem code_3 (g : Nat) (w : World) (hb : Block w g 51 #[.slice none 0 0, .int .u64 5, .int .i64 3]) :
    Calls Try.prog 12 #[.pointer (some ⟨g, 0, none⟩), .int .u32 1, .int .i64 2] w fun e w' => e = .returned (.tuple #[]) ∧ Block w' g 51 #[.slice none 0 0, .int .u64 21, .int .i64 5] ∧ Below g w w' := by
  have G := Lib.hid rev_1
  have G2 := Lib.hid (put_3 g w hb)
  go_enter Try.func12, Try.ntmps12
  go_wp2_with (first
    | (go_at_call 29; refine (G.out _).mono ?_; rintro e w1 ⟨rfl, rfl⟩)
    | (go_at_call 10; refine G2.out.mono ?_; rintro e w2 ⟨rfl, b2, l2⟩))
  go_end0
  exact ⟨rfl, b2, l2⟩

theorem len_5 (g : Nat) (w : World) (hb : Block w g 51 #[.slice none 0 0, .int .u64 21, .int .i64 5]) :
    Calls Try.prog 18 #[.pointer (some ⟨g, 0, none⟩)] w fun e w' => e = .returned (.int .i64 5) ∧ Below w.heap.size w w' := by
  have c0 : w.cell? ⟨g, 0, none⟩ = some (.slice none 0 0) := hb.cell 0
  have c2 : w.cell? ⟨g, 2, none⟩ = some (.int .i64 5) := hb.cell 2
  go_enter Try.func18, Try.ntmps18
  go_wp2_with fail
  go_quiet (fail)
  go_wp2_with fail
  go_ret
  exact ⟨rfl, below_draws (Below.refl _ _) _⟩

set_option maxHeartbeats 800000 in
theorem bytes_5 (g : Nat) (w : World) (hb : Block w g 51 #[.slice none 0 0, .int .u64 21, .int .i64 5]) :
    Calls Try.prog 19 #[.pointer (some ⟨g, 0, none⟩)] w fun e w' => (∃ v, e = .returned v ∧ Own w' w.heap.size 5 .u8 v [21]) ∧ Below w.heap.size w w' := by
  have c0 : w.cell? ⟨g, 0, none⟩ = some (.slice none 0 0) := hb.cell 0
  go_enter Try.func19, Try.ntmps19
  go_wp2_with (first
    | (have _t := own3; at_builtin; refine wpList_append_one (z := 21) _ rfl _ _ _ rfl elem8 own3 rfl rfl (by simp) hb3.size ?_; clear _t; intro v4 w4 own4 hg4 hb4)
    | (at_builtin; refine wpList_append_ints (xs := []) (ys := []) (A := none) (c := 0) (B' := w.heap.size) _ rfl _ _ _ rfl elem8 (Own.nil w w.heap.size _ _) rfl rfl Holds.nil (by simp) (Nat.le_refl _) ?_; intro v3 w3 own3 hg3 hb3 hv3; have blk3 := hb.below hb3 hb.lt; have q1 : w3.cell? ⟨g, 1, none⟩ = some (.int .u64 21) := blk3.cell 1; have q2 : w3.cell? ⟨g, 2, none⟩ = some (.int .i64 5) := blk3.cell 2))
  go_ret
  exact ⟨⟨_, rfl, own4⟩, hb3.trans hb4⟩

set_option maxHeartbeats 800000 in
theorem awake_any (w : World) : Calls Try.prog 8 #[] w fun e w' => e = .returned (.bool true) ∧ Below w.heap.size w w' := by
  have hs : strOfNums [21] = { data := #[21] } := by decide
  have Hs := Lib.hid hs
  clear hs
  have b1 := Block.new w 51 #[.slice none 0 0, .int .u64 0, .int .i64 0]
  have l1 := (Below.refl w.heap.size w).alloc (Nat.le_refl _) (.cells #[.slice none 0 0, .int .u64 0, .int .i64 0] 51)
  go_enter Try.func8, Try.ntmps8
  go_wp2_with (first
    | (go_at_call 9; refine (new_any _).mono ?_; rintro e w1 ⟨rfl, rfl⟩)
    | (have _t := b5; go_at_call 18; refine (len_5 _ _ b5).mono ?_; clear _t; rintro e w6 ⟨rfl, l6⟩)
    | (have _t := b4; go_at_call 19; refine (bytes_5 _ _ b4).mono ?_; clear _t; rintro e w5 ⟨⟨v, rfl, own⟩, l5⟩; have b5 := b4.below l5 b4.lt; obtain ⟨A5, cap5, rfl, _, _, hr5⟩ := own.opened; have hcv := conv_any w5 A5 [21] cap5 _ hr5; rw [Hs.out] at hcv; simp only [List.length_cons, List.length_nil, Nat.reduceAdd] at hcv)
    | (have _t := b3; go_at_call 12; refine (code_3 _ _ b3).mono ?_; clear _t; rintro e w4 ⟨rfl, b4, l4⟩)
    | (have _t := b2; go_at_call 10; refine (put_2 _ _ b2).mono ?_; clear _t; rintro e w3 ⟨rfl, b3, l3⟩)
    | (have _t := b1; go_at_call 10; refine (put_1 _ _ b1).mono ?_; clear _t; rintro e w2 ⟨rfl, b2, l2⟩))
  go_ret
  have m4 := ((l1.trans l2).trans l3).trans l4
  exact ⟨rfl, (m4.trans (l5.mono m4.size)).trans (l6.mono (Nat.le_trans m4.size l5.size))⟩
end Go.Proofs.Ytpofdlcadobdoaa.Bits
