/-
  Layer 19: container/heap: a number is pushed on a heap of none: contracts. Conditions: as each theorem names.
-/
import Derived.Test.YtojmcjkeniepcaaMOrE
namespace Go.Proofs.Ytojmcjkeniepcaa.Ord
open Go.ChangeShapes Go.WideShapes Go.ChangeAt Go.RowKit Go.Proofs.Ytojmcjkeniepcaa.Kit Go.Proofs.Ytojmcjkeniepcaa.Gr

theorem assert_int (x : Int) (W : World) : (Instr.typeAssert (.iface 3 (.int .i64 x)) 20 3 true).run Try.prog W = .ok (.tuple #[.int .i64 x, .bool true]) W := by kernel_rfl
def Pushed (g B : Nat) (v : Value) (x : Int) (w w' : World) : Prop := ∃ v' w2, Own w2 B 3 .i64 v' [x] ∧ (w.alloc (.cells #[.int .i64 x] 3)).grownBy w2 v.ownBlock ∧ w2.setCell ⟨g, 4, none⟩ v' = w'
set_option maxRecDepth 100000 in
set_option maxHeartbeats 1600000 in
theorem lpush_none {g B : Nat} {v : Value} {x : Int} {w : World} (h0 : w.cell? ⟨g, 4, none⟩ = some v) (ho : Own w B 3 .i64 v []) (h2 : w.frozen? ⟨g, 4, none⟩ = false) (hg : g < w.heap.size) (hB : B ≤ w.heap.size) (hne : v.ownBlock ≠ some g) :
    Calls Try.prog 92 #[.pointer (some ⟨g, 4, none⟩), .iface 3 (.int .i64 x)] w fun e w' => e = .returned (.tuple #[]) ∧ Pushed g B v x w w' := by
  have HK : Hid (∀ W, (w.alloc (.cells #[.int .i64 x] 3)).grownBy W v.ownBlock → W.cell? ⟨g, 4, none⟩ = some v ∧ W.frozen? ⟨g, 4, none⟩ = false) := Lib.hid fun W hW => by
    have hb := (hW.block g (by simp; omega) (fun h => hne h.symm)).trans (Below.heap_alloc w (.cells #[.int .i64 x] 3) g hg)
    exact ⟨by rw [← h0]; exact World.cell?_of_block (a := ⟨g, 4, none⟩) hb, by rw [← h2]; exact World.frozen?_of_block (a := ⟨g, 4, none⟩) hb⟩
  have hta := assert_int x
  clear h2 hne
  go_enter Try.func92, Try.ntmps92
  go_wp2_with (at_builtin; refine wpList_append_one (z := x) _ rfl _ _ _ rfl elemL ho rfl rfl (by simp) hB ?_; intro v3 w3 own3 hg3 hb3; rw [List.nil_append] at own3; obtain ⟨q1, q2⟩ := HK.out _ hg3; obtain ⟨A3, c3, rfl, _, _, _⟩ := own3.opened; simp only [List.length_singleton] at own3 ⊢)
  go_end0
  exact ⟨rfl, _, w3, own3, hg3, rfl⟩
set_option maxRecDepth 100000 in
set_option maxHeartbeats 1600000 in
theorem hpush_none {g B : Nat} {v : Value} {x : Int} {w : World} (h0 : w.cell? ⟨g, 4, none⟩ = some v) (ho : Own w B 3 .i64 v []) (h2 : w.frozen? ⟨g, 4, none⟩ = false) (hg : g < w.heap.size) (hB : B ≤ w.heap.size) (hne : v.ownBlock ≠ some g) :
    Calls Try.prog 43 #[.iface 79 (.pointer (some ⟨g, 4, none⟩)), .iface 3 (.int .i64 x)] w fun e w' => e = .returned (.tuple #[]) ∧ Pushed g B v x w w' := by
  have m1 := mPush g w
  have GP := Lib.hid (lpush_none (x := x) h0 ho h2 hg hB hne)
  have HC : Hid (∀ (v' : Value) (w2 : World), (w.alloc (.cells #[.int .i64 x] 3)).grownBy w2 v.ownBlock → (w2.setCell ⟨g, 4, none⟩ v').cell? ⟨g, 4, none⟩ = some v') := Lib.hid fun v' w2 hW => by
    have hb := (hW.block g (by simp; omega) (fun h => hne h.symm)).trans (Below.heap_alloc w (.cells #[.int .i64 x] 3) g hg)
    have hc : w2.cell? ⟨g, 4, none⟩ = some v := by rw [← h0]; exact World.cell?_of_block (a := ⟨g, 4, none⟩) hb
    exact World.cell?_setCell_same _ _ _ hc
  clear h0 h2 hne ho
  go_enter Try.func43, Try.ntmps43
  go_wp2_with (first
    | (go_at_call 92; refine GP.out.mono ?_; rintro e w1 ⟨rfl, v3, w3, own3, g3, rfl⟩; have hc := HC.out v3 w3 g3; have m2 := mLen hc; obtain ⟨A3, c3, rfl, _⟩ := own3.opened; simp only [List.length_singleton] at hc m2 own3 ⊢)
    | (go_at_call 44; refine (len_any _ 1 _ _).mono ?_; rintro e w4 ⟨rfl, rfl⟩)
    | (go_at_call 49; refine (up_zero _ _).mono ?_; rintro e w5 ⟨rfl, rfl⟩))
  go_end0
  exact ⟨rfl, _, w3, own3, g3, rfl⟩
end Go.Proofs.Ytojmcjkeniepcaa.Ord
