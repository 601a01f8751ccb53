/-
  Layer 19, the heap of the lowest: contracts. Conditions: as each theorem names.
-/
import Derived.Test.YtojmcjkeniepcaaMOrC
import Derived.Deep.RegionLaw
import Derived.Maps.Range
namespace Go.Proofs.Ytojmcjkeniepcaa.Ord
open Go.ChangeShapes Go.WideShapes Go.ChangeAt Go.RowKit Go.Proofs.Ytojmcjkeniepcaa.Kit Go.Proofs.Ytojmcjkeniepcaa.Gr

theorem mPush (g : Nat) (W : World) : (method 230 79 (.pointer (some ⟨g, 4, none⟩)) "Push").run Try.prog W = .ok (92, .pointer (some ⟨g, 4, none⟩)) W := by kernel_rfl
theorem mPop (g : Nat) (W : World) : (method 230 79 (.pointer (some ⟨g, 4, none⟩)) "Pop").run Try.prog W = .ok (91, .pointer (some ⟨g, 4, none⟩)) W := by kernel_rfl
theorem mLen0 (g : Nat) (W : World) : (method 230 79 (.pointer (some ⟨g, 4, none⟩)) "Len").run Try.prog W = ((do pure (44, ← load ⟨g, 4, none⟩)) : Sem (FuncId × Value)).run Try.prog W := by kernel_rfl
theorem mSwap0 (g : Nat) (W : World) : (method 230 79 (.pointer (some ⟨g, 4, none⟩)) "Swap").run Try.prog W = ((do pure (90, ← load ⟨g, 4, none⟩)) : Sem (FuncId × Value)).run Try.prog W := by kernel_rfl
theorem mLen {g : Nat} {v : Value} {W : World} (h0 : W.cell? ⟨g, 4, none⟩ = some v) : (method 230 79 (.pointer (some ⟨g, 4, none⟩)) "Len").run Try.prog W = .ok (44, v) W := by
  rw [mLen0]
  simp [h0]
theorem mSwap {g : Nat} {v : Value} {W : World} (h0 : W.cell? ⟨g, 4, none⟩ = some v) : (method 230 79 (.pointer (some ⟨g, 4, none⟩)) "Swap").run Try.prog W = .ok (90, v) W := by
  rw [mSwap0]
  simp [h0]
theorem elemL : IntElem Try.prog 69 3 .i64 8 := ⟨Try.underlying69, by kernel_rfl, by omega⟩
set_option maxRecDepth 100000 in
set_option maxHeartbeats 1600000 in
theorem len_any (A : Option Addr) (n c : Nat) (w : World) : Calls Try.prog 44 #[.slice A n c] w fun e w' => e = .returned (.int .i64 n) ∧ w = w' := by
  go_enter Try.func44, Try.ntmps44
  go_wp2_with fail
  go_ret
  exact ⟨rfl, rfl⟩
set_option maxRecDepth 100000 in
set_option maxHeartbeats 1600000 in
theorem pop_one {g A c : Nat} {x : Int} {w : World} (h0 : w.cell? ⟨g, 4, none⟩ = some (.slice (some ⟨A, 0, none⟩) 1 c)) (h1 : w.cell? ⟨A, 0, none⟩ = some (.int .i64 x)) (h2 : w.frozen? ⟨g, 4, none⟩ = false) (hc : 1 ≤ c) :
    Calls Try.prog 91 #[.pointer (some ⟨g, 4, none⟩)] w fun e w' => e = .returned (.iface 3 (.int .i64 x)) ∧ w.setCell ⟨g, 4, none⟩ (.slice (some ⟨A, 0, none⟩) 0 c) = w' := by
  go_enter Try.func91, Try.ntmps91
  go_wp2_with fail
  go_ret
  exact ⟨rfl, rfl⟩
set_option maxRecDepth 100000 in
set_option maxHeartbeats 3200000 in
theorem swap_one {A c B : Nat} {x : Int} {w : World} (ho : Own w B 3 .i64 (.slice (some ⟨A, 0, none⟩) 1 c) [x]) :
    Calls Try.prog 90 #[.slice (some ⟨A, 0, none⟩) 1 c, .int .i64 0, .int .i64 0] w fun e w' => e = .returned (.tuple #[]) ∧ Own w' B 3 .i64 (.slice (some ⟨A, 0, none⟩) 1 c) [x] ∧ w.grownBy w' (some A) := by
  have c0 : w.cell? ⟨A, 0, none⟩ = some (.int .i64 x) := ho.cellAt rfl (i := 0) (by simp)
  have f0 := ho.frozenAt rfl 0
  obtain ⟨o1, g1⟩ := ho.stored rfl 0 x
  obtain ⟨o2, g2⟩ := o1.stored rfl 0 x
  have HO := Lib.hid (o2.drewN 1)
  have HG := Lib.hid (g1.andThen g2 (fun j hj => by cases hj; exact Or.inr rfl))
  clear ho o1 o2 g1 g2
  go_enter Try.func90, Try.ntmps90
  go_wp2_with fail
  go_region_law fail
  all_goals
    go_wp2_with fail
    go_end0
    exact ⟨rfl, HO.out, ⟨HG.out.os, HG.out.tape, HG.out.output, HG.out.size, HG.out.block⟩⟩
end Go.Proofs.Ytojmcjkeniepcaa.Ord
