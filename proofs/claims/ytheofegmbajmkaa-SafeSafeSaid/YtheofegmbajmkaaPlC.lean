/-
  Layer 16, plan: what is deferred by Eval: it catches what is thrown. Conditions: as each theorem names.
-/
import Derived.Test.YtheofegmbajmkaaPlP
import Derived.Defers
import Derived.Recover
import Derived.Laws.Pointers
import Derived.RegionTactic
import Derived.Outline
namespace Go.Proofs.Ytheofegmbajmkaa.Pl
open Go.ChangeShapes Go.WideShapes Go.ChangeAt Go.RowKit Go.Proofs.Ytheofegmbajmkaa.Kit

/-- Nothing was thrown: nothing is done. -/
theorem catch_idle (p q : Addr) (w : World) :
    CallsD Try.prog 35 #[.pointer (some p), .pointer (some q)] .returning w fun e u' w' => e = .returned (.tuple #[]) ∧ u' = .returning ∧ w' = w := by
  refine callsD_of_wpS Try.func35 rfl fun c₀ cs hu => ?_
  apply wpS_seq
  apply wpS_region
  simp [wpOpsS, go_sem, recoverD, hu, Try.ntmps35, Exit.thenS]
  refine wpS_of_wp ?_
  go_wp2
  cases c₀
  simp_all [bodyPostS, results, Try.results35]

/-- An error was thrown: it is the answer. -/
def Caught (pb qb : Nat) (why : Int) (u : FrameMode) (w : World) (e : Ending) (u' : FrameMode) (w' : World) : Prop :=
  e = .returned (.tuple #[]) ∧ u' = u ∧ Block w' pb 30 #[.slice none 0 0] ∧ Block w' qb 26 #[.int .i64 why] ∧ TurnsIn (fun b => b = pb ∨ b = qb) w w'

set_option maxHeartbeats 1600000 in
theorem catch_thrown (pb qb : Nat) (v0 e0 : Value) (why : Int) (older : List PanicEntry) (w : World) (hne : pb ≠ qb) (hp : Block w pb 30 #[v0]) (hq : Block w qb 26 #[e0]) :
    CallsD Try.prog 35 #[.pointer (some ⟨pb, 0, none⟩), .pointer (some ⟨qb, 0, none⟩)] (.panicking ({ v := .iface 61 (.agg #[.int .i64 why]), recovered := false } :: older)) w
      (Caught pb qb why (.panicking ({ v := .iface 61 (.agg #[.int .i64 why]), recovered := true } :: older)) w) := by
  refine callsD_of_wpS Try.func35 rfl fun c₀ cs hu => ?_
  apply wpS_seq
  apply wpS_region
  simp [wpOpsS, go_sem, recoverD, hu, Try.ntmps35, Exit.thenS]
  refine wpS_of_wp ?_
  have blk := Block.new w 61 #[.int .i64 why]
  have hpA := hp.alloc (.cells #[.int .i64 why] 61)
  have hqA := hq.alloc (.cells #[.int .i64 why] 61)
  have hta : ∀ W : World, (Instr.typeAssert (.iface 61 (.agg #[.int .i64 why])) 20 61 true).run Try.prog W = .ok (.tuple #[.agg #[.int .i64 why], .bool true]) W := fun W => by kernel_rfl
  go_wp2
  have hn1 : w.heap.size ≠ pb := by have := hp.lt; omega
  have hn2 : w.heap.size ≠ qb := by have := hq.lt; omega
  have tA : TurnsIn (fun b => b = pb ∨ b = qb) w (w.alloc (.cells #[.int .i64 why] 61)) := (TurnsIn.refl _ w).alloc _
  clear hp hq
  generalize w.alloc (.cells #[.int .i64 why] 61) = wA at *
  have s0 := blk.cellOf 0 (u := .int .i64 why) rfl
  have s1 := hpA.cellOf 0 (u := v0) rfl
  have s2 := hqA.cellOf 0 (u := e0) rfl
  have z0 := hpA.frozen 0
  have z1 := hqA.frozen 0
  have f0 := fun u => (blk.far (p := ⟨pb, 0, none⟩) hn1 u).cellOf 0 (u := .int .i64 why) rfl
  have f1 := fun u => (hqA.far (p := ⟨pb, 0, none⟩) (Ne.symm hne) u).cellOf 0 (u := e0) rfl
  have f2 := fun u => (hqA.far (p := ⟨pb, 0, none⟩) (Ne.symm hne) u).frozen 0
  go_region
  all_goals
    have g1 := (hpA.set_ 0 (.slice none 0 0)).far (p := ⟨qb, 0, none⟩) hne (.int .i64 why)
    have g2 := (hqA.far (p := ⟨pb, 0, none⟩) (Ne.symm hne) (.slice none 0 0)).set_ 0 (.int .i64 why)
    have t2 := (((tA.setCell (p := ⟨pb, 0, none⟩) (.inl (.inl rfl)) (.slice none 0 0)).setCell (p := ⟨qb, 0, none⟩) (.inl (.inr rfl)) (.int .i64 why)).drewN 1)
    exact ⟨rfl, _, rfl, _, results_none rfl _ _ _, rfl, rfl, g1, g2, t2⟩
end Go.Proofs.Ytheofegmbajmkaa.Pl
