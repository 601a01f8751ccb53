/-
  Layer 16, plan: what is deferred by Get: it catches a refusal. Conditions: as each theorem names.
-/
import Derived.Test.YtjcofmeknpgjnaaPlC2
namespace Go.Proofs.Ytjcofmeknpgjnaa.Pl
open Go.ChangeShapes Go.WideShapes Go.ChangeAt Go.RowKit Go.Proofs.Ytjcofmeknpgjnaa.Kit

set_option maxHeartbeats 1600000 in
theorem catchG_broken (pb qb : Nat) (v0 e0 : Value) (why : Int) (older : List PanicEntry) (w : World) (hne : pb ≠ qb) (hp : Block w pb 22 #[v0]) (hq : Block w qb 29 #[e0]) :
    CallsD Try.prog 23 #[.pointer (some ⟨pb, 0, none⟩), .pointer (some ⟨qb, 0, none⟩)] (.panicking ({ v := .iface 52 (.agg #[.int .i64 why]), recovered := false } :: older)) w
      (CaughtG pb qb why (.panicking ({ v := .iface 52 (.agg #[.int .i64 why]), recovered := true } :: older)) w) := by
  refine callsD_of_wpS Try.func23 rfl fun c₀ cs hu => ?_
  apply wpS_seq
  apply wpS_region
  simp [wpOpsS, go_sem, recoverD, hu, Try.ntmps23, Exit.thenS]
  refine wpS_of_wp ?_
  have heq : ∀ W : World, (binOp .eql 20 (.iface 52 (.agg #[.int .i64 why])) .nilIface).run Try.prog W = .ok (.bool false) W := fun W => by kernel_rfl
  rw [show (#[Value.pointer (some ⟨pb, 0, none⟩), Value.pointer (some ⟨qb, 0, none⟩)] ++ (Array.replicate 15 undef).setIfInBounds 4 (Value.iface 52 (Value.agg #[Value.int IntKind.i64 why])) : Array Value) = #[Value.pointer (some ⟨pb, 0, none⟩), Value.pointer (some ⟨qb, 0, none⟩), undef, undef, undef, undef, Value.iface 52 (Value.agg #[Value.int IntKind.i64 why]), undef, undef, undef, undef, undef, undef, undef, undef, undef, undef] by rfl]
  have hpA := hp.alloc (.cells #[.int .i64 why] 52)
  have hqA := hq.alloc (.cells #[.int .i64 why] 52)
  have htm : ∀ W : World, (Instr.typeAssert (.iface 52 (.agg #[.int .i64 why])) 20 50 true).run Try.prog W = .ok (.tuple #[.agg #[], .bool false]) W := fun W => by kernel_rfl
  have hta : ∀ W : World, (Instr.typeAssert (.iface 52 (.agg #[.int .i64 why])) 20 52 true).run Try.prog W = .ok (.tuple #[.agg #[.int .i64 why], .bool true]) W := fun W => by kernel_rfl
  have blk := Block.new w 52 #[.int .i64 why]
  go_wp2
  have hn1 : w.heap.size ≠ pb := by have := hp.lt; omega
  have hn2 : w.heap.size ≠ qb := by have := hq.lt; omega
  have tA : TurnsIn (fun b => b = pb ∨ b = qb) w (w.alloc (.cells #[.int .i64 why] 52)) := (TurnsIn.refl _ w).alloc _
  clear hp hq
  generalize w.alloc (.cells #[.int .i64 why] 52) = wA at *
  have s0 := blk.cellOf 0 (u := .int .i64 why) rfl
  have s1 := hpA.cellOf 0 (u := v0) rfl
  have s2 := hqA.cellOf 0 (u := e0) rfl
  have z0 := hpA.frozen 0
  have z1 := hqA.frozen 0
  have f0 := fun u => (blk.far (p := ⟨pb, 0, none⟩) hn1 u).cellOf 0 (u := .int .i64 why) rfl
  have f1 := fun u => (hqA.far (p := ⟨pb, 0, none⟩) (Ne.symm hne) u).cellOf 0 (u := e0) rfl
  have f2 := fun u => (hqA.far (p := ⟨pb, 0, none⟩) (Ne.symm hne) u).frozen 0
  go_region
  all_goals
    have g1 := (hpA.set_ 0 (.slice none 0 0)).far (p := ⟨qb, 0, none⟩) hne (.int .i64 why)
    have g2 := (hqA.far (p := ⟨pb, 0, none⟩) (Ne.symm hne) (.slice none 0 0)).set_ 0 (.int .i64 why)
    have t2 := (((tA.setCell (p := ⟨pb, 0, none⟩) (.inl (.inl rfl)) (.slice none 0 0)).setCell (p := ⟨qb, 0, none⟩) (.inl (.inr rfl)) (.int .i64 why)).drewN 1)
    exact ⟨rfl, _, rfl, _, results_none rfl _ _ _, rfl, rfl, g1, g2, t2⟩
end Go.Proofs.Ytjcofmeknpgjnaa.Pl
