/-
  Layer 16, plan: what is deferred by Get: it catches what is thrown. Conditions: as each theorem names.
-/
import Derived.Test.YtjcofmeknpgjnaaPlC
import Derived.Test.YtjcofmeknpgjnaaPlU
namespace Go.Proofs.Ytjcofmeknpgjnaa.Pl
open Go.ChangeShapes Go.WideShapes Go.ChangeAt Go.RowKit Go.Proofs.Ytjcofmeknpgjnaa.Kit

set_option maxHeartbeats 3200000 in
/-- Nothing was thrown: nothing is done. -/
theorem catchG_idle (p q : Addr) (w : World) :
    CallsD Try.prog 23 #[.pointer (some p), .pointer (some q)] .returning w fun e u' w' => e = .returned (.tuple #[]) ∧ u' = .returning ∧ w' = w := by
  refine callsD_of_wpS Try.func23 rfl fun c₀ cs hu => ?_
  apply wpS_seq
  apply wpS_region
  simp [wpOpsS, go_sem, recoverD, hu, Try.ntmps23, Exit.thenS]
  refine wpS_of_wp ?_
  go_wp2
  cases c₀
  simp_all [bodyPostS, results, Try.results23]

/-- An error was thrown: it is the answer. -/
def CaughtG (pb qb : Nat) (why : Int) (u : FrameMode) (w : World) (e : Ending) (u' : FrameMode) (w' : World) : Prop :=
  e = .returned (.tuple #[]) ∧ u' = u ∧ Block w' pb 22 #[.slice none 0 0] ∧ Block w' qb 29 #[.int .i64 why] ∧ TurnsIn (fun b => b = pb ∨ b = qb) w w'

set_option maxHeartbeats 1600000 in
theorem catchG_missing (pb qb : Nat) (v0 e0 : Value) (older : List PanicEntry) (w : World) (hne : pb ≠ qb) (hp : Block w pb 22 #[v0]) (hq : Block w qb 29 #[e0]) :
    CallsD Try.prog 23 #[.pointer (some ⟨pb, 0, none⟩), .pointer (some ⟨qb, 0, none⟩)] (.panicking ({ v := .iface 50 (.agg #[]), recovered := false } :: older)) w
      (CaughtG pb qb 2 (.panicking ({ v := .iface 50 (.agg #[]), recovered := true } :: older)) w) := by
  refine callsD_of_wpS Try.func23 rfl fun c₀ cs hu => ?_
  apply wpS_seq
  apply wpS_region
  simp [wpOpsS, go_sem, recoverD, hu, Try.ntmps23, Exit.thenS]
  refine wpS_of_wp ?_
  have hpA := hp.alloc (.cells #[] 50)
  have hqA := hq.alloc (.cells #[] 50)
  have hta : ∀ W : World, (Instr.typeAssert (.iface 50 (.agg #[])) 20 50 true).run Try.prog W = .ok (.tuple #[.agg #[], .bool true]) W := fun W => by kernel_rfl
  have s1 := hpA.cellOf 0 (u := v0) rfl
  have s2 := hqA.cellOf 0 (u := e0) rfl
  have z0 := hpA.frozen 0
  have z1 := hqA.frozen 0
  have r1 := hp.cellOf 0 (u := v0) rfl
  have r2 := hq.cellOf 0 (u := e0) rfl
  have y0 := hp.frozen 0
  have y1 := hq.frozen 0
  go_wp2
  have g1 := (hpA.set_ 0 (.slice none 0 0)).far (p := ⟨qb, 0, none⟩) hne (.int .i64 2)
  have g2 := (hqA.far (p := ⟨pb, 0, none⟩) (Ne.symm hne) (.slice none 0 0)).set_ 0 (.int .i64 2)
  have t2 := (((TurnsIn.refl (fun b => b = pb ∨ b = qb) w).alloc (.cells #[] 50)).setCell (p := ⟨pb, 0, none⟩) (.inl (.inl rfl)) (.slice none 0 0)).setCell (p := ⟨qb, 0, none⟩) (.inl (.inr rfl)) (.int .i64 2)
  exact ⟨rfl, _, rfl, _, results_none rfl _ _ _, rfl, rfl, g1, g2, t2⟩

end Go.Proofs.Ytjcofmeknpgjnaa.Pl
