/-
  Layer 13, inflate: what a reading puts off, and catches: the program's contracts. Conditions: as each theorem names.
-/
import Derived.Test.YthflefdchgpbdaaDoorMInI
import Derived.Defers
import Derived.Recover
import Derived.Laws.Pointers
import Derived.RegionTactic
import Derived.Outline
import Derived.Deep.Cut
import Derived.Deep.LoopGhost
namespace Go.Proofs.YthflefdchgpbdaaDoor.Inf
open Go.ChangeShapes Go.WideShapes Go.ChangeAt Go.RowKit Go.Proofs.YthflefdchgpbdaaDoor.Kit Go.Proofs.YthflefdchgpbdaaDoor.Bits Go.Proofs.YthflefdchgpbdaaDoor.Huf Go.Proofs.YthflefdchgpbdaaDoor.Df

theorem results_none' {fn : Func} (h : fn.results = #[]) (tmps : Array Value) (w : World) : (results fn tmps).run Tryd.prog w = .ok (.tuple #[]) w := by
  simp [results, h, go_sem]
set_option maxHeartbeats 6400000 in
/-- Nothing was thrown: nothing is done. -/
theorem catchR_idle (b3 b5 b4 : Nat) (w : World) :
    CallsD Tryd.prog 30 #[.pointer (some ⟨b3, 0, none⟩), .pointer (some ⟨b5, 0, none⟩), .pointer (some ⟨b4, 0, none⟩)] .returning w fun e u' w' => e = .returned (.tuple #[]) ∧ u' = .returning ∧ w' = w := by
  refine callsD_of_wpS Tryd.func30 rfl fun c₀ cs hu => ?_
  apply wpS_seq
  apply wpS_region
  simp [wpOpsS, go_sem, recoverD, hu, Tryd.ntmps30, Exit.thenS]
  refine wpS_of_wp ?_
  rw [show (#[Value.pointer (some ⟨b3, 0, none⟩), Value.pointer (some ⟨b5, 0, none⟩), Value.pointer (some ⟨b4, 0, none⟩)] ++ (Array.replicate 18 undef).setIfInBounds 4 Value.nilIface : Array Value) = #[Value.pointer (some ⟨b3, 0, none⟩), Value.pointer (some ⟨b5, 0, none⟩), Value.pointer (some ⟨b4, 0, none⟩), undef, undef, undef, undef, Value.nilIface, undef, undef, undef, undef, undef, undef, undef, undef, undef, undef, undef, undef, undef] from rfl]
  have heq : ∀ W : World, (binOp .eql 20 .nilIface .nilIface).run Tryd.prog W = .ok (.bool true) W := fun W => by kernel_rfl
  go_wp2_with fail
  cases c₀
  simp_all [bodyPostS, results, Tryd.results30]

set_option maxHeartbeats 6400000 in
theorem catchR_missing (b3 b5 b4 B g n q : Nat) (v : Value) (bs : List Int) (older : List PanicEntry) (w : World) (h3 : Block w b3 48 #[.pointer (some ⟨g, 0, none⟩)]) (h5 : Block w b5 3 #[.int .i64 (n : Int)]) (R : Rd w B g v bs q) (hl : bs.length ≤ 1000000) (hn : n ≤ 8 * bs.length) :
    CallsD Tryd.prog 30 #[.pointer (some ⟨b3, 0, none⟩), .pointer (some ⟨b5, 0, none⟩), .pointer (some ⟨b4, 0, none⟩)] (.panicking ({ v := .iface 70 (.agg #[]), recovered := false } :: older)) w
      (fun e u' w' => e = .returned (.tuple #[]) ∧ u' = .panicking ({ v := .iface 70 (.agg #[]), recovered := true } :: older) ∧ Rd w' B g v bs n ∧ TurnsIn (· = g) w w') := by
  refine callsD_of_wpS Tryd.func30 rfl fun c₀ cs hu => ?_
  apply wpS_seq
  apply wpS_region
  simp [wpOpsS, go_sem, recoverD, hu, Tryd.ntmps30, Exit.thenS]
  refine wpS_of_wp ?_
  rw [show (#[Value.pointer (some ⟨b3, 0, none⟩), Value.pointer (some ⟨b5, 0, none⟩), Value.pointer (some ⟨b4, 0, none⟩)] ++ (Array.replicate 18 undef).setIfInBounds 4 (Value.iface 70 (Value.agg #[])) : Array Value) = #[Value.pointer (some ⟨b3, 0, none⟩), Value.pointer (some ⟨b5, 0, none⟩), Value.pointer (some ⟨b4, 0, none⟩), undef, undef, undef, undef, Value.iface 70 (Value.agg #[]), undef, undef, undef, undef, undef, undef, undef, undef, undef, undef, undef, undef, undef] from rfl]
  have heq : ∀ W : World, (binOp .eql 20 (.iface 70 (.agg #[])) .nilIface).run Tryd.prog W = .ok (.bool false) W := fun W => by kernel_rfl
  have ht0 : ∀ W : World, (Instr.typeAssert (.iface 70 (.agg #[])) 20 70 true).run Tryd.prog W = .ok (.tuple #[.agg #[], .bool true]) W := fun W => by kernel_rfl
  have b1 : Below w.heap.size w (w.alloc (.cells #[] 70)) := (Below.refl _ _).alloc (Nat.le_refl _) _
  have c3 := ((h3.alloc (.cells #[] 70)).cell 0).trans (show _ = some (Value.pointer (some ⟨g, 0, none⟩)) from rfl)
  have c5 := ((h5.alloc (.cells #[] 70)).cell 0).trans (show _ = some (Value.int .i64 (n : Int)) from rfl)
  have GS := Lib.hid (seek_yes B g v bs q n _ (R.below b1) hl hn)
  have B1 := Lib.hid b1
  clear b1 h3 h5 R
  go_wp2_with fail
  refine GS.out.mono ?_
  rintro e w2 ⟨rfl, R2, t2⟩
  have R2h := Lib.hid R2
  have T2 := Lib.hid ((TurnsIn.ofNew B1.out).trans t2)
  clear R2 t2
  go_wp2_with fail
  exact ⟨rfl, _, rfl, _, results_none' rfl _ _, rfl, rfl, R2h.out, T2.out⟩

set_option maxHeartbeats 6400000 in
theorem catchR_broken (b3 b5 b4 : Nat) (why : Int) (e0 : Value) (older : List PanicEntry) (w : World) (h4 : Block w b4 24 #[e0]) :
    CallsD Tryd.prog 30 #[.pointer (some ⟨b3, 0, none⟩), .pointer (some ⟨b5, 0, none⟩), .pointer (some ⟨b4, 0, none⟩)] (.panicking ({ v := .iface 72 (.agg #[.int .i64 why]), recovered := false } :: older)) w
      (fun e u' w' => e = .returned (.tuple #[]) ∧ u' = .panicking ({ v := .iface 72 (.agg #[.int .i64 why]), recovered := true } :: older) ∧ Block w' b4 24 #[.int .i64 why] ∧ TurnsIn (· = b4) w w') := by
  refine callsD_of_wpS Tryd.func30 rfl fun c₀ cs hu => ?_
  apply wpS_seq
  apply wpS_region
  simp [wpOpsS, go_sem, recoverD, hu, Tryd.ntmps30, Exit.thenS]
  refine wpS_of_wp ?_
  rw [show (#[Value.pointer (some ⟨b3, 0, none⟩), Value.pointer (some ⟨b5, 0, none⟩), Value.pointer (some ⟨b4, 0, none⟩)] ++ (Array.replicate 18 undef).setIfInBounds 4 (Value.iface 72 (Value.agg #[Value.int .i64 why])) : Array Value) = #[Value.pointer (some ⟨b3, 0, none⟩), Value.pointer (some ⟨b5, 0, none⟩), Value.pointer (some ⟨b4, 0, none⟩), undef, undef, undef, undef, Value.iface 72 (Value.agg #[Value.int .i64 why]), undef, undef, undef, undef, undef, undef, undef, undef, undef, undef, undef, undef, undef] from rfl]
  have heq : ∀ W : World, (binOp .eql 20 (.iface 72 (.agg #[.int .i64 why])) .nilIface).run Tryd.prog W = .ok (.bool false) W := fun W => by kernel_rfl
  have ht0 : ∀ W : World, (Instr.typeAssert (.iface 72 (.agg #[.int .i64 why])) 20 70 true).run Tryd.prog W = .ok (.tuple #[.agg #[], .bool false]) W := fun W => by kernel_rfl
  have ht1 : ∀ W : World, (Instr.typeAssert (.iface 72 (.agg #[.int .i64 why])) 20 72 true).run Tryd.prog W = .ok (.tuple #[.agg #[.int .i64 why], .bool true]) W := fun W => by kernel_rfl
  have h4A := h4.alloc (.cells #[.int .i64 why] 72)
  have bn := Block.new w 72 #[.int .i64 why]
  have s1 := (bn.cell 0).trans (show _ = some (Value.int .i64 why) from rfl)
  have s2 := (h4A.cell 0).trans (show _ = some e0 from rfl)
  have z1 := h4A.frozen 0
  go_wp2_with fail
  have g2 := h4A.set_ 0 (.int .i64 why)
  have t2 := ((TurnsIn.refl (· = b4) w).alloc (.cells #[.int .i64 why] 72)).setCell (p := ⟨b4, 0, none⟩) (.inl rfl) (.int .i64 why)
  exact ⟨rfl, _, rfl, _, results_none' rfl _ _, rfl, rfl, g2, t2⟩
end Go.Proofs.YthflefdchgpbdaaDoor.Inf
