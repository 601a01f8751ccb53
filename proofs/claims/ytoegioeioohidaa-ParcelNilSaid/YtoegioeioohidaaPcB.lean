/-
  Layer 23, parcel: a new parser, its first four bytes, and none: contracts. Conditions: as each theorem names.
-/
import Derived.Test.YtoegioeioohidaaPcA
namespace Go.Proofs.Ytoegioeioohidaa.Pc
open Go.ChangeShapes Go.WideShapes Go.ChangeAt Go.RowKit Go.Conc Go.Proofs.Ytoegioeioohidaa.Kit Go.Proofs.Ytoegioeioohidaa.Bits

theorem bytes_row : ∃ i, Try.prog.info? 22 = some i ∧ i.bytes = 24 := by
  have h : (Try.prog.info? 22).map (·.bytes) = some 24 := by kernel_rfl
  obtain ⟨i, hi, hb⟩ := Option.map_eq_some_iff.1 h
  exact ⟨i, hi, hb⟩
theorem mk_chan (w : World) : (Instr.makeChan 47 (.int .i64 1)).run Try.prog w = .ok (.chan (some w.heap.size)) (w.alloc (.chan 1 #[] false 0 0 false)) := by
  obtain ⟨i, hi, hb⟩ := bytes_row
  simpa using run_makeChan (P := Try.prog) (w := w) Try.underlying47 hi .i64 1 (by omega) (by rw [hb]; omega)
def NewP (w : World) (e : Ending) (w' : World) : Prop := e = .returned (.pointer (some ⟨w.heap.size + 1, 0, none⟩)) ∧ Block w' (w.heap.size + 1) 50 (pC (.slice none 0 0) 4 w.heap.size 0) ∧ w'.heap[w.heap.size]? = some (.chan 1 #[] false 0 0 false) ∧ Below w.heap.size w w'
set_option maxHeartbeats 1600000 in
theorem new_any (w : World) : Calls Try.prog 14 #[] w (NewP w) := by
  have hmc := mk_chan
  have h1 : ((w.alloc (.chan 1 #[] false 0 0 false)).alloc (.cells (pC (.slice none 0 0) 4 w.heap.size 0) 50)).heap[w.heap.size]? = some (.chan 1 #[] false 0 0 false) :=
    (((Below.refl (w.alloc (.chan 1 #[] false 0 0 false)).heap.size (w.alloc (.chan 1 #[] false 0 0 false))).alloc (Nat.le_refl _) (.cells (pC (.slice none 0 0) 4 w.heap.size 0) 50)).block w.heap.size (by simp)).trans (heap_alloc_new w _)
  have h2 : Block ((w.alloc (.chan 1 #[] false 0 0 false)).alloc (.cells (pC (.slice none 0 0) 4 w.heap.size 0) 50)) (w.heap.size + 1) 50 (pC (.slice none 0 0) 4 w.heap.size 0) := by
    have := Block.new (w.alloc (.chan 1 #[] false 0 0 false)) 50 (pC (.slice none 0 0) 4 w.heap.size 0)
    rwa [show (w.alloc (.chan 1 #[] false 0 0 false)).heap.size = w.heap.size + 1 by simp] at this
  have h3 : Below w.heap.size w ((w.alloc (.chan 1 #[] false 0 0 false)).alloc (.cells (pC (.slice none 0 0) 4 w.heap.size 0) 50)) := ((Below.refl _ _).alloc (Nat.le_refl _) _).alloc (by simp) _
  have HF := Lib.hid (And.intro h2 (And.intro h1 h3))
  clear h1 h2 h3
  go_enter Try.func14, Try.ntmps14
  go_wp2
  go_ret
  exact ⟨rfl, HF.out.1, HF.out.2.1, HF.out.2.2⟩
set_option maxRecDepth 100000 in
set_option maxHeartbeats 1600000 in
theorem done_new (p c : Nat) (hd : Value) (er : Int) (w : World) (hp : Block w p 50 (pC hd 4 c er)) : Calls Try.prog 10 #[.pointer (some ⟨p, 0, none⟩)] w fun e w' => e = .returned (.bool false) ∧ Below w.heap.size w w' := by
  have k7 : ∀ n, (w.drewN n).cell? ⟨p, 7, none⟩ = some (.bool false) := fun n => (hp.drewN n).cell 7
  have hb : ∀ n, Below w.heap.size w (w.drewN n) := fun n => below_draws (Below.refl _ _) n
  have HB := Lib.hid hb
  clear hb hp
  go_enter Try.func10, Try.ntmps10
  go_wp2_with fail
  go_quiet (fail)
  go_wp2_with fail
  go_ret
  exact ⟨rfl, HB.out _⟩
set_option maxRecDepth 100000 in
set_option maxHeartbeats 1600000 in
theorem look_bad (p c : Nat) (A : Option Addr) (c' : Nat) (w : World) (hp : Block w p 50 (pC (.slice A 4 c') 4 c 0)) (h : Holds w w.heap.size .u8 A [68, 82, 71, 88]) : Calls Try.prog 17 #[.pointer (some ⟨p, 0, none⟩)] w fun e w' => e = .returned (.int .i64 3) ∧ w' = w := by
  have k0 : w.cell? ⟨p, 0, none⟩ = some (.slice A 4 c') := hp.cell 0
  have k2 : w.cell? ⟨p, 2, none⟩ = some (.int .u8 0) := hp.cell 2
  have cv : (convert 22 9 (.slice A 4 c')).run Try.prog w = .ok (.string (strOfNums [68, 82, 71, 88])) w := conv_any w A [68, 82, 71, 88] c' _ h
  have hs : (strOfNums [68, 82, 71, 88]).toList = [68, 82, 71, 88] := by decide +kernel
  generalize strOfNums [68, 82, 71, 88] = S at *
  clear hp h
  go_enter Try.func17, Try.ntmps17
  go_wp2
  go_ret
  exact ⟨rfl, rfl⟩
end Go.Proofs.Ytoegioeioohidaa.Pc
