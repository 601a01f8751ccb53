/-
  Layer 6, sector: Clone, New, Read: contracts. Conditions: as each theorem names.
-/
import Derived.Test.YtpnodocjpedcmaaDoorSeD
import Derived.Lib.SliceRun
namespace Go.Proofs.YtpnodocjpedcmaaDoor.Sec
open Go.ChangeShapes Go.WideShapes Go.ChangeAt Go.RowKit Go.Proofs.YtpnodocjpedcmaaDoor.Kit Go.Maps

theorem elem8 : IntElem Tryd.prog 22 5 .u8 1 := ⟨Tryd.underlying22, by kernel_rfl, by decide⟩

set_option maxRecDepth 100000 in
/-- slices.Clone of bytes that are not nil: a new row. -/
theorem clone_any (b off : Nat) (xs : List Int) (c : Nat) (w : World) (hx : xs.length ≤ 1000000000) (hr : Holds w w.heap.size .u8 (some ⟨b, off, none⟩) xs) :
    Calls Tryd.prog 42 #[.slice (some ⟨b, off, none⟩) xs.length c] w fun e w' => ∃ v, e = .returned v ∧ Own w' w.heap.size 5 .u8 v xs ∧ Below w.heap.size w w' := by
  have own0 : Own (w.alloc (.cells #[] 5)) w.heap.size 5 .u8 (.slice (some ⟨w.heap.size, 0, none⟩) 0 0) [] := Own.empty w 5 .u8 (Nat.le_refl _)
  have B0 : Below w.heap.size w (w.alloc (.cells #[] 5)) := (Below.refl _ _).alloc (Nat.le_refl _) _
  have hr0 := hr.below B0
  have q := fun W => Lib.run_eql_slice_nil (P := Tryd.prog) W 22 5 (some ⟨b, off, none⟩) xs.length c 0 0 Tryd.underlying22
  clear hr
  go_enter Tryd.func42, Tryd.ntmps42
  go_wp2_with (at_builtin; refine wpList_append_ints (ys := xs) _ rfl _ _ 22 rfl elem8 own0 rfl rfl hr0 (by simp; omega) B0.size ?_; intro v7 w7 own7 g7 hb7 _)
  go_ret
  exact ⟨_, rfl, own7, B0.trans hb7⟩

def Dv.new (size count : Nat) : Dv := ⟨size, count, [], [], false, 0, -1, 0⟩
theorem Dv.new_ok {size count : Nat} (h1 : 128 ≤ size) (h2 : size ≤ 4096) (h3 : 1 ≤ count) (h4 : count ≤ 1048576) : (Dv.new size count).Ok :=
  ⟨h1, h2, h3, h4, up_nil, up_nil, fun _ h => (List.not_mem_nil h).elim, fun _ h => (List.not_mem_nil h).elim, fun _ h => (List.not_mem_nil h).elim, Int.le_refl _, by show (-1 : Int) ≤ _; omega, Int.le_refl _, Int.le_refl _⟩
/-- A device that is new. -/
def NewDev (I : Nat → Prop) (s : Dv) (w : World) (e : Ending) (w' : World) : Prop :=
  ∃ a mk mw, e = .returned (.tuple #[.pointer (some ⟨a, 0, none⟩), .int .i64 0]) ∧ DvAt w' I a mk mw s ∧ Below w.heap.size w w' ∧ w.heap.size ≤ a ∧ w.heap.size ≤ mk ∧ w.heap.size ≤ mw

set_option maxHeartbeats 1600000 in
theorem new_any (I : Nat → Prop) (size count : Nat) (w : World) (h1 : 128 ≤ size) (h2 : size ≤ 4096) (h3 : 1 ≤ count) (h4 : count ≤ 1048576) :
    Calls Tryd.prog 10 #[.int .i64 size, .int .i64 count] w (NewDev I (Dv.new size count) w) := by
  have hmm := fun W t => @run_makeMap Tryd.prog W t
  go_enter Tryd.func10, Tryd.ntmps10
  go_wp2
  go_ret2
  have K1 : MapAt (w.alloc (.map #[] 0)) I RK w.heap.size size [] := MapAt.made w I RK size
  have B1 : Below w.heap.size w (w.alloc (.map #[] 0)) := (Below.refl _ _).alloc (Nat.le_refl _) _
  have z1 : (w.alloc (.map #[] 0)).heap.size = w.heap.size + 1 := by simp
  have W2 : MapAt ((w.alloc (.map #[] 0)).alloc (.map #[] 0)) I RW (w.heap.size + 1) size [] := by
    have := MapAt.made (w.alloc (.map #[] 0)) I RW size
    rw [z1] at this
    exact this
  have T2 : TurnsIn (fun _ => False) (w.alloc (.map #[] 0)) ((w.alloc (.map #[] 0)).alloc (.map #[] 0)) := (TurnsIn.refl _ _).alloc _
  have K2 := K1.out T2 id (fun _ h => h.elim)
  have z2 : ((w.alloc (.map #[] 0)).alloc (.map #[] 0)).heap.size = w.heap.size + 1 + 1 := by simp
  have B2 := B1.alloc B1.size (.map #[] 0)
  have T3 : TurnsIn (fun _ => False) ((w.alloc (.map #[] 0)).alloc (.map #[] 0)) (((w.alloc (.map #[] 0)).alloc (.map #[] 0)).alloc (.cells ((Dv.new size count).cells w.heap.size (w.heap.size + 1)) 91)) := (TurnsIn.refl _ _).alloc _
  have D3 : Block (((w.alloc (.map #[] 0)).alloc (.map #[] 0)).alloc (.cells ((Dv.new size count).cells w.heap.size (w.heap.size + 1)) 91)) (w.heap.size + 1 + 1) 91 ((Dv.new size count).cells w.heap.size (w.heap.size + 1)) := by
    have := Block.new ((w.alloc (.map #[] 0)).alloc (.map #[] 0)) 91 ((Dv.new size count).cells w.heap.size (w.heap.size + 1))
    rw [z2] at this
    exact this
  exact ⟨_, _, _, rfl, ⟨D3, K2.out T3 id (fun _ h => h.elim), W2.out T3 id (fun _ h => h.elim), by omega, Dv.new_ok h1 h2 h3 h4⟩, B2.alloc B2.size _, by omega, by omega, by omega⟩
end Go.Proofs.YtpnodocjpedcmaaDoor.Sec
