/-
  Layer 8, bits: the document's row of bytes. Conditions: as the theorem names.
  Layer 8, bits: a reader. Conditions: as each theorem names.
-/
import Derived.Test.YthflefdchgpbdaaDoorMBitN
import Derived.Test.YthflefdchgpbdaaDoorMGIlls0
namespace Go.Proofs.YthflefdchgpbdaaDoor.Bits
open Go.ChangeShapes Go.WideShapes Go.ChangeAt Go.RowKit Go.Proofs.YthflefdchgpbdaaDoor.Kit

end Go.Proofs.YthflefdchgpbdaaDoor.Bits

namespace Go.Proofs.YthflefdchgpbdaaDoor.Bits
open Go.ChangeShapes Go.WideShapes Go.ChangeAt Go.RowKit Go.Proofs.YthflefdchgpbdaaDoor.Kit

/-- The reader at block g stands at bit p of the bytes bs, its row v. -/
structure Rd (w : World) (B g : Nat) (v : Value) (bs : List Int) (p : Nat) : Prop where
  blk : Block w g 68 #[v, .int .i64 (p : Int)]
  own : Own w B 5 .u8 v bs
  le : p ≤ 8 * bs.length

theorem Rd.out {S : Nat → Prop} {w w' : World} {B g : Nat} {v : Value} {bs : List Int} {p : Nat} (h : Rd w B g v bs p) (ho : TurnsIn S w w') (hg : ¬ S g) (hv : ∀ b, v.ownBlock = some b → ¬ S b) : Rd w' B g v bs p := ⟨h.blk.out ho hg, h.own.out ho hv, h.le⟩
theorem Rd.below {w w' : World} {B g : Nat} {v : Value} {bs : List Int} {p : Nat} (h : Rd w B g v bs p) (hb : Below w.heap.size w w') : Rd w' B g v bs p := ⟨h.blk.below hb h.blk.lt, h.own.below hb, h.le⟩
theorem Rd.set {w : World} {B g : Nat} {v : Value} {bs : List Int} {p q : Nat} (h : Rd w B g v bs p) (hq : q ≤ 8 * bs.length) : Rd (w.setCell ⟨g, 1, none⟩ (.int .i64 (q : Int))) B g v bs q := by
  have t := (TurnsIn.refl (· = g) w).setCell (p := ⟨g, 1, none⟩) (.inl rfl) (.int .i64 (q : Int))
  exact ⟨h.blk.set_ 1 _, h.own.out t (fun b hb he => h.own.ne_block h.blk (by decide) (he ▸ hb)), hq⟩

def Made (bs : List Int) (w : World) (e : Ending) (w' : World) : Prop := ∃ g v, e = .returned (.pointer (some ⟨g, 0, none⟩)) ∧ w.heap.size ≤ g ∧ Rd w' w.heap.size g v bs 0 ∧ Below w.heap.size w w'

theorem newr_any (A : Option Addr) (bs : List Int) (c : Nat) (w : World) (hl : bs.length ≤ 1000000) (hr : Holds w w.heap.size .u8 A bs) :
    Calls Tryd.prog 19 #[.slice A bs.length c] w (Made bs w) := by
  go_enter Tryd.func19, Tryd.ntmps19
  go_wp2_with (at_builtin; refine wpList_append_ints (xs := []) (ys := bs) _ rfl _ _ _ rfl elem8 (Own.nil w w.heap.size _ _) rfl rfl hr (by simp; omega) (Nat.le_refl _) ?_; intro v3 w3 own3 hg3 hb3 hv3; obtain ⟨A3, c3, rfl, _, _, _⟩ := own3.opened)
  go_ret
  exact ⟨_, _, rfl, hb3.size, ⟨Block.new w3 _ _, own3.alloc _, Nat.zero_le _⟩, hb3.alloc hb3.size _⟩

theorem left_any (B g : Nat) (v : Value) (bs : List Int) (p : Nat) (w : World) (R : Rd w B g v bs p) (hl : bs.length ≤ 1000000) :
    Calls Tryd.prog 36 #[.pointer (some ⟨g, 0, none⟩)] w fun e w' => e = .returned (.int .i64 (8 * (bs.length : Int) - (p : Int))) ∧ Below w.heap.size w w' := by
  obtain ⟨A, c, rfl, _, _, _⟩ := R.own.opened
  have c0 : w.cell? ⟨g, 0, none⟩ = some (.slice A bs.length c) := R.blk.cell 0
  have c1 : w.cell? ⟨g, 1, none⟩ = some (.int .i64 (p : Int)) := R.blk.cell 1
  have hp := R.le
  clear R
  go_enter Tryd.func36, Tryd.ntmps36
  go_wp2_with fail
  go_quiet (fail)
  go_wp2_with fail
  go_ret
  exact ⟨rfl, below_draws (Below.refl _ _) _⟩

theorem at_any (B g : Nat) (v : Value) (bs : List Int) (p : Nat) (w : World) (R : Rd w B g v bs p) :
    Calls Tryd.prog 22 #[.pointer (some ⟨g, 0, none⟩)] w fun e w' => e = .returned (.int .i64 (p : Int)) ∧ w = w' := by
  have c1 : w.cell? ⟨g, 1, none⟩ = some (.int .i64 (p : Int)) := R.blk.cell 1
  clear R
  go_enter Tryd.func22, Tryd.ntmps22
  go_wp2_with fail
  go_ret
  exact ⟨rfl, rfl⟩

theorem ralign_any (B g : Nat) (v : Value) (bs : List Int) (p : Nat) (w : World) (R : Rd w B g v bs p) (hl : bs.length ≤ 1000000) :
    Calls Tryd.prog 34 #[.pointer (some ⟨g, 0, none⟩)] w fun e w' => e = .returned (.tuple #[]) ∧ Rd w' B g v bs ((p + 7) / 8 * 8) ∧ TurnsIn (· = g) w w' := by
  have c1 : w.cell? ⟨g, 1, none⟩ = some (.int .i64 (p : Int)) := R.blk.cell 1
  have hp := R.le
  have hfr := R.blk.frozen 1
  have he : ((p : Int) + 7) / 8 * 8 = (((p + 7) / 8 * 8 : Nat) : Int) := by omega
  have hle : (p + 7) / 8 * 8 ≤ 8 * bs.length := by omega
  generalize (p + 7) / 8 * 8 = q at *
  have R' := R.set (q := q) hle
  have t := (TurnsIn.refl (· = g) w).setCell (p := ⟨g, 1, none⟩) (.inl rfl) (.int .i64 (q : Int))
  clear R
  go_enter Tryd.func34, Tryd.ntmps34
  go_wp2_with fail
  go_end0
  exact ⟨rfl, R', t⟩

theorem seek_no (B g : Nat) (v : Value) (bs : List Int) (p : Nat) (n : Int) (w : World) (R : Rd w B g v bs p) (hl : bs.length ≤ 1000000) (hn : n < 0 ∨ 8 * (bs.length : Int) < n) :
    Calls Tryd.prog 20 #[.pointer (some ⟨g, 0, none⟩), .int .i64 n] w fun e w' => e = .returned (.int .i64 5) ∧ w = w' := by
  obtain ⟨A, c, rfl, _, _, _⟩ := R.own.opened
  have c0 : w.cell? ⟨g, 0, none⟩ = some (.slice A bs.length c) := R.blk.cell 0
  clear R
  by_cases h0 : n < 0
  · have d0 : decide (n < 0) = true := decide_eq_true h0
    go_enter Tryd.func20, Tryd.ntmps20
    go_wp2_with fail
    go_ret
    exact ⟨rfl, rfl⟩
  · have d0 : decide (n < 0) = false := decide_eq_false h0
    have d1 : decide (8 * (bs.length : Int) < n) = true := decide_eq_true (by omega)
    go_enter Tryd.func20, Tryd.ntmps20
    go_wp2_with fail
    go_ret
    exact ⟨rfl, rfl⟩

theorem seek_yes (B g : Nat) (v : Value) (bs : List Int) (p n : Nat) (w : World) (R : Rd w B g v bs p) (hl : bs.length ≤ 1000000) (hn : n ≤ 8 * bs.length) :
    Calls Tryd.prog 20 #[.pointer (some ⟨g, 0, none⟩), .int .i64 (n : Int)] w fun e w' => e = .returned (.int .i64 0) ∧ Rd w' B g v bs n ∧ TurnsIn (· = g) w w' := by
  obtain ⟨A, c, rfl, _, _, _⟩ := R.own.opened
  have c0 : w.cell? ⟨g, 0, none⟩ = some (.slice A bs.length c) := R.blk.cell 0
  have c1 : w.cell? ⟨g, 1, none⟩ = some (.int .i64 (p : Int)) := R.blk.cell 1
  have hfr := R.blk.frozen 1
  have R' := R.set (q := n) hn
  have t := (TurnsIn.refl (· = g) w).setCell (p := ⟨g, 1, none⟩) (.inl rfl) (.int .i64 (n : Int))
  have d0 : decide ((n : Int) < 0) = false := decide_eq_false (by omega)
  have d1 : decide (8 * (bs.length : Int) < n) = false := decide_eq_false (by omega)
  clear R
  go_enter Tryd.func20, Tryd.ntmps20
  go_wp2_with fail
  go_ret
  exact ⟨rfl, R', t⟩
end Go.Proofs.YthflefdchgpbdaaDoor.Bits
