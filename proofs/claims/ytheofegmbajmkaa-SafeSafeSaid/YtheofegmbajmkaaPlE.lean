/-
  Layer 16, plan: what a step makes: contracts. Conditions: as each theorem names.
-/
import Derived.Test.YtheofegmbajmkaaPlM
import Derived.WalkLawsBesides
namespace Go.Proofs.Ytheofegmbajmkaa.Pl
open Go.ChangeShapes Go.WideShapes Go.ChangeAt Go.RowKit Go.Proofs.Ytheofegmbajmkaa.Kit

/-- The error is thrown. -/
def Throws (why : Int) (w : World) (e : Ending) (w' : World) : Prop := e = .panicked [{ v := .iface 61 (.agg #[.int .i64 why]), recovered := false }] ∧ Below w.heap.size w w'

theorem refuse_no (why : Int) (w : World) : Calls Try.prog 38 #[.bool false, .int .i64 why] w fun e w' => e = .returned (.tuple #[]) ∧ w = w' := by
  go_enter Try.func38, Try.ntmps38
  go_wp2
  go_end0
  exact ⟨rfl, rfl⟩

theorem refuse_yes (why : Int) (w : World) : Calls Try.prog 38 #[.bool true, .int .i64 why] w (Throws why w) := by
  go_enter Try.func38, Try.ntmps38
  go_wp2
  exact ⟨rfl, rfl, Below.refl _ _⟩

/-- Where the bytes are asked of: nil, or an image in memory. -/
def Src (w : World) : Value → Option (List Int) → Prop
  | v, none => v = .nilIface
  | v, some old => ∃ A c, v = .iface 50 (.slice A old.length c) ∧ old.length ≤ 1000000 ∧ old.length ≤ c ∧ c ≤ maxLen ∧ Octets old ∧ Holds w w.heap.size .u8 A old

theorem Src.below {w w' : World} {v : Value} {src : Option (List Int)} (h : Src w v src) (hb : Below w.heap.size w w') : Src w' v src := by
  cases src with
  | none => exact h
  | some old =>
    obtain ⟨A, c, rfl, h1, h2, h3, h4, h5⟩ := h
    exact ⟨A, c, rfl, h1, h2, h3, h4, (h5.below hb).more hb.size⟩

def addB (xs zs : List Int) : List Int := (List.range xs.length).map fun j => (xs.getD j 0 + zs.getD j 0) % 256
def madeO (src : Option (List Int)) (s : Stp) : Option (List Int) :=
  if s.a = 1 then some s.zs else match src with
    | none => none
    | some old => if okRange old s.b s.x = true then some (addB (rangeB old s.b s.x) s.zs) else none

def GivesH (ys : List Int) (w : World) (e : Ending) (w' : World) : Prop := ∃ A c, e = .returned (.slice A ys.length c) ∧ Holds w' w'.heap.size .u8 A ys ∧ Below w.heap.size w w'

set_option maxHeartbeats 1600000 in
theorem made_lit (n x : Int) (A : Option Addr) (zs : List Int) (c : Nat) (v : Value) (w : World) (hr : Holds w w.heap.size .u8 A zs) :
    Calls Try.prog 36 #[.agg #[.int .u8 1, .int .i64 n, .int .i64 x, .slice A zs.length c], v] w (GivesH zs w) := by
  have hb0 : Below w.heap.size w (w.alloc (.cells #[.int .u8 1, .int .i64 n, .int .i64 x, .slice A zs.length c] 41)) := (Below.refl _ _).alloc (Nat.le_refl _) _
  have hr0 := (hr.below hb0).more hb0.size
  go_enter Try.func36, Try.ntmps36
  go_wp2
  go_ret
  exact ⟨A, c, rfl, hr0, hb0⟩

set_option maxHeartbeats 1600000 in
theorem made_nil (a n x : Int) (A : Option Addr) (zs : List Int) (c : Nat) (w : World) (ha : a ≠ 1) :
    Calls Try.prog 36 #[.agg #[.int .u8 a, .int .i64 n, .int .i64 x, .slice A zs.length c], .nilIface] w (Throws 5 w) := by
  have hb0 : Below w.heap.size w (w.alloc (.cells #[.int .u8 a, .int .i64 n, .int .i64 x, .slice A zs.length c] 41)) := (Below.refl _ _).alloc (Nat.le_refl _) _
  have hab : (a == 1) = false := by rw [beq_eq_false_iff_ne]; exact ha
  clear ha
  go_enter Try.func36, Try.ntmps36
  go_wp2_with (go_at_call 38; refine (refuse_yes 5 _).mono ?_; rintro e w1 ⟨rfl, hb1⟩)
  exact ⟨rfl, rfl, hb0.trans (hb1.mono hb0.size)⟩

set_option maxHeartbeats 1600000 in
theorem made_out (a n x : Int) (A : Option Addr) (zs : List Int) (c : Nat) (Ao : Option Addr) (old : List Int) (co : Nat) (w : World) (ha : a ≠ 1) (hl : old.length ≤ 1000000) (hn : 0 ≤ n ∧ n ≤ 2147483647) (hx : 1 ≤ x ∧ x ≤ 4096) (h : okRange old n x = false) :
    Calls Try.prog 36 #[.agg #[.int .u8 a, .int .i64 n, .int .i64 x, .slice A zs.length c], .iface 50 (.slice Ao old.length co)] w (Throws 5 w) := by
  have blk := Block.new w 41 #[.int .u8 a, .int .i64 n, .int .i64 x, .slice A zs.length c]
  have hb0 : Below w.heap.size w (w.alloc (.cells #[.int .u8 a, .int .i64 n, .int .i64 x, .slice A zs.length c] 41)) := (Below.refl _ _).alloc (Nat.le_refl _) _
  have hab : (a == 1) = false := by rw [beq_eq_false_iff_ne]; exact ha
  have G := Lib.hid (fun W => range_no Ao old co n x W (by omega) (by omega) hl h)
  clear ha h
  go_enter Try.func36, Try.ntmps36
  have hm : ∀ (W : World) (v : Value), (method 183 50 v "Range").run Try.prog W = .ok (55, v) W := fun W v => by kernel_rfl
  go_wp2_with (first
    | (go_at_call 38; (with_reducible refine (refuse_no 5 _).mono ?_); rintro e w1 ⟨rfl, rfl⟩)
    | (go_at_call 55; refine (G.out _).mono ?_; rintro e w1 ⟨A1, c1, rfl, hr1, hl1, hm1, hb1⟩)
    | (go_at_call 38; (with_reducible refine (refuse_yes 5 _).mono ?_); rintro e w2 ⟨rfl, hb2⟩))
  exact ⟨rfl, rfl, (hb0.trans (hb1.mono hb0.size)).trans (hb2.mono (hb0.trans (hb1.mono hb0.size)).size)⟩
end Go.Proofs.Ytheofegmbajmkaa.Pl
