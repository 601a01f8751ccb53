/-
  Layer 24, journal: whether a record may be: contracts. Conditions: as each theorem names.
-/
import Derived.Test.YtpnodocjpedcmaaDoorMJrA
import Derived.Test.YtpnodocjpedcmaaDoorMGIays0
namespace Go.Proofs.YtpnodocjpedcmaaDoor.Jr
open Go.ChangeShapes Go.WideShapes Go.ChangeAt Go.RowKit Go.Proofs.YtpnodocjpedcmaaDoor.Kit

theorem below_last (w : World) (o : Obj) : Below w.heap.size w (w.alloc o) := (Below.refl _ _).alloc (Nat.le_refl _) _
/-- May a record be, test by test. -/
theorem may_two (r : Rec) : r.may = ([r.len, r.nl, r.dn, r.blk, r.asz].all inB && ([r.st, r.md].all (fun n => decide (n ≤ 3)) && decide (r.act ≤ 1))) := by
  unfold Rec.may
  simp only [List.all_cons, List.all_nil, Bool.and_true]
  by_cases h1 : r.act ≤ 1 <;> by_cases h2 : r.st ≤ 3 <;> by_cases h3 : r.md ≤ 3 <;> simp [h1, h2, h3, Bool.and_assoc]

/-- A record lies in block g. -/
def RecAt (w : World) (g : Nat) (r : Rec) : Prop := Block w g 50 r.cells.toArray
theorem RecAt.lt {w : World} {g : Nat} {r : Rec} (h : RecAt w g r) : g < w.heap.size := Block.lt h
theorem RecAt.alloc {w : World} {g : Nat} {r : Rec} (h : RecAt w g r) (o : Obj) : RecAt (w.alloc o) g r := Block.alloc h o
theorem RecAt.below {w w' : World} {B g : Nat} {r : Rec} (h : RecAt w g r) (hb : Below B w w') (hg : g < B) : RecAt w' g r := Block.below h hb hg
theorem RecAt.back {w : World} {g : Nat} {r : Rec} (h : RecAt w g r) (hm : r.man.length = 32) :
    w.cell? ⟨g, 38, none⟩ = some (.int .u64 r.nv) ∧ w.cell? ⟨g, 39, none⟩ = some (.int .i64 r.nl) ∧ w.cell? ⟨g, 40, none⟩ = some (.int .i64 r.dn) ∧ w.cell? ⟨g, 41, none⟩ = some (.int .u64 r.at_) ∧ w.cell? ⟨g, 42, none⟩ = some (.int .i64 r.blk) ∧ w.cell? ⟨g, 43, none⟩ = some (.int .i64 r.asz) :=
  ⟨(h.cell 38).trans (back_cell r hm 0), (h.cell 39).trans (back_cell r hm 1), (h.cell 40).trans (back_cell r hm 2), (h.cell 41).trans (back_cell r hm 3), (h.cell 42).trans (back_cell r hm 4), (h.cell 43).trans (back_cell r hm 5)⟩
theorem RecAt.front {w : World} {g : Nat} {r : Rec} (h : RecAt w g r) :
    w.cell? ⟨g, 0, none⟩ = some (.int .u64 r.seq) ∧ w.cell? ⟨g, 1, none⟩ = some (.int .u8 r.act) ∧ w.cell? ⟨g, 2, none⟩ = some (.int .u64 r.ver) ∧ w.cell? ⟨g, 3, none⟩ = some (.int .i64 r.len) ∧ w.cell? ⟨g, 4, none⟩ = some (.int .u8 r.st) ∧ w.cell? ⟨g, 5, none⟩ = some (.int .u8 r.md) :=
  ⟨h.cell 0, h.cell 1, h.cell 2, h.cell 3, h.cell 4, h.cell 5⟩

theorem sizes_any (a b c d e : Int) (W : World) : Calls Tryd.prog 89 #[.func (.func 90) #[] #[], .slice (some ⟨W.heap.size, 0, none⟩) 5 5] (W.alloc (.cells #[.int .i64 a, .int .i64 b, .int .i64 c, .int .i64 d, .int .i64 e] 3)) fun x w' => x = .returned (.bool ([a, b, c, d, e].all inB)) ∧ W.alloc (.cells #[.int .i64 a, .int .i64 b, .int .i64 c, .int .i64 d, .int .i64 e] 3) = w' :=
  all1_any inB in1_any _ [a, b, c, d, e] 5 _ (by simp) (Arr.new W 3 .i64 [a, b, c, d, e]).holds_all
theorem kinds_any (a b : Int) (W : World) : Calls Tryd.prog 89 #[.func (.func 91) #[] #[], .slice (some ⟨W.heap.size, 0, none⟩) 2 2] (W.alloc (.cells #[.int .i64 a, .int .i64 b] 3)) fun x w' => x = .returned (.bool ([a, b].all (fun n => decide (n ≤ 3)))) ∧ W.alloc (.cells #[.int .i64 a, .int .i64 b] 3) = w' :=
  all2_any (fun n => decide (n ≤ 3)) in2_any _ [a, b] 2 _ (by simp) (Arr.new W 3 .i64 [a, b]).holds_all

set_option maxRecDepth 100000 in
set_option maxHeartbeats 3200000 in
theorem may_any (r : Rec) (hr : r.Ok) (w : World) : Calls Tryd.prog 70 #[.agg r.cells.toArray] w fun e w' => e = .returned (.bool r.may) ∧ Below w.heap.size w w' := by
  have B1 := below_last w (.cells r.cells.toArray 50)
  have R1 : RecAt (w.alloc (.cells r.cells.toArray 50)) w.heap.size r := Block.new w _ _
  have HM := Lib.hid (may_two r)
  have GA := Lib.hid (fun W => sizes_any r.len r.nl r.dn r.blk r.asz W)
  have GB := Lib.hid (fun W => kinds_any r.st r.md W)
  have hs := hr.st
  have hm := hr.md
  have hman := hr.man
  generalize [r.len, r.nl, r.dn, r.blk, r.asz].all inB = b1 at *
  generalize [r.st, r.md].all (fun n => decide (n ≤ 3)) = b2 at *
  generalize hW : w.alloc (.cells r.cells.toArray 50) = w1 at *
  have R2 := R1.alloc (.cells #[.int .i64 r.len, .int .i64 r.nl, .int .i64 r.dn, .int .i64 r.blk, .int .i64 r.asz] 3)
  have R3 := R2.alloc (.cells #[.int .i64 r.st, .int .i64 r.md] 3)
  have B2 := B1.alloc B1.size (.cells #[.int .i64 r.len, .int .i64 r.nl, .int .i64 r.dn, .int .i64 r.blk, .int .i64 r.asz] 3)
  have B3 := B2.alloc B2.size (.cells #[.int .i64 r.st, .int .i64 r.md] 3)
  have KB := GB.out (w1.alloc (.cells #[.int .i64 r.len, .int .i64 r.nl, .int .i64 r.dn, .int .i64 r.blk, .int .i64 r.asz] 3))
  rw [show (w1.alloc (.cells #[.int .i64 r.len, .int .i64 r.nl, .int .i64 r.dn, .int .i64 r.blk, .int .i64 r.asz] 3)).heap.size = w1.heap.size + 1 by simp] at KB
  replace KB := Lib.hid KB
  clear GB
  obtain ⟨f0, f1, f2, f3, f4, f5⟩ := R1.front
  obtain ⟨k0, k1, k2, k3, k4, k5⟩ := R1.back hman
  have f4' := R2.front.2.2.2.2.1
  have f5' := R2.front.2.2.2.2.2
  have f1' := R3.front.2.1
  have HB := Lib.hid B3
  clear R1 R2 R3 B1 B2 B3 hr hman f0 f2 k0 k3
  generalize hlen : r.len = len at *
  generalize hnl : r.nl = nl at *
  generalize hdn : r.dn = dn at *
  generalize hblk : r.blk = blk at *
  generalize hasz : r.asz = asz at *
  generalize hst : r.st = st at *
  generalize hmd : r.md = md at *
  generalize hact : r.act = act at *
  generalize r.may = res at *
  clear hlen hnl hdn hblk hasz hst hmd hact
  generalize hC : r.cells.toArray = cs at *
  clear hC
  go_enter Tryd.func70, Tryd.ntmps70
  cases b1 <;> cases b2
  all_goals
    go_wp2_with (first
      | (go_at_call 89; (with_reducible refine (GA.out _).mono ?_); rintro e w2 ⟨rfl, rfl⟩)
      | (go_at_call 89; (with_reducible refine KB.out.mono ?_); rintro e w2 ⟨rfl, rfl⟩))
    go_ret
    exact ⟨by rw [HM.out]; first | rfl | simp, HB.out⟩
end Go.Proofs.YtpnodocjpedcmaaDoor.Jr
