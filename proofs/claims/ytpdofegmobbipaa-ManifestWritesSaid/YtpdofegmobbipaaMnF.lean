/-
  Layers 22 and 26: how many bytes a block has: both functions, the example; a manifest that comes in: contracts. Conditions: as each theorem names.
-/
import Derived.Test.YtpdofegmobbipaaMnE
import Derived.Test.YtpdofegmobbipaaShp
import Derived.IntWalk
namespace Go.Proofs.Ytpdofegmobbipaa.Mn
open Go.ChangeShapes Go.WideShapes Go.ChangeAt Go.RowKit Go.Proofs.Ytpdofegmobbipaa.Kit Go.Proofs.Ytpdofegmobbipaa.Ordr Go.Proofs.Ytpdofegmobbipaa.Blk

def manDs : List Fld := [.i .u8, .i .u64, .i .i64, .i .i64, .i .i64, .a .u8 32, .a .u8 32, .a .u8 32, .s .i64]
theorem man_of {w : World} {B : Nat} {vs : List FVal} (h : allOk w B manDs vs) : ∃ m : Man, m.Ok ∧ Holds w B .i64 m.A m.ord ∧ allCells manDs vs = m.cells := by
  match vs, h with
  | [.i md, .i vr, .i bk, .i ol, .i nl, .a od, .a nd, .a rt, .s A cap ord], ⟨h0, h1, h2, h3, h4, h5, h6, h7, h8, _⟩ =>
    refine ⟨⟨md, vr, bk, ol, nl, od, nd, rt, A, cap, ord⟩, ⟨bounds_u8 h0, by have := bounds_u64 h1; exact ⟨this.1, by have := this.2; show vr < _; omega⟩, bounds_i64 h2, bounds_i64 h3, bounds_i64 h4, h5.1, h6.1, h7.1, fun z hz => bounds_u8 (h5.2 z hz), fun z hz => bounds_u8 (h6.2 z hz), fun z hz => bounds_u8 (h7.2 z hz), fun z hz => bounds_i64 (h8.2.2.1 z hz), h8.1, h8.2.1⟩, h8.2.2.2, ?_⟩
    simp [allCells, manDs, fvCells, Man.cells]

theorem wpList_build_known {P : Program} {w : World} {ops : Array Oper} {rest : List Oper} {o : Oper} {a : Act} {Q : Exit → Act → World → Prop} (hgd : o.guard = none) (ty : TypeId) (parts : Array (Nat × Operand)) (ho : o.op = .build ty parts)
    (V : Value) (hrun : ∀ W, (Instr.build ty (parts.map fun (i, x) => (i, a.eval x))).run P W = .ok V W) (h : wpList P ops Q rest (a.put o.dst V) w) : wpList P ops Q (o :: rest) a w := by
  refine wpList_plain hgd fun K hK => ?_
  unfold Oper.wp
  simp only [execOp, ho, Sem.run_bind, Sem.run_pure]
  rw [hrun]
  exact hK _ _ h

/-- How many bytes a block has. -/
def Man.size (m : Man) (b : Int) : Int := if 0 ≤ b ∧ b < m.cnt then (if m.nl - b * m.bk < m.bk then m.nl - b * m.bk else m.bk) else 0
theorem mul_bd {b q k : Int} (h0 : 0 ≤ b) (h1 : b < q) (hq : q ≤ 4096) (k0 : 128 ≤ k) (k1 : k ≤ 4096) : 0 ≤ b * k ∧ b * k ≤ 16777216 := by
  have h2 : b * k ≤ 4096 * k := Int.mul_le_mul_of_nonneg_right (by omega) (by omega)
  exact ⟨Int.mul_nonneg h0 (by omega), by omega⟩

set_option maxRecDepth 100000 in
set_option maxHeartbeats 1600000 in
theorem size_any (m : Man) (ho : m.Ok) (b : Int) (w : World) (hr : m.In w) : Calls Try.prog 22 #[.agg m.cells.toArray, .int .i64 b] w fun e w' => e = .returned (.int .i64 (m.size b)) ∧ Below w.heap.size w w' := by
  have B1 := below_last w (.cells m.cells.toArray 27)
  have M1 : ManAt (w.alloc (.cells m.cells.toArray 27)) w.heap.size m := Block.new w _ _
  have R1 := block_range (L := m.cells) M1
  have HL := Lib.hid (m.cells_length ho)
  obtain ⟨f0, f1, f2, f3, f4⟩ := M1.ints
  have GM := Lib.hid (fun W hB => cnt_any m ho W ((hr.below hB).more (Below.size (B := w.heap.size) hB)))
  have HS : Hid (m.size b = if 0 ≤ b ∧ b < m.cnt then (if m.nl - b * m.bk < m.bk then m.nl - b * m.bk else m.bk) else 0) := Lib.hid rfl
  have hcb := m.cnt_bd
  have hcy := m.cnt_yes
  obtain ⟨L, hL⟩ : ∃ L, m.cells = L := ⟨_, rfl⟩
  rw [hL] at B1 R1 f2 f4 GM HL ⊢
  clear M1 hL f0 f1 f3 hr ho
  generalize m.size b = D at *
  generalize m.cnt = q at *
  generalize m.nl = nl at *
  generalize m.bk = bk at *
  have g1 : w.heap.size < (w.alloc (.cells L.toArray 27)).heap.size := by simp
  generalize hW : w.alloc (.cells L.toArray 27) = w1 at *
  by_cases h0 : b < 0
  · have d0 : decide (b < 0) = true := decide_eq_true h0
    have HZ : Hid (D = 0) := Lib.hid (by rw [HS.out, if_neg (by omega)])
    clear HS
    go_enter Try.func22, Try.ntmps22
    go_wp2_with fail
    go_ret
    exact ⟨by rw [HZ.out]; rfl, B1⟩
  · have d0 : decide (b < 0) = false := decide_eq_false h0
    by_cases h1 : q ≤ b
    · have d1 : decide (q ≤ b) = true := decide_eq_true h1
      have HZ : Hid (D = 0) := Lib.hid (by rw [HS.out, if_neg (by omega)])
      clear HS
      go_enter Try.func22, Try.ntmps22
      go_wp2_with (first
        | (have _t := R1; rw [hW]; refine wpList_load_midV (by rfl) _ _ rfl _ 0 rfl L R1 Try.underlying27 rfl (by rw [HL.out]; kernel_rfl) ?_)
        | (have _t := R1; refine wpList_load_midV (by rfl) _ _ rfl _ 0 rfl L R1 Try.underlying27 rfl (by rw [HL.out]; kernel_rfl) ?_)
        | (go_at_call 17; (with_reducible refine (GM.out _ B1).mono ?_); rintro e w2 ⟨rfl, hb⟩))
      go_ret
      exact ⟨by rw [HZ.out]; rfl, B1.trans (hb.mono B1.size)⟩
    · have d1 : decide (q ≤ b) = false := decide_eq_false h1
      have hy := hcy (by omega)
      have hm := mul_bd (by omega : 0 ≤ b) (by omega : b < q) hcb.2 hy.2.2.1 hy.2.2.2.1
      obtain ⟨-, -, y1, y2, y3, y4⟩ := hy
      clear hcy
      obtain ⟨p, hp⟩ : ∃ p, p = b * bk := ⟨_, rfl⟩
      rw [← hp] at hm
      have hw : wrap64 (b * bk) = p := by rw [← hp]; exact IntWalk.wrap64_in _ (by omega)
      have hw2 : wrap64 (nl - p) = nl - p := IntWalk.wrap64_in _ (by omega)
      rw [← hp] at HS
      clear hp
      by_cases h2 : nl - p < bk
      · have HZ : Hid (D = nl - p) := Lib.hid (by rw [HS.out, if_pos (by omega), if_pos h2])
        clear HS
        go_enter Try.func22, Try.ntmps22
        go_wp2_with (first
          | (have _t := R1; rw [hW]; refine wpList_load_midV (by rfl) _ _ rfl _ 0 rfl L R1 Try.underlying27 rfl (by rw [HL.out]; kernel_rfl) ?_)
          | (have _t := R1; refine wpList_load_midV (by rfl) _ _ rfl _ 0 rfl L R1 Try.underlying27 rfl (by rw [HL.out]; kernel_rfl) ?_)
          | (go_at_call 17; (with_reducible refine (GM.out _ B1).mono ?_); rintro e w2 ⟨rfl, hb⟩; have k2 := (hb.cell (p := ⟨w.heap.size, 2, none⟩) g1).trans f2; have k4 := (hb.cell (p := ⟨w.heap.size, 4, none⟩) g1).trans f4))
        go_ret
        exact ⟨by rw [HZ.out]; rfl, B1.trans (hb.mono B1.size)⟩
      · have HZ : Hid (D = bk) := Lib.hid (by rw [HS.out, if_pos (by omega), if_neg h2])
        clear HS
        go_enter Try.func22, Try.ntmps22
        go_wp2_with (first
          | (have _t := R1; rw [hW]; refine wpList_load_midV (by rfl) _ _ rfl _ 0 rfl L R1 Try.underlying27 rfl (by rw [HL.out]; kernel_rfl) ?_)
          | (have _t := R1; refine wpList_load_midV (by rfl) _ _ rfl _ 0 rfl L R1 Try.underlying27 rfl (by rw [HL.out]; kernel_rfl) ?_)
          | (go_at_call 17; (with_reducible refine (GM.out _ B1).mono ?_); rintro e w2 ⟨rfl, hb⟩; have k2 := (hb.cell (p := ⟨w.heap.size, 2, none⟩) g1).trans f2; have k4 := (hb.cell (p := ⟨w.heap.size, 4, none⟩) g1).trans f4))
        go_ret
        exact ⟨by rw [HZ.out]; rfl, B1.trans (hb.mono B1.size)⟩
end Go.Proofs.Ytpdofegmobbipaa.Mn
