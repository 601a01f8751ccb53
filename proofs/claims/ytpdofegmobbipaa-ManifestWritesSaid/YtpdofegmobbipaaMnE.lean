/-
  Layers 22 and 26: how many blocks a manifest tells of, how many bytes a block has: both functions: contracts. Conditions: as each theorem names.
-/
import Derived.Test.YtpdofegmobbipaaMnD
namespace Go.Proofs.Ytpdofegmobbipaa.Mn
open Go.ChangeShapes Go.WideShapes Go.ChangeAt Go.RowKit Go.Proofs.Ytpdofegmobbipaa.Kit Go.Proofs.Ytpdofegmobbipaa.Ordr Go.Proofs.Ytpdofegmobbipaa.Blk

/-- A row of cells of any values is loaded, where a guard may stand. -/
theorem wpList_load_midV {P : Program} {w : World} {ops : Array Oper} {rest : List Oper} {o : Oper} {a : Act} {Q : Exit → Act → World → Prop} (hw : Region.wanted o (yielded ops a.tmps) = true) (ty : TypeId) (x : Operand) (ho : o.op = .load ty x)
    (b f : Nat) (hx : a.eval x = .pointer (some ⟨b, f, none⟩)) (cs : List Value) (hc : w.rangeAt b f cs) {d : TypeDesc} (hu : P.underlying ty = some d) (hd : d.isRow = true) (hi : (P.info? ty).map (·.size) = some cs.length)
    (hK : wpList P ops Q rest (a.put o.dst (.agg cs.toArray)) w) : wpList P ops Q (o :: rest) a w :=
  wpList_step fun K hK' => by
    rw [if_pos hw]
    exact wp_load_mid ty x ho b f hx cs d hc hu hd hi (hK' _ _ hK)
theorem Man.cells_length (m : Man) (h : m.Ok) : m.cells.length = 102 := by
  unfold Man.cells
  simp [h.odl, h.ndl, h.rtl]
theorem block_range {w : World} {g : Nat} {t : TypeId} {L : List Value} (h : Block w g t L.toArray) : w.rangeAt g 0 L := by
  intro j v hj
  rw [h.cell, List.getElem?_toArray, Nat.zero_add, hj]

def Man.cnt (m : Man) : Int := if m.May then blocks m.nl m.bk else 0
theorem Man.cnt_bd (m : Man) : 0 ≤ m.cnt ∧ m.cnt ≤ 4096 := by
  unfold Man.cnt
  split
  · rename_i h
    exact ⟨(blocks_bd _ _).1, h.2.2.2.2.2.1⟩
  · omega
theorem Man.cnt_yes (m : Man) (h : 0 < m.cnt) : m.May ∧ m.cnt = blocks m.nl m.bk ∧ 128 ≤ m.bk ∧ m.bk ≤ 4096 ∧ 0 ≤ m.nl ∧ m.nl ≤ 2147483647 := by
  unfold Man.cnt at h ⊢
  by_cases hm : m.May
  · rw [if_pos hm]
    have h1 := inB_yes hm.2.1
    have h2 := inB_yes hm.2.2.2.1
    exact ⟨hm, rfl, h1.1, h1.2, h2.1, h2.2⟩
  · rw [if_neg hm] at h; omega

set_option maxRecDepth 100000 in
set_option maxHeartbeats 1600000 in
theorem cnt_any (m : Man) (ho : m.Ok) (w : World) (hr : m.In w) : Calls Try.prog 17 #[.agg m.cells.toArray] w fun e w' => e = .returned (.int .i64 m.cnt) ∧ Below w.heap.size w w' := by
  have B1 := below_last w (.cells m.cells.toArray 27)
  have M1 : ManAt (w.alloc (.cells m.cells.toArray 27)) w.heap.size m := Block.new w _ _
  have R1 := block_range (L := m.cells) M1
  have HL := Lib.hid (m.cells_length ho)
  obtain ⟨f0, f1, f2, f3, f4⟩ := M1.ints
  have hnl := ho.nl
  have GM := Lib.hid (fun W hB => may_any m ho W ((hr.below hB).more (Below.size (B := w.heap.size) hB)))
  have GC := Lib.hid (fun W => blocks_any m.nl m.bk W hnl)
  have HC : Hid (m.cnt = if decide m.May = true then blocks m.nl m.bk else 0) := Lib.hid (by unfold Man.cnt; simp)
  obtain ⟨L, hL⟩ : ∃ L, m.cells = L := ⟨_, rfl⟩
  rw [hL] at B1 R1 f2 f4 GM HL ⊢
  clear M1 hL f0 f1 f3 hr ho
  generalize decide m.May = D at *
  generalize m.cnt = q at *
  generalize m.nl = nl at *
  generalize m.bk = bk at *
  have g1 : w.heap.size < (w.alloc (.cells L.toArray 27)).heap.size := by simp
  generalize hW : w.alloc (.cells L.toArray 27) = w1 at *
  cases D with
  | true =>
    rw [if_pos rfl] at HC
    go_enter Try.func17, Try.ntmps17
    go_wp2_with (first
      | (have _t := R1; rw [hW]; refine wpList_load_midV (by rfl) _ _ rfl _ 0 rfl L R1 Try.underlying27 rfl (by rw [HL.out]; kernel_rfl) ?_)
      | (have _t := R1; refine wpList_load_midV (by rfl) _ _ rfl _ 0 rfl L R1 Try.underlying27 rfl (by rw [HL.out]; kernel_rfl) ?_)
      | (go_at_call 11; (with_reducible refine (GM.out _ B1).mono ?_); rintro e w2 ⟨rfl, hb⟩; have k2 := (hb.cell (p := ⟨w.heap.size, 2, none⟩) g1).trans f2; have k4 := (hb.cell (p := ⟨w.heap.size, 4, none⟩) g1).trans f4)
      | (go_at_call 29; (with_reducible refine (GC.out _).mono ?_); rintro e w3 ⟨rfl, rfl⟩))
    go_ret
    exact ⟨by rw [HC.out]; rfl, B1.trans (hb.mono B1.size)⟩
  | false =>
    rw [if_neg (by decide)] at HC
    go_enter Try.func17, Try.ntmps17
    go_wp2_with (first
      | (have _t := R1; rw [hW]; refine wpList_load_midV (by rfl) _ _ rfl _ 0 rfl L R1 Try.underlying27 rfl (by rw [HL.out]; kernel_rfl) ?_)
      | (have _t := R1; refine wpList_load_midV (by rfl) _ _ rfl _ 0 rfl L R1 Try.underlying27 rfl (by rw [HL.out]; kernel_rfl) ?_)
      | (go_at_call 11; (with_reducible refine (GM.out _ B1).mono ?_); rintro e w2 ⟨rfl, hb⟩))
    go_ret
    exact ⟨by rw [HC.out]; rfl, B1.trans (hb.mono B1.size)⟩
end Go.Proofs.Ytpdofegmobbipaa.Mn
