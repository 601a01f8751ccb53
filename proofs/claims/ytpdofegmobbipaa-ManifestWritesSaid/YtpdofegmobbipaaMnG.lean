/-
  Layer 26: the document's size of a block, the example: contracts. Conditions: as each theorem names.
-/
import Derived.Test.YtpdofegmobbipaaMnF
namespace Go.Proofs.Ytpdofegmobbipaa.Mn
open Go.ChangeShapes Go.WideShapes Go.ChangeAt Go.RowKit Go.Proofs.Ytpdofegmobbipaa.Kit Go.Proofs.Ytpdofegmobbipaa.Ordr Go.Proofs.Ytpdofegmobbipaa.Blk

/-- A whole row is loaded, in a region whose callees make memory. -/
theorem quiet_load_row {P : Program} {ops : Array Oper} {o : Oper} {a : Act} {C : World → Prop} {K : Act → Prop} {E : Prop}
    (hw : Region.wanted o (yielded ops a.tmps) = true) (ty : TypeId) (x : Operand) (ho : o.op = .load ty x) (b f : Nat) (hx : a.eval x = .pointer (some ⟨b, f, none⟩)) (cs : List Value) (d : TypeDesc) (hc : ∀ W, C W → W.rangeAt b f cs)
    (hu : P.underlying ty = some d) (hd : d.isRow = true) (hi : (P.info? ty).map (·.size) = some cs.length) (hK : K (a.put o.dst (.agg cs.toArray))) :
    if Region.wanted o (yielded ops a.tmps) = true then o.quiet P a C K else E := by
  rw [if_pos hw]
  refine ⟨.agg cs.toArray, fun W hW => ?_, hK⟩
  unfold Oper.quietAt execOp
  simp only [ho, hx, Instr.loadAt, Instr.sureAddr, Sem.run_bind, Sem.run_pure, Result.andThen_ok, run_loadVar_mid W b f ty cs d (hc W hW) hu hd hi, Oper.quietUpon]
  trivial
theorem range_regrown {w : World} {b f : Nat} {cs : List Value} (h : w.rangeAt b f cs) : ∀ W, (∃ p : Regrown, W = Go.Sort.grow (redrawn w p.d) p.os) → W.rangeAt b f cs := by
  rintro W ⟨p, rfl⟩ j v hj
  exact cell_regrown (h j v hj) p.d p.os
theorem range_below {w w' : World} {B b f : Nat} {cs : List Value} (h : w.rangeAt b f cs) (hb : Below B w w') (hB : b < B) : w'.rangeAt b f cs := fun j v hj => (hb.cell (p := ⟨b, f + j, none⟩) hB).trans (h j v hj)

set_option maxRecDepth 100000 in
set_option maxHeartbeats 3200000 in
theorem rsize_any (m : Man) (ho : m.Ok) (b : Int) (w : World) (hr : m.In w) (h5 : m.ord.length ≤ 5000) : Calls Try.prog 23 #[.agg m.cells.toArray, .int .i64 b] w fun e w' => e = .returned (.int .i64 (m.size b)) ∧ Below w.heap.size w w' := by
  have B1 := below_last w (.cells m.cells.toArray 27)
  have M1 : ManAt (w.alloc (.cells m.cells.toArray 27)) w.heap.size m := Block.new w _ _
  have R1 := block_range (L := m.cells) M1
  have HL := Lib.hid (m.cells_length ho)
  obtain ⟨f0, f1, f2, f3, f4⟩ := M1.ints
  have hnl := ho.nl
  have GM := Lib.hid (fun W hB => rmay_any m ho W ((hr.below hB).more (Below.size (B := w.heap.size) hB)) h5)
  have GC := Lib.hid (fun W => rblocks_any m.nl m.bk W hnl)
  have HS : Hid (m.size b = if 0 ≤ b ∧ b < m.cnt then (if m.nl - b * m.bk < m.bk then m.nl - b * m.bk else m.bk) else 0) := Lib.hid rfl
  have HC : Hid (m.cnt = if decide m.May = true then blocks m.nl m.bk else 0) := Lib.hid (by unfold Man.cnt; simp)
  have hcb := m.cnt_bd
  have hcy := fun h => (m.cnt_yes h).2
  obtain ⟨L, hL⟩ : ∃ L, m.cells = L := ⟨_, rfl⟩
  rw [hL] at B1 R1 f2 f4 GM HL ⊢
  clear M1 hL f0 f1 f3 hr ho h5
  generalize decide m.May = D0 at *
  generalize m.size b = D at *
  generalize m.cnt = q at *
  generalize m.nl = nl at *
  generalize m.bk = bk at *
  generalize blocks nl bk = k at *
  have g1 : w.heap.size < (w.alloc (.cells L.toArray 27)).heap.size := by simp
  generalize hW : w.alloc (.cells L.toArray 27) = w1 at *
  cases D0 with
  | false =>
    rw [if_neg (by decide)] at HC
    have HZ : Hid (D = 0) := Lib.hid (by rw [HS.out, if_neg (by rw [HC.out]; omega)])
    clear HS HC
    go_enter Try.func23, Try.ntmps23
    go_wp2_with (first
      | (have _t := R1; rw [hW]; refine wpList_load_midV (by rfl) _ _ rfl _ 0 rfl L R1 Try.underlying27 rfl (by rw [HL.out]; kernel_rfl) ?_)
      | (have _t := R1; refine wpList_load_midV (by rfl) _ _ rfl _ 0 rfl L R1 Try.underlying27 rfl (by rw [HL.out]; kernel_rfl) ?_)
      | (go_at_call 12; (with_reducible refine (GM.out _ B1).mono ?_); rintro e w2 ⟨rfl, hb⟩; have k2 := (hb.cell (p := ⟨w.heap.size, 2, none⟩) g1).trans f2; have k4 := (hb.cell (p := ⟨w.heap.size, 4, none⟩) g1).trans f4)
      | (go_at_call 16; (with_reducible refine (GC.out _).mono ?_); rintro e w3 ⟨rfl, rfl⟩))
    go_ret
    exact ⟨by rw [HZ.out]; rfl, B1.trans (hb.mono B1.size)⟩
  | true =>
    rw [if_pos rfl] at HC
    obtain rfl := HC.out
    clear HC
    by_cases h0 : b < 0
    · have d0 : decide (b < 0) = true := decide_eq_true h0
      have HZ : Hid (D = 0) := Lib.hid (by rw [HS.out, if_neg (by omega)])
      clear HS
      go_enter Try.func23, Try.ntmps23
      go_wp2_with (first
        | (have _t := R1; rw [hW]; refine wpList_load_midV (by rfl) _ _ rfl _ 0 rfl L R1 Try.underlying27 rfl (by rw [HL.out]; kernel_rfl) ?_)
        | (have _t := R1; refine wpList_load_midV (by rfl) _ _ rfl _ 0 rfl L R1 Try.underlying27 rfl (by rw [HL.out]; kernel_rfl) ?_)
        | (go_at_call 12; (with_reducible refine (GM.out _ B1).mono ?_); rintro e w2 ⟨rfl, hb⟩; have k2 := (hb.cell (p := ⟨w.heap.size, 2, none⟩) g1).trans f2; have k4 := (hb.cell (p := ⟨w.heap.size, 4, none⟩) g1).trans f4)
        | (go_at_call 16; (with_reducible refine (GC.out _).mono ?_); rintro e w3 ⟨rfl, rfl⟩))
      go_ret
      exact ⟨by rw [HZ.out]; rfl, B1.trans (hb.mono B1.size)⟩
    · have d0 : decide (b < 0) = false := decide_eq_false h0
      by_cases h1 : q ≤ b
      · have d1 : decide (q ≤ b) = true := decide_eq_true h1
        have HZ : Hid (D = 0) := Lib.hid (by rw [HS.out, if_neg (by omega)])
        clear HS
        go_enter Try.func23, Try.ntmps23
        go_wp2_with (first
          | (have _t := R1; rw [hW]; refine wpList_load_midV (by rfl) _ _ rfl _ 0 rfl L R1 Try.underlying27 rfl (by rw [HL.out]; kernel_rfl) ?_)
          | (have _t := R1; refine wpList_load_midV (by rfl) _ _ rfl _ 0 rfl L R1 Try.underlying27 rfl (by rw [HL.out]; kernel_rfl) ?_)
          | (go_at_call 12; (with_reducible refine (GM.out _ B1).mono ?_); rintro e w2 ⟨rfl, hb⟩; have k2 := (hb.cell (p := ⟨w.heap.size, 2, none⟩) g1).trans f2; have k4 := (hb.cell (p := ⟨w.heap.size, 4, none⟩) g1).trans f4)
          | (go_at_call 16; (with_reducible refine (GC.out _).mono ?_); rintro e w3 ⟨rfl, rfl⟩))
        go_ret
        exact ⟨by rw [HZ.out]; rfl, B1.trans (hb.mono B1.size)⟩
      · have d1 : decide (q ≤ b) = false := decide_eq_false h1
        obtain ⟨-, y1, y2, y3, y4⟩ := hcy (by omega)
        have hm := mul_bd (by omega : 0 ≤ b) (by omega : b < q) hcb.2 y1 y2
        clear hcy
        obtain ⟨p, hp⟩ : ∃ p, p = b * bk := ⟨_, rfl⟩
        rw [← hp] at hm
        have hw : wrap64 (b * bk) = p := by rw [← hp]; exact IntWalk.wrap64_in _ (by omega)
        have hw2 : wrap64 (nl - p) = nl - p := IntWalk.wrap64_in _ (by omega)
        rw [← hp] at HS
        clear hp
        by_cases h2 : nl - p < bk
        · have HZ : Hid (D = nl - p) := Lib.hid (by rw [HS.out, if_pos (by omega), if_pos h2])
          have d2 : decide (nl - p < bk) = true := decide_eq_true h2
          clear HS
          go_enter Try.func23, Try.ntmps23
          go_wp2_with (first
            | (have _t := R1; rw [hW]; refine wpList_load_midV (by rfl) _ _ rfl _ 0 rfl L R1 Try.underlying27 rfl (by rw [HL.out]; kernel_rfl) ?_)
            | (have _t := R1; refine wpList_load_midV (by rfl) _ _ rfl _ 0 rfl L R1 Try.underlying27 rfl (by rw [HL.out]; kernel_rfl) ?_)
            | (go_at_call 12; (with_reducible refine (GM.out _ B1).mono ?_); rintro e w2 ⟨rfl, hb⟩; have k2 := (hb.cell (p := ⟨w.heap.size, 2, none⟩) g1).trans f2; have k4 := (hb.cell (p := ⟨w.heap.size, 4, none⟩) g1).trans f4)
            | (go_at_call 16; (with_reducible refine (GC.out _).mono ?_); rintro e w3 ⟨rfl, rfl⟩))
          go_ret
          exact ⟨by rw [HZ.out]; rfl, B1.trans (hb.mono B1.size)⟩
        · have HZ : Hid (D = bk) := Lib.hid (by rw [HS.out, if_pos (by omega), if_neg h2])
          have d2 : decide (nl - p < bk) = false := decide_eq_false h2
          clear HS
          go_enter Try.func23, Try.ntmps23
          go_wp2_with (first
            | (have _t := R1; rw [hW]; refine wpList_load_midV (by rfl) _ _ rfl _ 0 rfl L R1 Try.underlying27 rfl (by rw [HL.out]; kernel_rfl) ?_)
            | (have _t := R1; refine wpList_load_midV (by rfl) _ _ rfl _ 0 rfl L R1 Try.underlying27 rfl (by rw [HL.out]; kernel_rfl) ?_)
            | (go_at_call 12; (with_reducible refine (GM.out _ B1).mono ?_); rintro e w2 ⟨rfl, hb⟩; have k2 := (hb.cell (p := ⟨w.heap.size, 2, none⟩) g1).trans f2; have k4 := (hb.cell (p := ⟨w.heap.size, 4, none⟩) g1).trans f4)
            | (go_at_call 16; (with_reducible refine (GC.out _).mono ?_); rintro e w3 ⟨rfl, rfl⟩))
          go_ret
          exact ⟨by rw [HZ.out]; rfl, B1.trans (hb.mono B1.size)⟩

/-- The example's manifest. -/
def manA : Man := ⟨1, 0, 128, 0, 300, zero32, zero32, zero32, none, 0, []⟩
theorem zero_octets : Octets zero32 := fun x hx => by
  unfold zero32 at hx
  have := List.eq_of_mem_replicate hx
  omega
theorem manA_ok : manA.Ok := ⟨by decide, by decide, by decide, by decide, by decide, by decide, by decide, by decide, zero_octets, zero_octets, zero_octets, (fun _ h => by cases h), ⟨Nat.le_refl _, Nat.zero_le _⟩⟩
theorem manA_size : manA.size 2 = 44 := by decide +kernel

set_option maxRecDepth 100000 in
set_option maxHeartbeats 1600000 in
theorem awake26_any (w : World) : Calls Try.prog 21 #[] w fun e w' => e = .returned (.bool true) ∧ Below w.heap.size w w' := by
  have hb : ∀ W, (Instr.build 27 #[(0, .int .u8 1), (2, .int .i64 128), (4, .int .i64 300)]).run Try.prog W = .ok (.agg manA.cells.toArray) W := fun W => by kernel_rfl
  have GS := Lib.hid (fun W => size_any manA manA_ok 2 W Holds.nil)
  rw [manA_size] at GS
  have HB := Lib.hid hb
  obtain ⟨L, hL⟩ : ∃ L, manA.cells = L := ⟨_, rfl⟩
  rw [hL] at HB GS
  clear hb hL
  go_enter Try.func21, Try.ntmps21
  go_wp2_with (first
    | (refine wpList_build_known rfl _ _ rfl (.agg L.toArray) ?_ ?_; (intro W; have hw9 := HB.out W; simpa [Act.eval] using hw9))
    | (go_at_call 22; (with_reducible refine (GS.out _).mono ?_); rintro e w2 ⟨rfl, hb⟩))
  go_ret
  exact ⟨rfl, hb⟩
end Go.Proofs.Ytpdofegmobbipaa.Mn
