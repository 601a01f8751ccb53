/-
  Layer 24, journal: a journal in memory; Last: contracts. Conditions: as each theorem names.
-/
import Derived.Test.YtpnodocjpedcmaaDoorMGIays23
import Derived.Test.YtpnodocjpedcmaaDoorMJrH
namespace Go.Proofs.YtpnodocjpedcmaaDoor.Jr
open Go.ChangeShapes Go.WideShapes Go.ChangeAt Go.RowKit Go.Proofs.YtpnodocjpedcmaaDoor.Kit Go.Proofs.YtpnodocjpedcmaaDoor.Sec
open Go.Proofs.YtpnodocjpedcmaaDoor.Sha (LaidS sumL sumL_length sumL_octets)
open Go.Proofs.YtpnodocjpedcmaaDoor.Pt (PartAt Lies)

/-- A row of cells is stored within a block. -/
theorem wpList_store_at {P : Program} {w : World} {ops : Array Oper} {rest : List Oper} {o : Oper} {a : Act} {Q : Exit → Act → World → Prop} (hgd : o.guard = none) (ty : TypeId) (x y : Operand) (ho : o.op = .store ty x y)
    {g q : Nat} {t : TypeId} {cs : Array Value} {ds : List Value} (h : Block w g t cs) (hx : a.eval x = .pointer (some ⟨g, q, none⟩)) (hy : a.eval y = .agg ds.toArray) (hl : q + ds.length ≤ cs.size) (hi : (P.info? ty).map (·.size) = some ds.length) (hone : ∀ u ∈ ds, u.oneCell' = true)
    (hK : ∀ w', Block w' g t (cs.toList.take q ++ (ds ++ cs.toList.drop (q + ds.length))).toArray → w.grownBy w' (some g) → wpList P ops Q rest (a.put o.dst undef) w') : wpList P ops Q (o :: rest) a w := by
  refine wpList_store_mid hgd ty x y ho g q ds.toArray hx hy ?_ (by simpa using hi) (all_oneCell_toArray hone) ?_
  · intro j hj
    have hj' : q + j < cs.size := by
      have : j < ds.length := by simpa using hj
      omega
    exact ⟨by rw [h.cell, Array.getElem?_eq_getElem hj']; rfl, h.frozen (q + j)⟩
  · refine hK _ ?_ (setCells_grown g _ q w)
    simpa using setCells_block ds q w _ h hl

/-- A journal's cells. -/
def jL (a : Nat) (v1 v2 : Value) (R : List Value) : List Value := .pointer (some ⟨a, 0, none⟩) :: v1 :: v2 :: R
def JBlk (w : World) (j a : Nat) (v1 v2 : Value) (R : List Value) : Prop := Block w j 107 (jL a v1 v2 R).toArray
theorem jL_length (a : Nat) (v1 v2 : Value) (R : List Value) : (jL a v1 v2 R).length = R.length + 3 := rfl
section
variable {w w' : World} {j a : Nat} {v1 v2 : Value} {R : List Value}
theorem JBlk.lt (h : JBlk w j a v1 v2 R) : j < w.heap.size := Block.lt h
theorem JBlk.c0 (h : JBlk w j a v1 v2 R) : w.cell? ⟨j, 0, none⟩ = some (.pointer (some ⟨a, 0, none⟩)) := Block.cell h 0
theorem JBlk.c1 (h : JBlk w j a v1 v2 R) : w.cell? ⟨j, 1, none⟩ = some v1 := Block.cell h 1
theorem JBlk.c2 (h : JBlk w j a v1 v2 R) : w.cell? ⟨j, 2, none⟩ = some v2 := Block.cell h 2
theorem JBlk.free (h : JBlk w j a v1 v2 R) (i : Nat) : w.frozen? ⟨j, i, none⟩ = false := Block.frozen h i
theorem JBlk.c3 (h : JBlk w j a v1 v2 R) (i : Nat) : w.cell? ⟨j, 3 + i, none⟩ = R[i]? := by
  have := Block.cell h (3 + i)
  rw [this]
  simp [jL, show 3 + i = i + 1 + 1 + 1 by omega]
theorem JBlk.range (h : JBlk w j a v1 v2 R) : w.rangeAt j 3 R := by
  intro i u hu
  rw [h.c3 i]
  exact hu
theorem JBlk.alloc (h : JBlk w j a v1 v2 R) (o : Obj) : JBlk (w.alloc o) j a v1 v2 R := Block.alloc h o
theorem JBlk.drewN (h : JBlk w j a v1 v2 R) (n : Nat) : JBlk (w.drewN n) j a v1 v2 R := Block.drewN h n
theorem JBlk.below (h : JBlk w j a v1 v2 R) (hb : Below w.heap.size w w') : JBlk w' j a v1 v2 R := Block.below h hb (Block.lt h)
theorem JBlk.put1 (h : JBlk w j a v1 v2 R) (u : Value) : JBlk (w.setCell ⟨j, 1, none⟩ u) j a u v2 R := by
  have := Block.set_ h 1 u
  simpa [JBlk, jL] using this
theorem JBlk.put2 (h : JBlk w j a v1 v2 R) (u : Value) : JBlk (w.setCell ⟨j, 2, none⟩ u) j a v1 u R := by
  have := Block.set_ h 2 u
  simpa [JBlk, jL] using this
end
/-- The record of a journal is stored. -/
theorem wpList_store_last {P : Program} {w : World} {ops : Array Oper} {rest : List Oper} {o : Oper} {a : Act} {Q : Exit → Act → World → Prop} (hgd : o.guard = none) (ty : TypeId) (x y : Operand) (ho : o.op = .store ty x y)
    {g b : Nat} {v1 v2 : Value} {R ds : List Value} (h : JBlk w g b v1 v2 R) (hR : R.length = 44) (hd : ds.length = 44) (hx : a.eval x = .pointer (some ⟨g, 3, none⟩)) (hy : a.eval y = .agg ds.toArray) (hi : (P.info? ty).map (·.size) = some 44) (hone : ∀ u ∈ ds, u.oneCell' = true)
    (hK : ∀ w', JBlk w' g b v1 v2 ds → w.grownBy w' (some g) → wpList P ops Q rest (a.put o.dst undef) w') : wpList P ops Q (o :: rest) a w := by
  refine wpList_store_at hgd ty x y ho h hx hy (by rw [hd]; simp [jL, hR]) (by rw [hd]; exact hi) hone fun w' h1 h2 => hK w' ?_ h2
  have e : ((jL b v1 v2 R).toArray.toList.take 3 ++ (ds ++ (jL b v1 v2 R).toArray.toList.drop (3 + ds.length))) = jL b v1 v2 ds := by
    rw [hd, List.drop_of_length_le (by simp [jL, hR])]
    simp [jL]
  rw [e] at h1
  exact h1

/-- A journal lies at j: on the device at a, its parts at p0 and p1, its last record r. -/
structure JAt (w : World) (j a p0 p1 : Nat) (r : Rec) : Prop where
  j : JBlk w j a (.pointer (some ⟨p0, 0, none⟩)) (.pointer (some ⟨p1, 0, none⟩)) r.cells
  p0 : PartAt w p0 a 0 1
  p1 : PartAt w p1 a 1 1
section
variable {w w' : World} {j a p0 p1 : Nat} {r : Rec}
theorem JAt.below (h : JAt w j a p0 p1 r) (hb : Below w.heap.size w w') : JAt w' j a p0 p1 r := ⟨h.j.below hb, Block.below h.p0 hb (Block.lt h.p0), Block.below h.p1 hb (Block.lt h.p1)⟩
theorem JAt.alloc (h : JAt w j a p0 p1 r) (o : Obj) : JAt (w.alloc o) j a p0 p1 r := ⟨h.j.alloc o, Block.alloc h.p0 o, Block.alloc h.p1 o⟩
theorem JAt.ne0 (h : JAt w j a p0 p1 r) : p0 ≠ j := fun e => by
  have h1 := h.p0
  have h2 := h.j
  unfold PartAt at h1
  unfold JBlk at h2
  rw [e] at h1
  unfold Block at h1 h2
  rw [h1] at h2
  injection h2 with h2
  injection h2 with _ e2 _
  exact absurd e2 (by decide)
theorem JAt.ne1 (h : JAt w j a p0 p1 r) : p1 ≠ j := fun e => by
  have h1 := h.p1
  have h2 := h.j
  unfold PartAt at h1
  unfold JBlk at h2
  rw [e] at h1
  unfold Block at h1 h2
  rw [h1] at h2
  injection h2 with h2
  injection h2 with _ e2 _
  exact absurd e2 (by decide)
theorem JAt.stored (h : JAt w j a p0 p1 r) {t : Rec} (h1 : JBlk w' j a (.pointer (some ⟨p0, 0, none⟩)) (.pointer (some ⟨p1, 0, none⟩)) t.cells) (g : w.grownBy w' (some j)) : JAt w' j a p0 p1 t :=
  ⟨h1, Block.grown h.p0 g (by intro e; injection e with e; exact h.ne0 e.symm), Block.grown h.p1 g (by intro e; injection e with e; exact h.ne1 e.symm)⟩
/-- It stays while the device turns. -/
theorem JAt.turn {I : Nat → Prop} {mk mw : Nat} {s : Dv} (h : JAt w j a p0 p1 r) (hd : DvAt w I a mk mw s) (t : TurnsIn (DSet a mk mw) w w') : JAt w' j a p0 p1 r :=
  ⟨Block.out h.j t (hd.not_cells h.j (by decide)), Block.out h.p0 t (hd.not_cells h.p0 (by decide)), Block.out h.p1 t (hd.not_cells h.p1 (by decide))⟩
end

set_option maxRecDepth 100000 in
set_option maxHeartbeats 3200000 in
/-- The last record. -/
theorem last_any (j a p0 p1 : Nat) (r : Rec) (w : World) (h : JAt w j a p0 p1 r) (hm : r.man.length = 32) : Calls Tryd.prog 18 #[.pointer (some ⟨j, 0, none⟩)] w fun e w' => e = .returned (.agg r.cells.toArray) ∧ Below w.heap.size w w' := by
  have HL := Lib.hid (r.cells_length hm)
  have HO := Lib.hid r.cells_one
  have r0 : Block (w.alloc (.cells rec0.cells.toArray 50)) w.heap.size 50 rec0.cells.toArray := Block.new w _ _
  have hb0 := below_last w (.cells rec0.cells.toArray 50)
  have HZ := Lib.hid (show rec0.cells.toArray.size = 44 from rec0.cells_length rfl)
  have R1 : (w.alloc (.cells rec0.cells.toArray 50)).rangeAt j 3 r.cells := (h.j.alloc _).range
  obtain ⟨L, hL⟩ : ∃ L, r.cells = L := ⟨_, rfl⟩
  rw [hL] at HL HO R1 ⊢
  clear hL h hm
  go_enter Tryd.func18, Tryd.ntmps18
  go_wp2_with (first
    | (refine wpList_load_midV (by rfl) _ _ rfl j 3 rfl L R1 Tryd.underlying50 rfl (by rw [HL.out]; kernel_rfl) ?_)
    | (have _t := r0; refine wpList_store_blk rfl _ _ _ rfl (ds := L) r0 rfl rfl (by rw [HL.out]; rfl) (by rw [HL.out]; kernel_rfl) HO.out ?_; clear _t; intro w9 r9 g9))
  refine bodyPost_ret (v := .agg L.toArray) (results_cell_row rfl _ _ w.heap.size 50 _ (0, 0) _ rfl r9 Tryd.underlying50 rfl (by rw [show L.toArray.size = 44 from HL.out]; kernel_rfl)) rfl ⟨rfl, ?_⟩
  exact hb0.trans (below_of_grown g9 hb0.size fun b hb => by injection hb with hb; omega)

theorem journal_build (a : Nat) (W : World) : (Instr.build 107 #[(0, .pointer (some ⟨a, 0, none⟩))]).run Tryd.prog W = .ok (.agg (jL a (.pointer none) (.pointer none) rec0.cells).toArray) W := by kernel_rfl
/-- The state behind n sectors. -/
def upto (f : Int → List Int × Int) : Nat → Rec × Bool
  | 0 => (rec0, false)
  | n + 1 => stepF f (upto f n) n
theorem upto_last (f : Int → List Int × Int) : (upto f 2).1 = lastF f := rfl
theorem getV_ok {xs : List Int} (ho : Octets xs) : (getV xs).Ok := by
  unfold getV
  split
  · rename_i h
    unfold getE at h
    split at h
    · cases h
    · exact recOf_ok xs ho (by omega)
  · exact rec0_ok
theorem rowF_octets {s : Dv} (hw : Pt.Whole s) (i : Int) : Octets (rowF s.read i) ∧ (rowF s.read i).length ≤ 99 := by
  unfold rowF
  split
  · rename_i h
    have := (hw i (s.read i).1 (Prod.ext rfl h)).2
    exact ⟨fun x hx => this x (List.mem_of_mem_take hx), by rw [List.length_take]; omega⟩
  · exact ⟨fun x hx => (List.not_mem_nil hx).elim, by simp⟩
theorem upto_ok {s : Dv} (hw : Pt.Whole s) : ∀ n, (upto s.read n).1.Ok
  | 0 => rec0_ok
  | n + 1 => by
    show (stepF s.read (upto s.read n) n).1.Ok
    unfold stepF
    split
    · exact getV_ok (rowF_octets hw n).1
    · exact upto_ok hw n

/-- Between the sectors that are read. -/
structure JGo (w W : World) (I : Nat → Prop) (a mk mw j p0 p1 : Nat) (s : Dv) (r : Rec) : Prop where
  d : DvAt W I a mk mw s
  b : Below w.heap.size w W
  at_ : JAt W j a p0 p1 r
  g : w.heap.size ≤ j
theorem JGo.below {w W W' : World} {I : Nat → Prop} {a mk mw j p0 p1 : Nat} {s : Dv} {r : Rec} (h : JGo w W I a mk mw j p0 p1 s r) (hb : Below W.heap.size W W') : JGo w W' I a mk mw j p0 p1 s r :=
  ⟨h.d.below hb, h.b.trans (hb.mono h.b.size), h.at_.below hb, h.g⟩
theorem JGo.stored {w W W' : World} {I : Nat → Prop} {a mk mw j p0 p1 : Nat} {s : Dv} {r t : Rec} (h : JGo w W I a mk mw j p0 p1 s r) (h0 : DvAt w I a mk mw s) (h1 : JBlk W' j a (.pointer (some ⟨p0, 0, none⟩)) (.pointer (some ⟨p1, 0, none⟩)) t.cells) (g : W.grownBy W' (some j)) : JGo w W' I a mk mw j p0 p1 s t :=
  have hb : Below w.heap.size w W' := h.b.trans (below_of_grown g h.b.size fun b hb => by injection hb with hb; have := h.g; omega)
  ⟨h0.below hb, hb, h.at_.stored h1 g, h.g⟩
end Go.Proofs.YtpnodocjpedcmaaDoor.Jr
