/-
  Layer 24, journal: a journal in memory; Last: contracts. Conditions: as each theorem names.
  Layer 25, image: on a device that stays on, in the layout's words; the law's small words: contracts. Conditions: as each theorem names.
-/
import Derived.Test.YtpnodocjpedcmaaDoorMGIays27
import Derived.Test.YtpnodocjpedcmaaDoorMJrH
import Derived.Test.YtpnodocjpedcmaaDoorMGIays14
import Derived.Test.YtpnodocjpedcmaaDoorMImF
import Derived.Test.YtpnodocjpedcmaaDoorMGIays0
namespace Go.Proofs.YtpnodocjpedcmaaDoor.Jr
open Go.ChangeShapes Go.WideShapes Go.ChangeAt Go.RowKit Go.Proofs.YtpnodocjpedcmaaDoor.Kit Go.Proofs.YtpnodocjpedcmaaDoor.Sec
open Go.Proofs.YtpnodocjpedcmaaDoor.Sha (LaidS sumL sumL_length sumL_octets)
open Go.Proofs.YtpnodocjpedcmaaDoor.Pt (PartAt Lies)

/-- A row of cells is stored within a block. -/
theorem wpList_store_at {P : Program} {w : World} {ops : Array Oper} {rest : List Oper} {o : Oper} {a : Act} {Q : Exit → Act → World → Prop} (hgd : o.guard = none) (ty : TypeId) (x y : Operand) (ho : o.op = .store ty x y)
    {g q : Nat} {t : TypeId} {cs : Array Value} {ds : List Value} (h : Block w g t cs) (hx : a.eval x = .pointer (some ⟨g, q, none⟩)) (hy : a.eval y = .agg ds.toArray) (hl : q + ds.length ≤ cs.size) (hi : (P.info? ty).map (·.size) = some ds.length) (hone : ∀ u ∈ ds, u.oneCell' = true)
    (hK : ∀ w', Block w' g t (cs.toList.take q ++ (ds ++ cs.toList.drop (q + ds.length))).toArray → w.grownBy w' (some g) → wpList P ops Q rest (a.put o.dst undef) w') : wpList P ops Q (o :: rest) a w := by
  refine wpList_store_mid hgd ty x y ho g q ds.toArray hx hy ?_ (by simpa using hi) (all_oneCell_toArray hone) ?_
  · intro j hj
    have hj' : q + j < cs.size := by
      have : j < ds.length := by simpa using hj
      omega
    exact ⟨by rw [h.cell, Array.getElem?_eq_getElem hj']; rfl, h.frozen (q + j)⟩
  · refine hK _ ?_ (setCells_grown g _ q w)
    simpa using setCells_block ds q w _ h hl

/-- A journal's cells. -/
def jL (a : Nat) (v1 v2 : Value) (R : List Value) : List Value := .pointer (some ⟨a, 0, none⟩) :: v1 :: v2 :: R
def JBlk (w : World) (j a : Nat) (v1 v2 : Value) (R : List Value) : Prop := Block w j 107 (jL a v1 v2 R).toArray
theorem jL_length (a : Nat) (v1 v2 : Value) (R : List Value) : (jL a v1 v2 R).length = R.length + 3 := rfl
section
variable {w w' : World} {j a : Nat} {v1 v2 : Value} {R : List Value}
theorem JBlk.lt (h : JBlk w j a v1 v2 R) : j < w.heap.size := Block.lt h
theorem JBlk.c0 (h : JBlk w j a v1 v2 R) : w.cell? ⟨j, 0, none⟩ = some (.pointer (some ⟨a, 0, none⟩)) := Block.cell h 0
theorem JBlk.c1 (h : JBlk w j a v1 v2 R) : w.cell? ⟨j, 1, none⟩ = some v1 := Block.cell h 1
theorem JBlk.c2 (h : JBlk w j a v1 v2 R) : w.cell? ⟨j, 2, none⟩ = some v2 := Block.cell h 2
theorem JBlk.free (h : JBlk w j a v1 v2 R) (i : Nat) : w.frozen? ⟨j, i, none⟩ = false := Block.frozen h i
theorem JBlk.c3 (h : JBlk w j a v1 v2 R) (i : Nat) : w.cell? ⟨j, 3 + i, none⟩ = R[i]? := by
  have := Block.cell h (3 + i)
  rw [this]
  simp [jL, show 3 + i = i + 1 + 1 + 1 by omega]
theorem JBlk.range (h : JBlk w j a v1 v2 R) : w.rangeAt j 3 R := by
  intro i u hu
  rw [h.c3 i]
  exact hu
theorem JBlk.alloc (h : JBlk w j a v1 v2 R) (o : Obj) : JBlk (w.alloc o) j a v1 v2 R := Block.alloc h o
theorem JBlk.drewN (h : JBlk w j a v1 v2 R) (n : Nat) : JBlk (w.drewN n) j a v1 v2 R := Block.drewN h n
theorem JBlk.below (h : JBlk w j a v1 v2 R) (hb : Below w.heap.size w w') : JBlk w' j a v1 v2 R := Block.below h hb (Block.lt h)
theorem JBlk.put1 (h : JBlk w j a v1 v2 R) (u : Value) : JBlk (w.setCell ⟨j, 1, none⟩ u) j a u v2 R := by
  have := Block.set_ h 1 u
  simpa [JBlk, jL] using this
theorem JBlk.put2 (h : JBlk w j a v1 v2 R) (u : Value) : JBlk (w.setCell ⟨j, 2, none⟩ u) j a v1 u R := by
  have := Block.set_ h 2 u
  simpa [JBlk, jL] using this
end
/-- The record of a journal is stored. -/
theorem wpList_store_last {P : Program} {w : World} {ops : Array Oper} {rest : List Oper} {o : Oper} {a : Act} {Q : Exit → Act → World → Prop} (hgd : o.guard = none) (ty : TypeId) (x y : Operand) (ho : o.op = .store ty x y)
    {g b : Nat} {v1 v2 : Value} {R ds : List Value} (h : JBlk w g b v1 v2 R) (hR : R.length = 44) (hd : ds.length = 44) (hx : a.eval x = .pointer (some ⟨g, 3, none⟩)) (hy : a.eval y = .agg ds.toArray) (hi : (P.info? ty).map (·.size) = some 44) (hone : ∀ u ∈ ds, u.oneCell' = true)
    (hK : ∀ w', JBlk w' g b v1 v2 ds → w.grownBy w' (some g) → wpList P ops Q rest (a.put o.dst undef) w') : wpList P ops Q (o :: rest) a w := by
  refine wpList_store_at hgd ty x y ho h hx hy (by rw [hd]; simp [jL, hR]) (by rw [hd]; exact hi) hone fun w' h1 h2 => hK w' ?_ h2
  have e : ((jL b v1 v2 R).toArray.toList.take 3 ++ (ds ++ (jL b v1 v2 R).toArray.toList.drop (3 + ds.length))) = jL b v1 v2 ds := by
    rw [hd, List.drop_of_length_le (by simp [jL, hR])]
    simp [jL]
  rw [e] at h1
  exact h1

/-- A journal lies at j: on the device at a, its parts at p0 and p1, its last record r. -/
structure JAt (w : World) (j a p0 p1 : Nat) (r : Rec) : Prop where
  j : JBlk w j a (.pointer (some ⟨p0, 0, none⟩)) (.pointer (some ⟨p1, 0, none⟩)) r.cells
  p0 : PartAt w p0 a 0 1
  p1 : PartAt w p1 a 1 1
section
variable {w w' : World} {j a p0 p1 : Nat} {r : Rec}
theorem JAt.below (h : JAt w j a p0 p1 r) (hb : Below w.heap.size w w') : JAt w' j a p0 p1 r := ⟨h.j.below hb, Block.below h.p0 hb (Block.lt h.p0), Block.below h.p1 hb (Block.lt h.p1)⟩
theorem JAt.alloc (h : JAt w j a p0 p1 r) (o : Obj) : JAt (w.alloc o) j a p0 p1 r := ⟨h.j.alloc o, Block.alloc h.p0 o, Block.alloc h.p1 o⟩
theorem JAt.ne0 (h : JAt w j a p0 p1 r) : p0 ≠ j := fun e => by
  have h1 := h.p0
  have h2 := h.j
  unfold PartAt at h1
  unfold JBlk at h2
  rw [e] at h1
  unfold Block at h1 h2
  rw [h1] at h2
  injection h2 with h2
  injection h2 with _ e2 _
  exact absurd e2 (by decide)
theorem JAt.ne1 (h : JAt w j a p0 p1 r) : p1 ≠ j := fun e => by
  have h1 := h.p1
  have h2 := h.j
  unfold PartAt at h1
  unfold JBlk at h2
  rw [e] at h1
  unfold Block at h1 h2
  rw [h1] at h2
  injection h2 with h2
  injection h2 with _ e2 _
  exact absurd e2 (by decide)
theorem JAt.stored (h : JAt w j a p0 p1 r) {t : Rec} (h1 : JBlk w' j a (.pointer (some ⟨p0, 0, none⟩)) (.pointer (some ⟨p1, 0, none⟩)) t.cells) (g : w.grownBy w' (some j)) : JAt w' j a p0 p1 t :=
  ⟨h1, Block.grown h.p0 g (by intro e; injection e with e; exact h.ne0 e.symm), Block.grown h.p1 g (by intro e; injection e with e; exact h.ne1 e.symm)⟩
/-- It stays while the device turns. -/
theorem JAt.turn {I : Nat → Prop} {mk mw : Nat} {s : Dv} (h : JAt w j a p0 p1 r) (hd : DvAt w I a mk mw s) (t : TurnsIn (DSet a mk mw) w w') : JAt w' j a p0 p1 r :=
  ⟨Block.out h.j t (hd.not_cells h.j (by decide)), Block.out h.p0 t (hd.not_cells h.p0 (by decide)), Block.out h.p1 t (hd.not_cells h.p1 (by decide))⟩
end

set_option maxRecDepth 100000 in
set_option maxHeartbeats 3200000 in
/-- The last record. -/
theorem last_any (j a p0 p1 : Nat) (r : Rec) (w : World) (h : JAt w j a p0 p1 r) (hm : r.man.length = 32) : Calls Tryd.prog 18 #[.pointer (some ⟨j, 0, none⟩)] w fun e w' => e = .returned (.agg r.cells.toArray) ∧ Below w.heap.size w w' := by
  have HL := Lib.hid (r.cells_length hm)
  have HO := Lib.hid r.cells_one
  have r0 : Block (w.alloc (.cells rec0.cells.toArray 50)) w.heap.size 50 rec0.cells.toArray := Block.new w _ _
  have hb0 := below_last w (.cells rec0.cells.toArray 50)
  have HZ := Lib.hid (show rec0.cells.toArray.size = 44 from rec0.cells_length rfl)
  have R1 : (w.alloc (.cells rec0.cells.toArray 50)).rangeAt j 3 r.cells := (h.j.alloc _).range
  obtain ⟨L, hL⟩ : ∃ L, r.cells = L := ⟨_, rfl⟩
  rw [hL] at HL HO R1 ⊢
  clear hL h hm
  go_enter Tryd.func18, Tryd.ntmps18
  go_wp2_with (first
    | (refine wpList_load_midV (by rfl) _ _ rfl j 3 rfl L R1 Tryd.underlying50 rfl (by rw [HL.out]; kernel_rfl) ?_)
    | (have _t := r0; refine wpList_store_blk rfl _ _ _ rfl (ds := L) r0 rfl rfl (by rw [HL.out]; rfl) (by rw [HL.out]; kernel_rfl) HO.out ?_; clear _t; intro w9 r9 g9))
  refine bodyPost_ret (v := .agg L.toArray) (results_cell_row rfl _ _ w.heap.size 50 _ (0, 0) _ rfl r9 Tryd.underlying50 rfl (by rw [show L.toArray.size = 44 from HL.out]; kernel_rfl)) rfl ⟨rfl, ?_⟩
  exact hb0.trans (below_of_grown g9 hb0.size fun b hb => by injection hb with hb; omega)

theorem journal_build (a : Nat) (W : World) : (Instr.build 107 #[(0, .pointer (some ⟨a, 0, none⟩))]).run Tryd.prog W = .ok (.agg (jL a (.pointer none) (.pointer none) rec0.cells).toArray) W := by kernel_rfl
/-- The state behind n sectors. -/
def upto (f : Int → List Int × Int) : Nat → Rec × Bool
  | 0 => (rec0, false)
  | n + 1 => stepF f (upto f n) n
theorem upto_last (f : Int → List Int × Int) : (upto f 2).1 = lastF f := rfl
theorem getV_ok {xs : List Int} (ho : Octets xs) : (getV xs).Ok := by
  unfold getV
  split
  · rename_i h
    unfold getE at h
    split at h
    · cases h
    · exact recOf_ok xs ho (by omega)
  · exact rec0_ok
theorem rowF_octets {s : Dv} (hw : Pt.Whole s) (i : Int) : Octets (rowF s.read i) ∧ (rowF s.read i).length ≤ 99 := by
  unfold rowF
  split
  · rename_i h
    have := (hw i (s.read i).1 (Prod.ext rfl h)).2
    exact ⟨fun x hx => this x (List.mem_of_mem_take hx), by rw [List.length_take]; omega⟩
  · exact ⟨fun x hx => (List.not_mem_nil hx).elim, by simp⟩
theorem upto_ok {s : Dv} (hw : Pt.Whole s) : ∀ n, (upto s.read n).1.Ok
  | 0 => rec0_ok
  | n + 1 => by
    show (stepF s.read (upto s.read n) n).1.Ok
    unfold stepF
    split
    · exact getV_ok (rowF_octets hw n).1
    · exact upto_ok hw n

/-- Between the sectors that are read. -/
structure JGo (w W : World) (I : Nat → Prop) (a mk mw j p0 p1 : Nat) (s : Dv) (r : Rec) : Prop where
  d : DvAt W I a mk mw s
  b : Below w.heap.size w W
  at_ : JAt W j a p0 p1 r
  g : w.heap.size ≤ j
theorem JGo.below {w W W' : World} {I : Nat → Prop} {a mk mw j p0 p1 : Nat} {s : Dv} {r : Rec} (h : JGo w W I a mk mw j p0 p1 s r) (hb : Below W.heap.size W W') : JGo w W' I a mk mw j p0 p1 s r :=
  ⟨h.d.below hb, h.b.trans (hb.mono h.b.size), h.at_.below hb, h.g⟩
theorem JGo.stored {w W W' : World} {I : Nat → Prop} {a mk mw j p0 p1 : Nat} {s : Dv} {r t : Rec} (h : JGo w W I a mk mw j p0 p1 s r) (h0 : DvAt w I a mk mw s) (h1 : JBlk W' j a (.pointer (some ⟨p0, 0, none⟩)) (.pointer (some ⟨p1, 0, none⟩)) t.cells) (g : W.grownBy W' (some j)) : JGo w W' I a mk mw j p0 p1 s t :=
  have hb : Below w.heap.size w W' := h.b.trans (below_of_grown g h.b.size fun b hb => by injection hb with hb; have := h.g; omega)
  ⟨h0.below hb, hb, h.at_.stored h1 g, h.g⟩
end Go.Proofs.YtpnodocjpedcmaaDoor.Jr

namespace Go.Proofs.YtpnodocjpedcmaaDoor.Im
open Go.ChangeShapes Go.WideShapes Go.ChangeAt Go.RowKit Go.Proofs.YtpnodocjpedcmaaDoor.Kit Go.Proofs.YtpnodocjpedcmaaDoor.Sec Go.Proofs.YtpnodocjpedcmaaDoor.Pt

theorem LayOk.near {S B sl : Int} {s t : Dv} (h : LayOk S B sl s) (n : Near s t) : LayOk S B sl t := ⟨h.m, by rw [n.2.2.1]; exact h.z, by rw [n.2.2.2]; exact h.c⟩
theorem apart_of {S B sl k i j : Int} {N M : Nat} {s0 : Dv} {bs cs : List Int} (h : LayOk S B sl s0) (ha : AllOn s0 N M) (hij : (i = 0 ∧ j ≠ 0) ∨ (i ≠ 0 ∧ j = 0)) (hk : 0 ≤ k ∧ k < sl) (hb : (bs.length : Int) ≤ B) (hc : (cs.length : Int) ≤ B)
    {r1 r2 : Int × Dv} (h1 : PWrite s0 (slotF S B sl i) (B * sl).toNat (k * B) bs r1) (h2 : PWrite r1.2 2 B.toNat 0 cs r2) :
    (∀ r r', ReadsP s0 (slotF S B sl j) 0 (B * sl).toNat r → ReadsP r2.2 (slotF S B sl j) 0 (B * sl).toNat r' → r = r' ∧ r.2 = 0) ∧
    (∀ r, PRead r2.2 (slotF S B sl i) (B * sl).toNat (k * B) bs.length r → r = (bs, 0)) ∧ (∀ r, PRead r2.2 2 B.toNat 0 cs.length r → r = (cs, 0)) := by
  obtain ⟨hS, hB, hs, hd, hq, h0, h01, hT, hp⟩ := h.facts
  have hz := h.z
  have hcc := h.c
  rw [ha.z] at hz
  rw [ha.c] at hcc
  obtain ⟨q, hqn⟩ : ∃ q : Nat, B / S = q := ⟨(B / S).toNat, by omega⟩
  obtain ⟨l, hl⟩ : ∃ l : Nat, sl = l := ⟨sl.toNat, by omega⟩
  obtain ⟨e, he⟩ : ∃ e : Nat, k = e := ⟨k.toNat, by omega⟩
  rw [hqn, hz] at hd
  have hBn : B = ((q * N : Nat) : Int) := by rw [Int.natCast_mul]; exact hd.symm
  have hTn : (B * sl).toNat = l * q * N := by
    rw [hBn, hl, ← Int.natCast_mul, Int.toNat_natCast, Nat.mul_comm (q * N) l, ← Nat.mul_assoc]
  have hBt : B.toNat = q * N := by rw [hBn, Int.toNat_natCast]
  have hkB : k * B = ((e * (q * N) : Nat) : Int) := by rw [he, hBn, ← Int.natCast_mul]
  have hsq : sl * (B / S) = ((l * q : Nat) : Int) := by rw [hqn, hl, Int.natCast_mul]
  have hF : ∀ i : Int, slotF S B sl i = (((if i = 0 then 2 + q else 2 + q + l * q) : Nat) : Int) := by
    intro i
    unfold slotF
    rw [hsq, hqn]
    split
    · omega
    · omega
  have hM : 2 + q + l * q + l * q ≤ M := by
    unfold allV at hcc
    rw [hsq, hqn] at hcc
    omega
  rw [hF i, hTn, hkB] at h1
  rw [hBt] at h2
  rw [hF i, hF j, hTn, hkB, hBt]
  have hN : 0 < N := by omega
  refine apart (M := M) (q := q) (sl := l) (k := e) ha hN (by omega) (by omega) hM ?_ (by omega) (by omega) h1 h2
  rcases hij with ⟨e1, e2⟩ | ⟨e1, e2⟩
  · exact Or.inl ⟨by rw [if_pos e1], by rw [if_neg e2]⟩
  · exact Or.inr ⟨by rw [if_neg e1], by rw [if_pos e2]⟩

theorem put_ok {S B sl k i : Int} {N M : Nat} {s0 : Dv} {bs : List Int} (h : LayOk S B sl s0) (ha : AllOn s0 N M) (hk : 0 ≤ k ∧ k < sl) (hb : (bs.length : Int) ≤ B) {r1 : Int × Dv} (h1 : PWrite s0 (slotF S B sl i) (B * sl).toNat (k * B) bs r1) : r1.1 = 0 ∧ AllOn r1.2 N M := by
  obtain ⟨hS, hB, hs, hd, hq, h0, h01, hT, hp⟩ := h.facts
  have hz := h.z
  have hcc := h.c
  rw [ha.z] at hz
  rw [ha.c] at hcc
  obtain ⟨q, hqn⟩ : ∃ q : Nat, B / S = q := ⟨(B / S).toNat, by omega⟩
  obtain ⟨l, hl⟩ : ∃ l : Nat, sl = l := ⟨sl.toNat, by omega⟩
  obtain ⟨e, he⟩ : ∃ e : Nat, k = e := ⟨k.toNat, by omega⟩
  rw [hqn, hz] at hd
  have hBn : B = ((q * N : Nat) : Int) := by rw [Int.natCast_mul]; exact hd.symm
  have hTn : (B * sl).toNat = l * q * N := by
    rw [hBn, hl, ← Int.natCast_mul, Int.toNat_natCast, Nat.mul_comm (q * N) l, ← Nat.mul_assoc]
  have hkB : k * B = ((e * (q * N) : Nat) : Int) := by rw [he, hBn, ← Int.natCast_mul]
  have hsq : sl * (B / S) = ((l * q : Nat) : Int) := by rw [hqn, hl, Int.natCast_mul]
  have hM : 2 + q + l * q + l * q ≤ M := by
    unfold allV at hcc
    rw [hsq, hqn] at hcc
    omega
  obtain ⟨F, hF, hFM⟩ : ∃ F : Nat, slotF S B sl i = F ∧ F + l * q ≤ M := by
    unfold slotF
    rw [hsq, hqn]
    split
    · exact ⟨2 + q, by omega, by omega⟩
    · exact ⟨2 + q + l * q, by omega, by omega⟩
  rw [hF, hTn, hkB] at h1
  have hN : 0 < N := by omega
  have hel : e < l := by omega
  have hkq : e * (q * N) + q * N ≤ l * q * N := by
    have : (e + 1) * (q * N) ≤ l * (q * N) := Nat.mul_le_mul_right _ hel
    rw [Nat.mul_assoc]
    rw [Nat.add_mul, Nat.one_mul] at this
    exact this
  have hkq2 : e * q + q ≤ l * q := by
    have : (e + 1) * q ≤ l * q := Nat.mul_le_mul_right _ hel
    rwa [Nat.add_mul, Nat.one_mul] at this
  have hbl : bs.length ≤ q * N := by omega
  have hmb : manyP N bs ≤ q := many_le hN hbl
  unfold PWrite at h1
  rw [ha.z] at h1
  have htm : (((e * (q * N) : Nat) : Int)).tmod (N : Int) = 0 := by
    rw [← Nat.mul_assoc]
    show Int.tmod ((e * q * N : Nat) : Int) (N : Int) = 0
    rw [Int.natCast_mul]
    exact Int.mul_tmod_left _ _
  rw [if_neg (by rw [htm]; decide), if_pos (by omega)] at h1
  have hst : (((e * (q * N) : Nat) : Int)).toNat / N = e * q := by
    rw [Int.toNat_natCast]
    have := (block_at (q := q) (k := e) (j := 0) hN).1
    simpa using this
  rw [hst] at h1
  have h1' : WritesP s0 ((F + e * q : Nat) : Int) bs r1 := by rw [Int.natCast_add]; exact h1
  obtain ⟨e1, on1, _⟩ := ha.write (j := F + e * q) (by omega) h1'
  exact ⟨e1, on1⟩
theorem keep_ok {S B sl : Int} {N M : Nat} {s0 : Dv} {cs : List Int} (h : LayOk S B sl s0) (ha : AllOn s0 N M) (hc : (cs.length : Int) ≤ B) {r2 : Int × Dv} (h2 : PWrite s0 2 B.toNat 0 cs r2) : r2.1 = 0 ∧ AllOn r2.2 N M := by
  obtain ⟨hS, hB, hs, hd, hq, h0, h01, hT, hp⟩ := h.facts
  have hz := h.z
  have hcc := h.c
  rw [ha.z] at hz
  rw [ha.c] at hcc
  obtain ⟨q, hqn⟩ : ∃ q : Nat, B / S = q := ⟨(B / S).toNat, by omega⟩
  rw [hqn, hz] at hd
  have hBn : B = ((q * N : Nat) : Int) := by rw [Int.natCast_mul]; exact hd.symm
  have hBt : B.toNat = q * N := by rw [hBn, Int.toNat_natCast]
  have hM : 2 + q ≤ M := by
    unfold allV at hcc
    rw [hqn] at hcc hp
    omega
  have hN : 0 < N := by omega
  have hma : manyP N cs ≤ q := many_le hN (by omega)
  rw [hBt] at h2
  unfold PWrite at h2
  rw [ha.z, if_neg (by rw [Int.zero_tmod]; decide), if_pos (by omega)] at h2
  have hst0 : (0 : Int).toNat / N = 0 := Nat.zero_div _
  rw [hst0] at h2
  have h2' : WritesP s0 ((2 : Nat) : Int) cs r2 := by simpa using h2
  obtain ⟨e2, on2, _⟩ := ha.write (j := 2) (by omega) h2'
  exact ⟨e2, on2⟩

def smallB (S B sl : Int) : Bool := Prt.mayB S B sl && (decide (B ≤ 512) && decide (sl ≤ 20))
set_option maxRecDepth 100000 in
set_option maxHeartbeats 3200000 in
theorem small_any (S B sl : Int) (w : World) : Calls Tryd.prog 24 #[.agg #[.int .i64 S, .int .i64 B, .int .i64 sl]] w fun e w' => e = .returned (.bool (smallB S B sl)) ∧ Below w.heap.size w w' := by
  have GM := Lib.hid (fun W => Prt.rmay_any S B sl W)
  have B0 : Below w.heap.size w (w.alloc (.cells #[.int .i64 S, .int .i64 B, .int .i64 sl] 61)) := (Below.refl _ _).alloc (Nat.le_refl _) _
  have X0 := Block.new w 61 #[.int .i64 S, .int .i64 B, .int .i64 sl]
  unfold smallB
  cases hm : Prt.mayB S B sl with
  | false =>
    rw [hm] at GM
    clear hm
    go_enter Tryd.func24, Tryd.ntmps24
    go_wp2_with (go_at_call 39; refine (GM.out _).mono ?_; rintro e w3 ⟨rfl, hb3⟩)
    go_ret
    exact ⟨rfl, B0.trans (hb3.mono B0.size)⟩
  | true =>
    rw [hm] at GM
    clear hm
    by_cases h1 : B ≤ 512
    · have d1 : decide (B ≤ 512) = true := decide_eq_true h1
      by_cases h2 : sl ≤ 20
      · have d2 : decide (sl ≤ 20) = true := decide_eq_true h2
        clear h1 h2
        go_enter Tryd.func24, Tryd.ntmps24
        go_wp2_with (go_at_call 39; refine (GM.out _).mono ?_; rintro e w3 ⟨rfl, hb3⟩; have X3 := X0.below hb3 X0.lt; have x1 := X3.cell 1; have x2 := X3.cell 2; simp at x1 x2)
        go_ret
        exact ⟨by rw [d1, d2]; rfl, B0.trans (hb3.mono B0.size)⟩
      · have d2 : decide (sl ≤ 20) = false := decide_eq_false h2
        clear h1 h2
        go_enter Tryd.func24, Tryd.ntmps24
        go_wp2_with (go_at_call 39; refine (GM.out _).mono ?_; rintro e w3 ⟨rfl, hb3⟩; have X3 := X0.below hb3 X0.lt; have x1 := X3.cell 1; have x2 := X3.cell 2; simp at x1 x2)
        go_ret
        exact ⟨by rw [d1, d2]; rfl, B0.trans (hb3.mono B0.size)⟩
    · have d1 : decide (B ≤ 512) = false := decide_eq_false h1
      clear h1
      go_enter Tryd.func24, Tryd.ntmps24
      go_wp2_with (go_at_call 39; refine (GM.out _).mono ?_; rintro e w3 ⟨rfl, hb3⟩; have X3 := X0.below hb3 X0.lt; have x1 := X3.cell 1; have x2 := X3.cell 2; simp at x1 x2)
      go_ret
      exact ⟨by rw [d1]; rfl, B0.trans (hb3.mono B0.size)⟩
end Go.Proofs.YtpnodocjpedcmaaDoor.Im
