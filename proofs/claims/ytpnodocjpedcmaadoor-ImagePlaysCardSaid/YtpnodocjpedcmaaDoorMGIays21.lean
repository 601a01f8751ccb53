/-
  Layer 1, sha: the document's sum: contract; the program's sum of bytes. Conditions: as each theorem names.
  Layer 1, sha: the document's sum: contract. Conditions: as each theorem names.
-/
import Derived.Test.YtpnodocjpedcmaaDoorMShO
import Derived.Deep.RegionHeld3
namespace Go.Proofs.YtpnodocjpedcmaaDoor.Sha
open Go.ChangeShapes Go.WideShapes Go.ChangeAt Go.RowKit Go.Proofs.YtpnodocjpedcmaaDoor.Kit

/-- New, behind the result's own block. -/
theorem new_at (w : World) (o : Obj) :
    Calls Tryd.prog 65 #[] (w.alloc o) fun e w' => e = .returned (.pointer (some ⟨w.heap.size + 1, 0, none⟩)) ∧ HashIs w' (w.heap.size + 1) [] ∧ Below (w.heap.size + 1) (w.alloc o) w' := by
  have h := new_any (w.alloc o)
  rwa [show (w.alloc o).heap.size = w.heap.size + 1 by simp] at h

theorem far_of {w : World} {k : IntKind} {A : Option Addr} {xs : List Int} {g : Nat} (hr : Holds w w.heap.size k A xs) (hg : w.heap.size ≤ g) : Far g A xs := fun hx a ha => by
  obtain ⟨b, off, rfl, hb, _⟩ := hr hx
  injection ha with ha
  subst ha
  show b ≠ g
  omega

set_option maxRecDepth 100000 in
set_option maxHeartbeats 3200000 in
theorem psum_any (A : Option Addr) (xs : List Int) (c : Nat) (w : World) (hx : xs.length ≤ 1000000000) (hc : xs.length ≤ c) (hm : c ≤ maxLen) (ho : Octets xs) (hr : Holds w w.heap.size .u8 A xs) (hL : LaidS w) :
    Calls Tryd.prog 92 #[.slice A xs.length c] w fun e w' => e = .returned (arrV .u8 (sumL xs)) ∧ Below w.heap.size w w' := by
  have hg0 : w.heap.size + 1 ≠ 0 := by have := hL.lt (by rw [cubes_length]; omega); omega
  have hfar : Far (w.heap.size + 1) A xs := far_of hr (by omega)
  have GW := fun w1 (h1 : HashIs w1 (w.heap.size + 1) []) (hb : Below w.heap.size w w1) => write_any (w.heap.size + 1) [] A xs c w1 h1 (by simp; omega) (fun _ h => absurd h (by simp)) hc hm ho ((hr.below hb).more hb.size) hfar (hL.below hb) hg0
  simp only [List.nil_append] at GW
  have GS := fun w1 (h1 : HashIs w1 (w.heap.size + 1) xs) (hl : LaidS w1) => hsum_any (w.heap.size + 1) xs w1 h1 hx ho hl hg0
  have GW := Lib.hid GW
  have GS := Lib.hid GS
  have hsl := Lib.hid (sumL_length xs)
  have arr32 : Tryd.prog.underlying 48 = some (.array 32 5) := Tryd.underlying48
  have hb0 : Below w.heap.size w (w.alloc (.cells ((List.replicate 32 (0 : Int)).map (Value.int .u8)).toArray 48)) := (Below.refl _ w).alloc (Nat.le_refl _) _
  have r0 : Arr (w.alloc (.cells ((List.replicate 32 (0 : Int)).map (Value.int .u8)).toArray 48)) w.heap.size 48 .u8 (List.replicate 32 0) := Arr.new w _ _ _
  go_enter Tryd.func92, Tryd.ntmps92
  go_wp2_with (first
    | (go_at_call 65; refine (new_at w _).mono ?_; rintro e w1 ⟨rfl, h1, hb1⟩; have r1 := Block.below r0 hb1 (by omega); have hb1 := hb0.trans (hb1.mono (by omega)))
    | (go_at_call 67; refine (GW.out _ h1 hb1).mono ?_; rintro e w2 ⟨rfl, h2, t2⟩; have hb2 := hb1.trans (t2.toBelow hb1.size (fun b hb he => by omega)); have hL2 := hL.below hb2; have r2 := Block.out r1 t2 (by omega))
    | (go_at_call 68; refine (GS.out _ h2 hL2).mono ?_; rintro e w3 ⟨rfl, hb3⟩; have r3 : Arr w3 w.heap.size 48 .u8 (List.replicate 32 0) := Block.below r2 hb3 (Block.lt r2))
    | (have _t := r3; refine wpList_store_arr rfl _ _ _ rfl r3 rfl rfl (by rw [hsl.out]; rfl) (by rw [hsl.out]; kernel_rfl) ?_; intro w9 r9 g9))
  refine bodyPost_ret (v := arrV .u8 (sumL xs)) (results_cell_row rfl _ _ w.heap.size 48 _ (0, 0) _ rfl r9 arr32 rfl (by rw [show ((sumL xs).map (Value.int .u8)).toArray.size = 32 by simp [sumL_length]]; kernel_rfl)) rfl ⟨rfl, ?_⟩
  have hb4 := hb2.trans (hb3.mono hb2.size)
  exact hb4.trans (below_of_grown g9 hb4.size fun b hb => by injection hb with hb; omega)
end Go.Proofs.YtpnodocjpedcmaaDoor.Sha

namespace Go.Proofs.YtpnodocjpedcmaaDoor.Sha
open Go.ChangeShapes Go.WideShapes Go.ChangeAt Go.RowKit Go.Proofs.YtpnodocjpedcmaaDoor.Kit

/-- The state behind the first i bytes, whole blocks. -/
structure IsFold (P : List Int) (i : Nat) (st : List Int) : Prop where
  out : st = foldN (i / 64) ivL P
theorem IsFold.st {P : List Int} {i : Nat} {st : List Int} (h : IsFold P i st) : St8 st := by rw [h.out]; exact foldN_st _ _ iv_st
theorem IsFold.next {P : List Int} {i : Nat} {st : List Int} (h : IsFold P i st) (hi : i % 64 = 0) : IsFold P (i + 64) (mixS st ((P.drop i).take 64)) :=
  ⟨by rw [show (i + 64) / 64 = i / 64 + 1 by omega, foldN_next, h.out, show 64 * (i / 64) = i by omega]⟩
theorem IsFold.done {P : List Int} {st : List Int} (h : IsFold P P.length st) : st = stateL P := h.out

/-- What the blocks of 'Sum' have. -/
structure SumB (w wr : World) (K : Nat) (st ks : List Int) : Prop where
  res : Arr wr w.heap.size 47 .u8 (List.replicate 32 0)
  s : Arr wr (w.heap.size + 1) 151 .u32 st
  k : Arr wr K 166 .u32 ks
  below : Below w.heap.size w wr

theorem sum_start {w w1 : World} (hb : Below ((w.alloc (.cells ((List.replicate 32 (0 : Int)).map (Value.int .u8)).toArray 47)).alloc (.cells (ivL.map (Value.int .u32)).toArray 151)).heap.size ((w.alloc (.cells ((List.replicate 32 (0 : Int)).map (Value.int .u8)).toArray 47)).alloc (.cells (ivL.map (Value.int .u32)).toArray 151)) w1) :
    Arr w1 w.heap.size 47 .u8 (List.replicate 32 0) ∧ Arr w1 (w.heap.size + 1) 151 .u32 ivL ∧ Below w.heap.size w w1 := by
  have a1 : Arr (w.alloc (.cells ((List.replicate 32 (0 : Int)).map (Value.int .u8)).toArray 47)) w.heap.size 47 .u8 (List.replicate 32 0) := Arr.new w _ _ _
  have z1 : (w.alloc (.cells ((List.replicate 32 (0 : Int)).map (Value.int .u8)).toArray 47)).heap.size = w.heap.size + 1 := by simp
  have b1 := (Below.refl w.heap.size w).alloc (Nat.le_refl _) (.cells ((List.replicate 32 (0 : Int)).map (Value.int .u8)).toArray 47)
  generalize w.alloc (.cells ((List.replicate 32 (0 : Int)).map (Value.int .u8)).toArray 47) = w2 at *
  have a2 : Arr (w2.alloc (.cells (ivL.map (Value.int .u32)).toArray 151)) w2.heap.size 151 .u32 ivL := Arr.new w2 _ _ _
  rw [z1] at a2
  have z2 : (w2.alloc (.cells (ivL.map (Value.int .u32)).toArray 151)).heap.size = w.heap.size + 1 + 1 := by simp [z1]
  have a3 := a1.alloc (.cells (ivL.map (Value.int .u32)).toArray 151)
  have b2 := b1.alloc (by omega) (.cells (ivL.map (Value.int .u32)).toArray 151)
  rw [z2] at hb
  exact ⟨a3.below hb (by omega), a2.below hb (by omega), b2.trans (hb.mono (by omega))⟩

theorem sum_k {w w1 w2 : World} {o : Obj} {st ks : List Int} (r : Arr w1 w.heap.size 47 .u8 (List.replicate 32 0)) (s : Arr w1 (w.heap.size + 1) 151 .u32 st) (hb : Below w.heap.size w w1)
    (k : Arr w2 w1.heap.size 166 .u32 ks) (g : (w1.alloc o).grownBy w2 (some w1.heap.size)) : SumB w w2 w1.heap.size st ks :=
  ⟨(r.alloc o).grown g (by intro e; injection e with e; have := r.lt; omega), (s.alloc o).grown g (by intro e; injection e with e; have := s.lt; omega), k,
    (hb.alloc hb.size o).trans (below_of_grown g (by have := hb.size; simp; omega) fun b hb' => by injection hb' with hb'; have := hb.size; omega)⟩
theorem SumB.later {w wr w2 : World} {K : Nat} {st ks : List Int} (h : SumB w wr K st ks) (hb : Below wr.heap.size wr w2) : SumB w w2 K st ks :=
  ⟨h.res.below hb h.res.lt, h.s.below hb h.s.lt, h.k.below hb h.k.lt, h.below.trans (hb.mono h.below.size)⟩

/-- A whole row is loaded, among the operations that only read. -/
theorem still_load_row {P : Program} {ops : Array Oper} {o : Oper} {a : Act} {w : World} {K : Act → Prop} {E : Prop}
    (hg : o.guard = none) (ty : TypeId) (x : Operand) (ho : o.op = .load ty x) (b f : Nat) (hx : a.eval x = .pointer (some ⟨b, f, none⟩)) (cs : List Value) (d : TypeDesc) (hc : w.rangeAt b f cs)
    (hu : P.underlying ty = some d) (hd : d.isRow = true) (hi : (P.info? ty).map (·.size) = some cs.length) (hK : K (a.put o.dst (.agg cs.toArray))) :
    if Region.wanted o (yielded ops a.tmps) = true then o.still P a w K else E := by
  have hw : Region.wanted o (yielded ops a.tmps) = true := by simp [Region.wanted, hg]
  rw [if_pos hw]
  unfold Oper.still execOp
  simp only [ho, hx, Instr.loadAt, Instr.sureAddr, Sem.run_bind, Sem.run_pure, Result.andThen_ok, run_loadVar_mid w b f ty cs d hc hu hd hi, Oper.stillUpon_value]
  exact hK

theorem range_far8 {W : World} {K g : Nat} {t : TypeId} {k : IntKind} {ks : List Int} (h : Arr W K t k ks) (hne : K ≠ g) (v0 v1 v2 v3 v4 v5 v6 v7 : Value) :
    (((((((((W.setCell ⟨g, 0, none⟩ v0).setCell ⟨g, 1, none⟩ v1).setCell ⟨g, 2, none⟩ v2).setCell ⟨g, 3, none⟩ v3).setCell ⟨g, 4, none⟩ v4).setCell ⟨g, 5, none⟩ v5).setCell ⟨g, 6, none⟩ v6).setCell ⟨g, 7, none⟩ v7).rangeAt K 0 (ks.map (Value.int k))) := by
  rw [eight_sets]
  exact World.rangeAt_setCells_apart h.range _ _ _ (.inl hne)

theorem SumB.ne {w wr : World} {K : Nat} {st ks : List Int} (h : SumB w wr K st ks) : K ≠ w.heap.size + 1 := by
  rintro rfl
  have a := h.s
  have b := h.k
  unfold Arr Block at a b
  rw [a] at b
  injection b with b
  injection b with _ hb
  exact absurd hb (by decide)
theorem arr8_cells {w : World} {g : Nat} {t : TypeId} {a b c d e f x y : Int} (h : Arr w g t .u32 [a, b, c, d, e, f, x, y]) :
    (w.cell? ⟨g, 0, none⟩ = some (.int .u32 a) ∧ w.cell? ⟨g, 1, none⟩ = some (.int .u32 b) ∧ w.cell? ⟨g, 2, none⟩ = some (.int .u32 c) ∧ w.cell? ⟨g, 3, none⟩ = some (.int .u32 d) ∧
    w.cell? ⟨g, 4, none⟩ = some (.int .u32 e) ∧ w.cell? ⟨g, 5, none⟩ = some (.int .u32 f) ∧ w.cell? ⟨g, 6, none⟩ = some (.int .u32 x) ∧ w.cell? ⟨g, 7, none⟩ = some (.int .u32 y)) ∧
    (w.frozen? ⟨g, 0, none⟩ = false ∧ w.frozen? ⟨g, 1, none⟩ = false ∧ w.frozen? ⟨g, 2, none⟩ = false ∧ w.frozen? ⟨g, 3, none⟩ = false ∧
    w.frozen? ⟨g, 4, none⟩ = false ∧ w.frozen? ⟨g, 5, none⟩ = false ∧ w.frozen? ⟨g, 6, none⟩ = false ∧ w.frozen? ⟨g, 7, none⟩ = false) :=
  ⟨⟨h.cell (i := 0) (by simp), h.cell (i := 1) (by simp), h.cell (i := 2) (by simp), h.cell (i := 3) (by simp), h.cell (i := 4) (by simp), h.cell (i := 5) (by simp), h.cell (i := 6) (by simp), h.cell (i := 7) (by simp)⟩,
   ⟨h.frozen 0, h.frozen 1, h.frozen 2, h.frozen 3, h.frozen 4, h.frozen 5, h.frozen 6, h.frozen 7⟩⟩

theorem SumB.store {w wr : World} {K : Nat} {st ks s2 : List Int} (h : SumB w wr K st ks) (h2 : s2.length = st.length) : SumB w (wr.setCells (w.heap.size + 1) 0 (s2.map (Value.int .u32))) K s2 ks := by
  have g := setCells_grown (w.heap.size + 1) (s2.map (Value.int .u32)) 0 wr
  have b := setCells_block (s2.map (Value.int .u32)) 0 wr _ h.s (by simp; omega)
  refine ⟨h.res.grown g (by intro e; injection e with e; omega), ?_, h.k.grown g (by intro e; injection e with e; exact h.ne e.symm), h.below.trans (below_of_grown g h.below.size fun b hb => by injection hb with hb; omega)⟩
  unfold Arr
  have e : ((st.map (Value.int .u32)).take 0 ++ (s2.map (Value.int .u32) ++ (st.map (Value.int .u32)).drop (0 + (s2.map (Value.int .u32)).length))) = s2.map (Value.int .u32) := by simp [h2]
  simp only [] at b
  rwa [e] at b

theorem SumB.fresh {w wr w4 : World} {K : Nat} {st ks : List Int} {o : Obj} (O : SumB w wr K st ks) (g : (wr.alloc o).grownBy w4 (some wr.heap.size)) : SumB w w4 K st ks :=
  ⟨(O.res.alloc o).grown g (by intro e; injection e with e; have := O.res.lt; omega), (O.s.alloc o).grown g (by intro e; injection e with e; have := O.s.lt; omega), (O.k.alloc o).grown g (by intro e; injection e with e; have := O.k.lt; omega),
    (O.below.alloc O.below.size o).trans (below_of_grown g (by have := O.below.size; simp; omega) fun b hb => by injection hb with hb; have := O.below.size; omega)⟩
theorem SumB.cell {w wr : World} {K D i : Nat} {st ks : List Int} {u : Value} (O : SumB w wr K st ks) (h1 : w.heap.size + 1 < D) (h2 : K < D) : SumB w (wr.setCell ⟨D, i, none⟩ u) K st ks :=
  ⟨O.res.far (by simp <;> omega) _, O.s.far (by simp <;> omega) _, O.k.far (by simp <;> omega) _, O.below.setCell (by simp <;> omega) _⟩

theorem SumB.put {w wr w5 : World} {K : Nat} {st ks s2 : List Int} (h : SumB w wr K st ks) (r : Arr w5 (w.heap.size + 1) 151 .u32 s2) (g : wr.grownBy w5 (some (w.heap.size + 1))) : SumB w w5 K s2 ks :=
  ⟨h.res.grown g (by intro e; injection e with e; omega), r, h.k.grown g (by intro e; injection e with e; exact h.ne e.symm), h.below.trans (below_of_grown g h.below.size fun b hb => by injection hb with hb; omega)⟩

theorem holds_mid {w : World} {B : Nat} {k : IntKind} {A : Option Addr} {i q : Nat} {xs : List Int} (h : Holds w B k A xs) {c : Nat} (hc : xs.length ≤ c) :
    Holds w B k (if c = i then A else A.map fun x => x.add i) ((xs.drop i).take q) := holds_take (holds_from h hc)

set_option maxRecDepth 100000 in
set_option maxHeartbeats 3200000 in
theorem rsum_any (A : Option Addr) (xs : List Int) (c : Nat) (w : World) (hx : xs.length ≤ 900000000) (hc : xs.length ≤ c) (hm : c ≤ maxLen) (ho : Octets xs) (hr : Holds w w.heap.size .u8 A xs) :
    Calls Tryd.prog 81 #[.slice A xs.length c] w fun e w' => e = .returned (arrV .u8 (sumL xs)) ∧ Below w.heap.size w w' := by
  obtain ⟨ks, hks⟩ : ∃ ks, ks = cubesL := ⟨_, rfl⟩
  have hkl : ks.length = 64 := by rw [hks]; rfl
  have GR := fun W => roots_any W
  rw [← hks] at GR
  have GR := Lib.hid GR
  have Hks := Lib.hid hks
  have Hkl := Lib.hid hkl
  have GP := Lib.hid (fun W (hb : Below w.heap.size w W) => padded_any A xs c W (by omega) hc hm ((hr.below hb).more hb.size))
  clear hks hkl
  go_enter Tryd.func81, Tryd.ntmps81
  go_wp2_with (first
    | (go_at_call 98; refine (GR.out _).mono ?_; rintro e w1 ⟨rfl, hb1⟩; obtain ⟨r1, s1, hb1⟩ := sum_start hb1)
    | (have _t := r1; refine wpList_store_arr rfl _ _ _ rfl (arr64 w1) rfl rfl (by rw [Hkl.out]; rfl) (by rw [Hkl.out]; kernel_rfl) ?_; intro w2 k2 g2; have B2 := sum_k r1 s1 hb1 k2 g2; have hK := s1.lt; clear _t r1 s1 k2 g2)
    | (have _t := B2; go_at_call 99; refine (GP.out _ B2.below).mono ?_; rintro e w3 ⟨v3, rfl, own3, hb3⟩; have B3 := B2.later hb3))
  obtain ⟨A3, c3, rfl, hl3, hm3, _⟩ := own3.opened
  have hpm := padL_mod xs
  have hpl : (padL xs).length ≤ 1000000000 := by unfold padL; rw [List.length_append, endB_length]; have := tailZ_lt xs.length; omega
  have hpo : Octets (padL xs) := by
    intro x hx
    rcases List.mem_append.1 hx with hx | hx
    · exact ho x hx
    · exact endB_octets _ x hx
  have hsum : sumL xs = digL (stateL (padL xs)) := rfl
  generalize padL xs = P at *
  have Hsum := Lib.hid hsum
  have hB2 := B2.below.size
  clear B2 hb3
  generalize w1.heap.size = K at *
  generalize w2.heap.size = B5 at *
  go_loopw [6] (fun v wr => ∃ (i : Nat) (st : List Int), i ≤ P.length ∧ i % 64 = 0 ∧ v = .int .i64 i ∧ IsFold P i st ∧ SumB w wr K st ks ∧ Own wr B5 5 .u8 (.slice A3 P.length c3) P) (fun v _ => P.length - (intOf v).toNat)
  case atStart => exact ⟨0, ivL, by omega, rfl, rfl, ⟨rfl⟩, B3, own3⟩
  case round =>
    clear B3 own3
    obtain ⟨i, st, hi, hi6, rfl, hF, B, own⟩ := hrel
    by_cases hlt : i < P.length
    · have hle : i + 64 ≤ P.length := by omega
      have hst := hF.st
      have hN := hF.next hi6
      obtain ⟨A4, c4, he4, _, _, hh4⟩ := own.opened
      injection he4 with e1 e2 e3
      subst e1 e3
      clear e2
      have hmid := fun W (h : Holds W W.heap.size .u8 A3 P) => holds_mid (i := i) (q := 64) h hl3
      have hci : ¬ (c3 = i) := by omega
      simp only [if_neg hci] at hmid
      have hbl : ((P.drop i).take 64).length = 64 := by simp; omega
      have hbo : Octets ((P.drop i).take 64) := (hpo.tail i).head 64
      generalize (P.drop i).take 64 = blk at *
      obtain ⟨a0, a1, a2, a3, a4, a5, a6, a7, rfl, _⟩ := hst.open_
      obtain ⟨s0, s1, s2, s3, s4, s5, s6, s7, hmx, _⟩ := (mixS_st blk hst).open_
      rw [hmx] at hN
      unfold maxLen at hm3
      obtain ⟨cs, hcs⟩ : ∃ cs, cs = ks.map (Value.int .u32) := ⟨_, rfl⟩
      have GM : ∀ W (A' : Option Addr), Holds W W.heap.size .u8 A' blk → Calls Tryd.prog 100 #[.agg #[.int .u32 a0, .int .u32 a1, .int .u32 a2, .int .u32 a3, .int .u32 a4, .int .u32 a5, .int .u32 a6, .int .u32 a7], .slice A' 64 (c3 - i), .agg cs.toArray] W fun e w' => e = .returned (.agg #[.int .u32 s0, .int .u32 s1, .int .u32 s2, .int .u32 s3, .int .u32 s4, .int .u32 s5, .int .u32 s6, .int .u32 s7]) ∧ Below W.heap.size W w' := fun W A' hW => by
        have h := one_any [a0, a1, a2, a3, a4, a5, a6, a7] hst A' blk (c3 - i) W hbl (by omega) (by unfold maxLen; omega) hbo hW
        rw [hmx, ← Hks.out] at h
        rw [hcs]
        exact h
      have GM := Lib.hid GM
      have HN := Lib.hid hN
      have Hhh := Lib.hid hh4
      have Hmid := Lib.hid hmid
      have c0 : wr.cell? ⟨w.heap.size + 1, 0, none⟩ = some (.int .u32 a0) := B.s.cell (i := 0) (by simp)
      have c1 : wr.cell? ⟨w.heap.size + 1, 1, none⟩ = some (.int .u32 a1) := B.s.cell (i := 1) (by simp)
      have c2 : wr.cell? ⟨w.heap.size + 1, 2, none⟩ = some (.int .u32 a2) := B.s.cell (i := 2) (by simp)
      have c3' : wr.cell? ⟨w.heap.size + 1, 3, none⟩ = some (.int .u32 a3) := B.s.cell (i := 3) (by simp)
      have c4 : wr.cell? ⟨w.heap.size + 1, 4, none⟩ = some (.int .u32 a4) := B.s.cell (i := 4) (by simp)
      have c5 : wr.cell? ⟨w.heap.size + 1, 5, none⟩ = some (.int .u32 a5) := B.s.cell (i := 5) (by simp)
      have c6 : wr.cell? ⟨w.heap.size + 1, 6, none⟩ = some (.int .u32 a6) := B.s.cell (i := 6) (by simp)
      have c7 : wr.cell? ⟨w.heap.size + 1, 7, none⟩ = some (.int .u32 a7) := B.s.cell (i := 7) (by simp)
      have Bd : SumB w wr.drew K [a0, a1, a2, a3, a4, a5, a6, a7] ks := ⟨B.res, B.s, B.k, below_draws B.below 1⟩
      have ownd : Own wr.drew B5 5 .u8 (.slice A3 P.length c3) P := own.drewN 1
      clear hst hmx hN hh4 hmid hbl
      have m0 : (0 : Int) ≤ (i : Int) := by omega
      have m1 : (i : Int) ≤ (i : Int) + 64 := by omega
      have m2 : (i : Int) + 64 ≤ (c3 : Int) := by omega
      go_wp2_with fail
      have f0 : IntKind.i64.wrap (↑i + 64) = ↑i + 64 := IntWalk.i64_in _ (by omega)
      have t0 : ((i : Int) + 64).toNat = i + 64 := by omega
      have hu := Tryd.underlying166
      have hi4 : (Tryd.prog.info? 166).map (·.size) = some cs.length := by rw [hcs, List.length_map, Hkl.out]; kernel_rfl
      have hcl : cs.length = 64 := by rw [hcs, List.length_map, Hkl.out]
      have hone : ∀ v ∈ cs, v.oneCell' = true := by rw [hcs]; exact ints_one .u32 ks
      have hrg : ∀ W, Arr W K 166 .u32 ks → W.rangeAt K 0 cs := fun W h => by rw [hcs]; exact h.range
      have hrf : ∀ W, Arr W K 166 .u32 ks → ∀ v0 v1 v2 v3 v4 v5 v6 v7 : Value, (((((((((W.setCell ⟨w.heap.size + 1, 0, none⟩ v0).setCell ⟨w.heap.size + 1, 1, none⟩ v1).setCell ⟨w.heap.size + 1, 2, none⟩ v2).setCell ⟨w.heap.size + 1, 3, none⟩ v3).setCell ⟨w.heap.size + 1, 4, none⟩ v4).setCell ⟨w.heap.size + 1, 5, none⟩ v5).setCell ⟨w.heap.size + 1, 6, none⟩ v6).setCell ⟨w.heap.size + 1, 7, none⟩ v7).rangeAt K 0 cs) := fun W h v0 v1 v2 v3 v4 v5 v6 v7 => by rw [hcs]; exact range_far8 h Bd.ne v0 v1 v2 v3 v4 v5 v6 v7
      have Hrg := Lib.hid hrg
      have Hrf := Lib.hid hrf
      have Hcs := Lib.hid hcs
      have hKl := Bd.k.lt
      clear hrg hrf hcs
      refine wp_region_still_tail 7 (by kernel_rfl) (by kernel_rfl) ?_
      simp only [List.take_succ_cons, List.take_zero, List.drop_succ_cons, List.drop_zero]
      still_step
      still_step
      still_step
      still_step
      still_step
      still_step
      refine wpStill_step (fun K9 hK9 => ?_)
      refine still_load_row (by rfl) 166 _ (by rfl) K 0 (by rfl) cs _ (by exact Hrg.out _ Bd.k) hu (by rfl) hi4 ?_
      refine hK9 _ ?_
      clear hK9 K9
      refine wpStill_nil ?_
      have hsl := Bd.s.lt
      go_wp2_with fail
      refine (GM.out _ _ ?_).mono ?_
      · exact Hmid.out _ Hhh.out
      rintro e w4 ⟨rfl, hb4⟩
      have as4 := Bd.s.below hb4 hsl
      go_wp2_with (refine wpList_store_arr (ys := [s0, s1, s2, s3, s4, s5, s6, s7]) rfl _ _ _ rfl as4 rfl rfl rfl (by kernel_rfl) ?_; intro w5 r5 g5)
      have B4 := Bd.later hb4
      have own4 := ownd.below hb4
      have own5 := own4.kept g5 (.inr (own4.ne_block B4.s (by decide)))
      have B9 := B4.put r5 g5
      go_roundw
      case rel => exact ⟨i + 64, [s0, s1, s2, s3, s4, s5, s6, s7], by omega, by omega, by go_num, HN.out, B9, own5⟩
      case measure => simp [intOf] <;> omega
    · obtain rfl : i = P.length := by omega
      have hst := hF.st
      have HS5 : Hid (digL st = sumL xs) := Lib.hid (by rw [hF.done, Hsum.out])
      have hz24 : ∀ W, (zeroValue 47).run Tryd.prog W = .ok (.agg #[.int .u8 0, .int .u8 0, .int .u8 0, .int .u8 0, .int .u8 0, .int .u8 0, .int .u8 0, .int .u8 0, .int .u8 0, .int .u8 0, .int .u8 0, .int .u8 0, .int .u8 0, .int .u8 0, .int .u8 0, .int .u8 0, .int .u8 0, .int .u8 0, .int .u8 0, .int .u8 0, .int .u8 0, .int .u8 0, .int .u8 0, .int .u8 0, .int .u8 0, .int .u8 0, .int .u8 0, .int .u8 0, .int .u8 0, .int .u8 0, .int .u8 0, .int .u8 0]) W := fun _ => by kernel_rfl
      have arr32 : Tryd.prog.underlying 47 = some (.array 32 5) := Tryd.underlying47
      have a24 : Arr (wr.alloc (.cells ((List.replicate 32 (0 : Int)).map (Value.int .u8)).toArray 47)) wr.heap.size 47 .u8 (List.replicate 32 0) := Arr.new wr _ _ _
      clear hF hi6 own
      go_wp2_with (refine wpList_store_arrS (ys := List.replicate 32 0) (by exact a24) (by rfl) (by rfl) (by rfl) (by kernel_rfl) ?_; intro w9 r9 g9)
      have B9 := B.fresh g9
      have hD1 : w.heap.size + 1 < wr.heap.size := B.s.lt
      have hD2 : K < wr.heap.size := B.k.lt
      have r9 : Arr w9 wr.heap.size 47 .u8 (padN 32 ((digL st).take 0)) := r9
      clear B g9 a24 hz24
      generalize wr.heap.size = D at *
      go_loopw [8] (fun s wx => ∃ i : Nat, i ≤ 32 ∧ s = .int .i64 i ∧ Arr wx D 47 .u8 (padN 32 ((digL st).take i)) ∧ SumB w wx K st ks) (fun s _ => 32 - (intOf s).toNat)
      case atStart => exact ⟨0, by omega, rfl, r9, B9⟩
      case round =>
        clear r9 B9
        obtain ⟨i, hi, rfl, a8, B⟩ := hrel
        have htl8 : ((digL st).take i).length = i := by rw [List.length_take, digL_length]; omega
        by_cases hlt : i < 32
        · have kc := B.s.cell (i := i / 4) (by rw [hst.1]; omega)
          have xb := (foldN_get hst (i / 4))
          have hpl : (padN 32 ((digL st).take i)).length = 32 := padN_length (by omega)
          have hc := a8.cell (i := i) (by omega)
          have hf := a8.frozen i
          have hset := padN_set (m := 32) (n := i) (l := (digL st).take i) (x := (digL st).getD i 0) (by omega) (by omega)
          rw [← take_snoc (by rw [digL_length]; omega)] at hset
          have hset := Lib.hid hset
          have hv := digL_get st hlt
          simp only [List.getD_eq_getElem?_getD] at hv xb
          generalize (padN 32 ((digL st).take i))[i]?.getD 0 = old at *
          generalize st[i / 4]?.getD 0 = X at *
          have hv := Lib.hid hv
          clear hpl htl8
          go_wp2_with fail
          have k9 := a8.set_ i ((digL st).getD i 0)
          rw [hset.out, List.getD_eq_getElem?_getD, hv.out] at k9
          go_roundw
          case rel => exact ⟨i + 1, by omega, by go_num, k9, B.cell hD1 hD2⟩
          case measure => simp [intOf] <;> omega
        · obtain rfl : i = 32 := by omega
          rw [padN_full htl8, List.take_of_length_le (by rw [digL_length]; omega), HS5.out] at a8
          have hsl := Lib.hid (sumL_length xs)
          have r8 := B.res
          have hw8 := B.below
          clear htl8
          go_wp2_with (first
            | (refine wpList_load_arr rfl _ _ rfl a8 rfl arr32 rfl (by rw [hsl.out]; kernel_rfl) ?_)
            | (refine wpList_store_arr rfl _ _ _ rfl r8 rfl rfl (by rw [hsl.out]; rfl) (by rw [hsl.out]; kernel_rfl) ?_; intro w9 r9 g9))
          refine bodyPost_ret (v := arrV .u8 (sumL xs)) (results_cell_row rfl _ _ w.heap.size 47 _ (0, 0) _ rfl r9 arr32 rfl (by rw [show ((sumL xs).map (Value.int .u8)).toArray.size = 32 by simp [sumL_length]]; kernel_rfl)) rfl ⟨rfl, ?_⟩
          exact hw8.trans (below_of_grown g9 hw8.size fun b hb => by injection hb with hb; omega)
end Go.Proofs.YtpnodocjpedcmaaDoor.Sha
