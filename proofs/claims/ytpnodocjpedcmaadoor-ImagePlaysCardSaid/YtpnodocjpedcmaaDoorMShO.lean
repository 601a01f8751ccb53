/-
  Layer 1, sha: the document's block into a state: contract. Conditions: as each theorem names.
-/
import Derived.Test.YtpnodocjpedcmaaDoorMGIays8
import Derived.Deep.RegionHeld3
namespace Go.Proofs.YtpnodocjpedcmaaDoor.Sha
open Go.ChangeShapes Go.WideShapes Go.ChangeAt Go.RowKit Go.Proofs.YtpnodocjpedcmaaDoor.Kit

/-- turn, where the world has drawn. -/
theorem turn_q {x N : Int} {n : Nat} {w : World} {q : Nat} (hN : N = n) (hx : 0 ≤ x ∧ x ≤ 4294967295) (hn : 1 ≤ n ∧ n ≤ 31) :
    Calls Tryd.prog 116 #[.int .u32 x, .int .i64 N] (w.drewN q) fun e w' => e = .returned (.int .u32 (rot x n)) ∧ ∃ m, w' = w.drewN m :=
  Calls.quiet_of (turn_any x N n (w.drewN q) hN hx hn)

/-- wpList_store_arr, said of a store alone: no other operation is tried. -/
theorem wpList_store_arrS {P : Program} {w : World} {ops : Array Oper} {rest : List Oper} {a : Act} {Q : Exit → Act → World → Prop} {ty tt : TypeId} {x y : Operand} {ps : String} {af : Array Edge}
    {g : Nat} {t : TypeId} {k : IntKind} {xs ys : List Int} (h : Arr w g t k xs) (hx : a.eval x = .pointer (some ⟨g, 0, none⟩)) (hy : a.eval y = arrV k ys) (hl : ys.length = xs.length) (hi : (P.info? ty).map (·.size) = some ys.length)
    (hK : ∀ w', Arr w' g t k ys → w.grownBy w' (some g) → wpList P ops Q rest (a.put none undef) w') : wpList P ops Q (⟨none, .store ty x y, tt, ps, af, none⟩ :: rest) a w :=
  wpList_store_arr rfl ty x y rfl h hx hy hl hi hK
theorem wpList_load_arrS {P : Program} {w : World} {ops : Array Oper} {rest : List Oper} {a : Act} {Q : Exit → Act → World → Prop} {ty tt : TypeId} {x : Operand} {dst : Option Tmp} {ps : String} {af : Array Edge}
    {g : Nat} {t : TypeId} {k : IntKind} {xs : List Int} (h : Arr w g t k xs) (hx : a.eval x = .pointer (some ⟨g, 0, none⟩)) {d : TypeDesc} (hu : P.underlying ty = some d) (hd : d.isRow = true) (hi : (P.info? ty).map (·.size) = some xs.length)
    (hK : wpList P ops Q rest (a.put dst (arrV k xs)) w) : wpList P ops Q (⟨dst, .load ty x, tt, ps, af, none⟩ :: rest) a w :=
  wpList_load_arr rfl ty x rfl h hx hu hd hi hK

theorem four64 (w : World) (o1 o2 o3 : Obj) : Arr ((((w.alloc o1).alloc o2).alloc o3).alloc (.cells Z64 166)) (w.heap.size + 1 + 1 + 1) 166 .u32 (List.replicate 64 0) := by
  have h := arr64 (((w.alloc o1).alloc o2).alloc o3)
  rwa [show (((w.alloc o1).alloc o2).alloc o3).heap.size = w.heap.size + 1 + 1 + 1 by simp] at h

/-- What the four blocks of 'one' have. -/
structure OneB (w wr : World) (s ks l : List Int) : Prop where
  st : Arr wr w.heap.size 151 .u32 s
  ks : Arr wr (w.heap.size + 1) 166 .u32 ks
  res : Arr wr (w.heap.size + 1 + 1) 151 .u32 (List.replicate 8 0)
  ws : Arr wr (w.heap.size + 1 + 1 + 1) 166 .u32 l
  below : Below w.heap.size w wr

theorem OneB.draws {w wr : World} {s ks l : List Int} (h : OneB w wr s ks l) (n : Nat) : OneB w (wr.drewN n) s ks l := ⟨h.st, h.ks, h.res, h.ws, below_draws h.below n⟩
theorem OneB.set_ {w wr : World} {s ks l : List Int} (h : OneB w wr s ks l) (i : Nat) (z : Int) : OneB w (wr.setCell ⟨w.heap.size + 1 + 1 + 1, i, none⟩ (.int .u32 z)) s ks (l.set i z) :=
  ⟨h.st.far (by simp <;> omega) _, h.ks.far (by simp <;> omega) _, h.res.far (by simp <;> omega) _, h.ws.set_ i z, h.below.setCell (by simp <;> omega) _⟩

theorem oneB_new {w w2 : World} {s ks l : List Int} {o4 : Obj} (g2 : ((((w.alloc (.cells (s.map (Value.int .u32)).toArray 151)).alloc (.cells (ks.map (Value.int .u32)).toArray 166)).alloc (.cells ((List.replicate 8 (0 : Int)).map (Value.int .u32)).toArray 151)).alloc o4).grownBy w2 (some (w.heap.size + 1 + 1 + 1)))
    (r2 : Arr w2 (w.heap.size + 1 + 1 + 1) 166 .u32 l) : OneB w w2 s ks l := by
  have a1 : Arr (w.alloc (.cells (s.map (Value.int .u32)).toArray 151)) w.heap.size 151 .u32 s := Arr.new w _ _ _
  have z1 : (w.alloc (.cells (s.map (Value.int .u32)).toArray 151)).heap.size = w.heap.size + 1 := by simp
  have b1 := (Below.refl w.heap.size w).alloc (Nat.le_refl _) (.cells (s.map (Value.int .u32)).toArray 151)
  generalize w.alloc (.cells (s.map (Value.int .u32)).toArray 151) = w1 at *
  have a2 : Arr (w1.alloc (.cells (ks.map (Value.int .u32)).toArray 166)) w1.heap.size 166 .u32 ks := Arr.new w1 _ _ _
  rw [z1] at a2
  have z2 : (w1.alloc (.cells (ks.map (Value.int .u32)).toArray 166)).heap.size = w.heap.size + 1 + 1 := by simp [z1]
  have a12 := a1.alloc (.cells (ks.map (Value.int .u32)).toArray 166)
  have b2 := b1.alloc (by omega) (.cells (ks.map (Value.int .u32)).toArray 166)
  generalize w1.alloc (.cells (ks.map (Value.int .u32)).toArray 166) = w1 at *
  have a3 : Arr (w1.alloc (.cells ((List.replicate 8 (0 : Int)).map (Value.int .u32)).toArray 151)) w1.heap.size 151 .u32 (List.replicate 8 0) := Arr.new w1 _ _ _
  rw [z2] at a3
  have z3 : (w1.alloc (.cells ((List.replicate 8 (0 : Int)).map (Value.int .u32)).toArray 151)).heap.size = w.heap.size + 1 + 1 + 1 := by simp [z2]
  have a13 := a12.alloc (.cells ((List.replicate 8 (0 : Int)).map (Value.int .u32)).toArray 151)
  have a23 := a2.alloc (.cells ((List.replicate 8 (0 : Int)).map (Value.int .u32)).toArray 151)
  have b3 := b2.alloc (by omega) (.cells ((List.replicate 8 (0 : Int)).map (Value.int .u32)).toArray 151)
  generalize w1.alloc (.cells ((List.replicate 8 (0 : Int)).map (Value.int .u32)).toArray 151) = w1 at *
  have b4 := b3.alloc (by omega) o4
  exact ⟨(a13.alloc o4).grown g2 (by intro e; injection e with e; omega), (a23.alloc o4).grown g2 (by intro e; injection e with e; omega), (a3.alloc o4).grown g2 (by intro e; injection e with e; omega), r2,
    b4.trans (below_of_grown g2 b4.size fun g hg => by injection hg with hg; omega)⟩

theorem oneB_later {w wr w4 : World} {s ks l : List Int} {o : Obj} (O : OneB w wr s ks l) (g : (wr.alloc o).grownBy w4 (some wr.heap.size)) : OneB w w4 s ks l :=
  ⟨(O.st.alloc o).grown g (by intro e; injection e with e; have := O.st.lt; omega), (O.ks.alloc o).grown g (by intro e; injection e with e; have := O.ks.lt; omega), (O.res.alloc o).grown g (by intro e; injection e with e; have := O.res.lt; omega), (O.ws.alloc o).grown g (by intro e; injection e with e; have := O.ws.lt; omega),
    (O.below.alloc O.below.size o).trans (below_of_grown g (by have := O.below.size; simp; omega) fun b hb => by injection hb with hb; have := O.below.size; omega)⟩

theorem oneB_grown {w wr w4 : World} {s ks l : List Int} {V : Nat} (O : OneB w wr s ks l) (g : wr.grownBy w4 (some V)) (hV : w.heap.size + 1 + 1 + 1 < V) : OneB w w4 s ks l :=
  ⟨O.st.grown g (by intro e; injection e with e; omega), O.ks.grown g (by intro e; injection e with e; omega), O.res.grown g (by intro e; injection e with e; omega), O.ws.grown g (by intro e; injection e with e; omega),
    O.below.trans (below_of_grown g O.below.size fun b hb => by injection hb with hb; omega)⟩

theorem oneB_cell {w wr : World} {s ks l : List Int} {V i : Nat} {u : Value} (O : OneB w wr s ks l) (hV : w.heap.size + 1 + 1 + 1 < V) : OneB w (wr.setCell ⟨V, i, none⟩ u) s ks l :=
  ⟨O.st.far (by simp <;> omega) _, O.ks.far (by simp <;> omega) _, O.res.far (by simp <;> omega) _, O.ws.far (by simp <;> omega) _, O.below.setCell (by simp <;> omega) _⟩
theorem mix_get {L R M : List Int} (h1 : L.length = 8) (h2 : R.length = 8) (hM : M = List.zipWith add32 L R) {j : Nat} (hj : j < 8) : M.getD j 0 = (R.getD j 0 + L.getD j 0) % 4294967296 := by
  subst hM
  rw [List.getD_eq_getElem?_getD, List.getElem?_zipWith, List.getD_eq_getElem?_getD, List.getD_eq_getElem?_getD, List.getElem?_eq_getElem (show j < L.length by omega), List.getElem?_eq_getElem (show j < R.length by omega)]
  simp only [Option.getD_some]
  rw [Int.add_comm]
  rfl
theorem splice_set {M R : List Int} (h1 : M.length = 8) (h2 : R.length = 8) {i : Nat} (hi : i < 8) : (M.take i ++ R.drop i).set i (M.getD i 0) = M.take (i + 1) ++ R.drop (i + 1) := by
  rw [take_snoc (by omega), List.drop_eq_getElem_cons (show i < R.length by omega), List.set_append, if_neg (by simp; omega), List.length_take, show i - min i M.length = 0 by omega, List.set_cons_zero, List.append_assoc]
  rfl
theorem splice_get {M R : List Int} (h1 : M.length = 8) {i : Nat} (hi : i < 8) : (M.take i ++ R.drop i)[i]?.getD 0 = R.getD i 0 := by
  rw [List.getElem?_append_right (by simp; omega), List.length_take, show i - min i M.length = 0 by omega, List.getElem?_drop, Nat.add_zero, List.getD_eq_getElem?_getD]

set_option maxRecDepth 100000 in
set_option maxHeartbeats 6400000 in
theorem one_any (s : List Int) (hs : St8 s) (A : Option Addr) (bs : List Int) (c : Nat) (w : World) (hl : bs.length = 64) (hc : 64 ≤ c) (hm : c ≤ maxLen) (ho : Octets bs) (hr : Holds w w.heap.size .u8 A bs) :
    Calls Tryd.prog 100 #[arrV .u32 s, .slice A 64 c, arrV .u32 cubesL] w fun e w' => e = .returned (arrV .u32 (mixS s bs)) ∧ Below w.heap.size w w' := by
  have hz : ∀ W, (zeroValue 166).run Tryd.prog W = .ok (.agg Z64) W := fun _ => by kernel_rfl
  obtain ⟨ks, hks⟩ : ∃ ks, ks = cubesL := ⟨_, rfl⟩
  have hkl : ks.length = 64 := by rw [hks]; rfl
  rw [← hks]
  have Hks := Lib.hid hks
  have Hkl := Lib.hid hkl
  have hs8 := Lib.hid hs.1
  obtain ⟨b, off, rfl, hb, hcs⟩ := hr (by omega)
  have hll := Lib.hid hl
  clear hks hkl
  unfold maxLen at hm
  unfold arrV
  go_enter Tryd.func100, Tryd.ntmps100
  go_wp2_with (refine wpList_store_arrS (ys := List.replicate 64 0) (by exact four64 w _ _ _) (by rfl) (by rfl) (by rfl) (by kernel_rfl) ?_; intro w2 r2 g2)
  have O2 : OneB w w2 s ks (padZ (sched bs 0)) := oneB_new g2 r2
  clear r2 g2
  go_loopw [8] (fun v wr => ∃ (i : Nat) (l : List Int), i ≤ 64 ∧ v = .int .i64 i ∧ IsSched bs i l ∧ OneB w wr s ks (padZ l)) (fun v _ => 64 - (intOf v).toNat)
  case atStart => exact ⟨0, _, by omega, rfl, ⟨rfl⟩, O2⟩
  case round =>
    clear O2
    obtain ⟨i, l, hi, rfl, hl, O⟩ := hrel
    by_cases hlt : i < 64
    · have hlen := hl.length
      have hpl : (padZ l).length = 64 := padZ_length (by omega)
      have hx := fun j => hl.get j
      have hg := fun j (hj : j < i) => padZ_get (l := l) (i := j) (by omega)
      obtain ⟨l', hl', hset⟩ := hl.next hlt
      have hc := O.ws.cell (i := i) (by omega)
      have hf := O.ws.frozen i
      by_cases h16 : i < 16
      · rw [if_pos h16] at hset
        have d := fun j (hj : 4 * i + j < bs.length) => (O.below.cell (p := ⟨b, off + (4 * i + j), none⟩) hb).trans (hcs (4 * i + j) hj)
        have hbl := hll.out
        have d0 := d 0 (by omega)
        have d1 := d 1 (by omega)
        have d2 := d 2 (by omega)
        have d3 := d 3 (by omega)
        rw [Nat.add_zero] at d0
        have y0 := getD_octet ho (4 * i)
        have y1 := getD_octet ho (4 * i + 1)
        have y2 := getD_octet ho (4 * i + 2)
        have y3 := getD_octet ho (4 * i + 3)
        unfold wordB at hset
        generalize bs.getD (4 * i) 0 = x0 at *
        generalize bs.getD (4 * i + 1) 0 = x1 at *
        generalize bs.getD (4 * i + 2) 0 = x2 at *
        generalize bs.getD (4 * i + 3) 0 = x3 at *
        generalize (padZ l)[i]?.getD 0 = old at *
        have HS := Lib.hid hset
        have hl' := Lib.hid hl'
        have p0 : (0 : Int) ≤ 4 * (i : Int) := by omega
        have p1 : (0 : Int) ≤ 4 * (i : Int) + 1 := by omega
        have p2 : (0 : Int) ≤ 4 * (i : Int) + 2 := by omega
        have p3 : (0 : Int) ≤ 4 * (i : Int) + 3 := by omega
        have q3 : 4 * (i : Int) + 3 < 64 := by omega
        have q0 : 4 * (i : Int) < 64 := by omega
        have q1 : 4 * (i : Int) + 1 < 64 := by omega
        have q2 : 4 * (i : Int) + 2 < 64 := by omega
        clear d hset hx hg hbl hlen hpl hl
        go_wp2_with fail
        have f0 : IntKind.i64.wrap (4 * ↑i) = 4 * ↑i := IntWalk.i64_in _ (by omega)
        have f1 : IntKind.i64.wrap (4 * ↑i + 1) = 4 * ↑i + 1 := IntWalk.i64_in _ (by omega)
        have f2 : IntKind.i64.wrap (4 * ↑i + 2) = 4 * ↑i + 2 := IntWalk.i64_in _ (by omega)
        have f3 : IntKind.i64.wrap (4 * ↑i + 3) = 4 * ↑i + 3 := IntWalk.i64_in _ (by omega)
        have t0 : (4 * (i : Int)).toNat = 4 * i := by omega
        have t1 : (4 * (i : Int) + 1).toNat = 4 * i + 1 := by omega
        have t2 : (4 * (i : Int) + 2).toNat = 4 * i + 2 := by omega
        have t3 : (4 * (i : Int) + 3).toNat = 4 * i + 3 := by omega
        go_still_tail 35, (by kernel_rfl)
        change wpList _ _ _ _ _ wr.drew
        have O1 : OneB w wr.drew s ks (padZ l) := O.draws 1
        have hf1 : wr.drew.frozen? ⟨w.heap.size + 1 + 1 + 1, i, none⟩ = false := hf
        have hc1 : wr.drew.cell? ⟨w.heap.size + 1 + 1 + 1, i, none⟩ = some (.int .u32 old) := hc
        clear f0 f1 f2 f3 t0 t1 t2 t3 p0 p1 p2 p3 q0 q1 q2 q3 O hf hc d0 d1 d2 d3
        generalize wr.drew = w3 at *
        go_wp2_with fail
        have O9 := O1.set_ i (bits BinOp.or .u32 (bits BinOp.or .u32 (bits BinOp.or .u32 (x0 * 16777216) (x1 * 65536)) (x2 * 256)) x3)
        rw [HS.out] at O9
        go_roundw
        case rel => exact ⟨i + 1, l', by omega, by go_num, hl'.out, O9⟩
        case measure => simp [intOf] <;> omega
      · rw [if_neg h16] at hset
        have e16 := O.ws.cell (i := i - 16) (by omega)
        have e15 := O.ws.cell (i := i - 15) (by omega)
        have e7 := O.ws.cell (i := i - 7) (by omega)
        have e2 := O.ws.cell (i := i - 2) (by omega)
        rw [hg _ (by omega)] at e16 e15 e7 e2
        have xx := hx (i - 15)
        have xy := hx (i - 2)
        unfold mixW at hset
        generalize l.getD (i - 16) 0 = a16 at *
        generalize l.getD (i - 15) 0 = x at *
        generalize l.getD (i - 7) 0 = a7 at *
        generalize l.getD (i - 2) 0 = y at *
        generalize (padZ l)[i]?.getD 0 = old at *
        have HS := Lib.hid hset
        have hl' := Lib.hid hl'
        have i16 : 16 ≤ i := by omega
        have i7 : 7 ≤ i := by omega
        have j16 : (16 : Int) ≤ (i : Int) := by omega
        have j7 : (7 : Int) ≤ (i : Int) := by omega
        clear hset hx hg hlen hpl hl
        go_wp2_with fail
        have f0 : IntKind.i64.wrap (↑i - 16) = ↑i - 16 := IntWalk.i64_in _ (by omega)
        have f1 : IntKind.i64.wrap (↑i - 7) = ↑i - 7 := IntWalk.i64_in _ (by omega)
        have p0 : (0 : Int) ≤ (i : Int) - 16 := by omega
        have p1 : (0 : Int) ≤ (i : Int) - 7 := by omega
        have p2 : (0 : Int) ≤ (i : Int) := by omega
        have q0 : (i : Int) - 16 < 64 := by omega
        have q1 : (i : Int) - 7 < 64 := by omega
        have q2 : (i : Int) < 64 := by omega
        have t0 : ((i : Int) - 16).toNat = i - 16 := by omega
        have t1 : ((i : Int) - 7).toNat = i - 7 := by omega
        have G7 := Lib.hid (fun W => turn_any x 7 7 W rfl xx (by decide))
        have G18 := Lib.hid (fun W => turn_any x 18 18 W rfl xx (by decide))
        have G17 := Lib.hid (fun W => turn_any y 17 17 W rfl xy (by decide))
        have G19 := Lib.hid (fun W => turn_any y 19 19 W rfl xy (by decide))
        have n16 : ¬ (i = i - 16) := by omega
        have n16' : ¬ (i - 16 = i) := by omega
        have n7 : ¬ (i = i - 7) := by omega
        have n7' : ¬ (i - 7 = i) := by omega
        clear e15 e2
        go_region_held3 (fun W' => W'.cell? ⟨w.heap.size + 1 + 1 + 1, i - 16, none⟩ = some (.int .u32 a16) ∧ W'.cell? ⟨w.heap.size + 1 + 1 + 1, i - 7, none⟩ = some (.int .u32 a7)) (first | exact ⟨e16, e7⟩ | exact ⟨(World.cell?_setCell_other _ _ _ _ (fun h => n16 (congrArg Addr.off h))).trans e16, (World.cell?_setCell_other _ _ _ _ (fun h => n7 (congrArg Addr.off h))).trans e7⟩ | go_keep)
          (first
            | (go_at_call 116; (with_reducible refine (G7.out _).mono ?_); rintro e w' ⟨rfl, m, rfl⟩)
            | (go_at_call 116; (with_reducible refine (G18.out _).mono ?_); rintro e w' ⟨rfl, m, rfl⟩)
            | (go_at_call 116; (with_reducible refine (G17.out _).mono ?_); rintro e w' ⟨rfl, m, rfl⟩)
            | (go_at_call 116; (with_reducible refine (G19.out _).mono ?_); rintro e w' ⟨rfl, m, rfl⟩))
        clear f0 f1 p0 p1 p2 q0 q1 q2 t0 t1 n16 n16' n7 n7' G7 G18 G17 G19 e16 e7 i16 i7 j16 j7
        rw [add32_wrap, add32_wrap, add32_wrap]
        have O9 := fun n => (O.draws n).set_ i (add32 (add32 (add32 a16 (sig0 x)) a7) (sig1 y))
        simp only [HS.out] at O9
        unfold sig0 sig1 at O9
        have HO := Lib.hid O9
        clear O9 hc hf
        go_wp2_with fail
        go_roundw
        case rel => exact ⟨i + 1, l', by omega, by go_num, hl'.out, HO.out _⟩
        case measure => simp [intOf] <;> omega
    · obtain rfl : i = 64 := by omega
      rw [padZ_full hl.length] at O
      obtain ⟨a0, b0, c0, d0, e0, f0, g0, h0, rfl, wa, wb, wc, wd, we, wf, wg, wh⟩ := hs.open_
      have z8 : Arr (wr.alloc (.cells ((List.replicate 8 (0 : Int)).map (Value.int .u32)).toArray 151)) wr.heap.size 151 .u32 (List.replicate 8 0) := Arr.new _ _ _ _
      clear hcs hr hb ho hll hz hc
      go_wp2_with (first
        | (refine wpList_load_arrS O.st (by rfl) Tryd.underlying151 (by rfl) (by kernel_rfl) ?_)
        | (refine wpList_store_arrS (ys := [a0, b0, c0, d0, e0, f0, g0, h0]) (by exact z8) (by rfl) (by rfl) (by rfl) (by kernel_rfl) ?_; intro w4 v4 g4))
      have hW : w.heap.size + 1 + 1 + 1 < wr.heap.size := O.ws.lt
      have O4 : OneB w w4 [a0, b0, c0, d0, e0, f0, g0, h0] ks l := oneB_later O g4
      clear z8 g4 O
      generalize wr.heap.size = V at *
      go_loopw [12] (fun v wx => ∃ (i : Nat) (va vb vc vd ve vf vg vh : Int), i ≤ 64 ∧ v = .int .i64 i ∧ IsRnd l i [a0, b0, c0, d0, e0, f0, g0, h0] [va, vb, vc, vd, ve, vf, vg, vh] ∧ Arr wx V 151 .u32 [va, vb, vc, vd, ve, vf, vg, vh] ∧ OneB w wx [a0, b0, c0, d0, e0, f0, g0, h0] ks l) (fun v _ => 64 - (intOf v).toNat)
      case atStart => exact ⟨0, a0, b0, c0, d0, e0, f0, g0, h0, by omega, rfl, ⟨rfl⟩, v4, O4⟩
      case round =>
        clear v4 O4
        obtain ⟨i, va, vb, vc, vd, ve, vf, vg, vh, hi, rfl, hR, av, O⟩ := hrel
        by_cases hlt : i < 64
        · have hst := hR.bd ⟨rfl, fun x hx => by
            simp only [List.mem_cons, List.not_mem_nil, or_false] at hx
            rcases hx with rfl | rfl | rfl | rfl | rfl | rfl | rfl | rfl <;> assumption⟩
          have xa := hst.2 va (by simp)
          have xb := hst.2 vb (by simp)
          have xc := hst.2 vc (by simp)
          have xe := hst.2 ve (by simp)
          have xf := hst.2 vf (by simp)
          have xg := hst.2 vg (by simp)
          have j0 : wr.cell? ⟨V, 0, none⟩ = some (.int .u32 va) := av.cell (i := 0) (by simp)
          have j1 : wr.cell? ⟨V, 1, none⟩ = some (.int .u32 vb) := av.cell (i := 1) (by simp)
          have j2 : wr.cell? ⟨V, 2, none⟩ = some (.int .u32 vc) := av.cell (i := 2) (by simp)
          have j3 : wr.cell? ⟨V, 3, none⟩ = some (.int .u32 vd) := av.cell (i := 3) (by simp)
          have j4 : wr.cell? ⟨V, 4, none⟩ = some (.int .u32 ve) := av.cell (i := 4) (by simp)
          have j5 : wr.cell? ⟨V, 5, none⟩ = some (.int .u32 vf) := av.cell (i := 5) (by simp)
          have j6 : wr.cell? ⟨V, 6, none⟩ = some (.int .u32 vg) := av.cell (i := 6) (by simp)
          have j7 : wr.cell? ⟨V, 7, none⟩ = some (.int .u32 vh) := av.cell (i := 7) (by simp)
          have kc := O.ks.cell (i := i) (by rw [Hkl.out]; omega)
          have kw := O.ws.cell (i := i) (by rw [hl.length]; omega)
          have hN := hR.next (k := ks[i]?.getD 0) (x := l[i]?.getD 0) (by rw [Hks.out]; rfl) rfl
          have Pk := Lib.hid (picks_or xe xf xg)
          have Mo := Lib.hid (most_or xa xb xc)
          generalize ks[i]?.getD 0 = K at *
          generalize l[i]?.getD 0 = X at *
          have HN := Lib.hid hN
          have ne4 : V ≠ w.heap.size + 1 := by omega
          have ne5 : V ≠ w.heap.size + 1 + 1 + 1 := by omega
          clear hst hR hN hs wa wb wc wd we wf wg wh
          go_wp2_with fail
          refine wp_region_quiet_lit (by kernel_rfl) (by kernel_rfl) ?_
          repeat (quiet_step (fail))
          quiet_step (exact turn_q (x := ve) (n := 6) rfl xe (by decide))
          repeat (quiet_step (fail))
          quiet_step (exact turn_q (x := ve) (n := 11) rfl xe (by decide))
          repeat (quiet_step (fail))
          quiet_step (exact turn_q (x := ve) (n := 25) rfl xe (by decide))
          repeat (quiet_step (fail))
          refine wpQuiet_nil ?_
          intro _ hw'
          obtain ⟨nq, hw''⟩ := hw'
          subst hw''
          have av2 : Arr (wr.drewN nq) V 151 .u32 [va, vb, vc, vd, ve, vf, vg, vh] := av
          have O2' : OneB w (wr.drewN nq) [a0, b0, c0, d0, e0, f0, g0, h0] ks l := O.draws nq
          have j0 : (wr.drewN nq).cell? ⟨V, 0, none⟩ = some (.int .u32 va) := j0
          have j1 : (wr.drewN nq).cell? ⟨V, 1, none⟩ = some (.int .u32 vb) := j1
          have j2 : (wr.drewN nq).cell? ⟨V, 2, none⟩ = some (.int .u32 vc) := j2
          have j3 : (wr.drewN nq).cell? ⟨V, 3, none⟩ = some (.int .u32 vd) := j3
          have j4 : (wr.drewN nq).cell? ⟨V, 4, none⟩ = some (.int .u32 ve) := j4
          have j5 : (wr.drewN nq).cell? ⟨V, 5, none⟩ = some (.int .u32 vf) := j5
          have j6 : (wr.drewN nq).cell? ⟨V, 6, none⟩ = some (.int .u32 vg) := j6
          clear av O kc kw j7
          generalize wr.drewN nq = w5 at *
          go_wp2_with fail
          refine wp_region_quiet_lit (by kernel_rfl) (by kernel_rfl) ?_
          repeat (quiet_step (fail))
          quiet_step (exact turn_q (x := va) (n := 2) rfl xa (by decide))
          repeat (quiet_step (fail))
          quiet_step (exact turn_q (x := va) (n := 13) rfl xa (by decide))
          repeat (quiet_step (fail))
          quiet_step (exact turn_q (x := va) (n := 22) rfl xa (by decide))
          repeat (quiet_step (fail))
          refine wpQuiet_nil ?_
          intro _ hw'
          obtain ⟨nq, hw''⟩ := hw'
          subst hw''
          have av3 : Arr (w5.drewN nq) V 151 .u32 [va, vb, vc, vd, ve, vf, vg, vh] := av2
          have O3' : OneB w (w5.drewN nq) [a0, b0, c0, d0, e0, f0, g0, h0] ks l := O2'.draws nq
          have j3 : (w5.drewN nq).cell? ⟨V, 3, none⟩ = some (.int .u32 vd) := j3
          have j0 : (w5.drewN nq).cell? ⟨V, 0, none⟩ = some (.int .u32 va) := j0
          have j1 : (w5.drewN nq).cell? ⟨V, 1, none⟩ = some (.int .u32 vb) := j1
          have j2 : (w5.drewN nq).cell? ⟨V, 2, none⟩ = some (.int .u32 vc) := j2
          have j4 : (w5.drewN nq).cell? ⟨V, 4, none⟩ = some (.int .u32 ve) := j4
          have j5 : (w5.drewN nq).cell? ⟨V, 5, none⟩ = some (.int .u32 vf) := j5
          have j6 : (w5.drewN nq).cell? ⟨V, 6, none⟩ = some (.int .u32 vg) := j6
          rw [Pk.out, Mo.out, add32_wrap, add32_wrap, add32_wrap, add32_wrap, add32_wrap]
          obtain ⟨T, hT⟩ : ∃ T, t1 ve vf vg vh K X = T := ⟨_, rfl⟩
          obtain ⟨U, hU⟩ : ∃ U, t2 va vb vc = U := ⟨_, rfl⟩
          have hN2 := HN.out
          rw [hT, hU] at hN2
          have xT : W32 T := by rw [← hT]; exact add32_bd _ _
          have xU : W32 U := by rw [← hU]; exact add32_bd _ _
          unfold t1 sum1 at hT
          unfold t2 sum0 at hU
          rw [hT, hU]
          unfold add32 at hN2
          have HN2 := Lib.hid hN2
          clear hT hU hN2 HN Pk Mo av2 O2' xb xc xe xf xg xa
          generalize w5.drewN nq = w6 at *
          have xd : (0 : Int) ≤ T ∧ T ≤ 4294967295 := xT
          have xu : (0 : Int) ≤ U ∧ U ≤ 4294967295 := xU
          go_wp2_with (refine wpList_store_arr (ys := [(T + U) % 4294967296, va, vb, vc, (vd + T) % 4294967296, ve, vf, vg]) rfl _ _ _ rfl av3 rfl rfl rfl (by kernel_rfl) ?_; intro w7 av7 g7)
          go_roundw
          case rel => exact ⟨i + 1, _, _, _, _, _, _, _, _, by omega, by go_num, HN2.out, av7, oneB_grown O3' g7 (by omega)⟩
          case measure => simp [intOf] <;> omega
        · obtain rfl : i = 64 := by omega
          have hM := hR.mix ⟨hl.out⟩
          have hst := hR.bd hs
          have hML : (mixS [a0, b0, c0, d0, e0, f0, g0, h0] bs).length = 8 := (mixS_st bs hs).1
          have hLL : ([a0, b0, c0, d0, e0, f0, g0, h0] : List Int).length = 8 := rfl
          have hl1 : ([va, vb, vc, vd, ve, vf, vg, vh] : List Int).length = 8 := rfl
          have hget := fun j (hj : j < 8) => mix_get (L := [a0, b0, c0, d0, e0, f0, g0, h0]) (R := [va, vb, vc, vd, ve, vf, vg, vh]) (M := mixS [a0, b0, c0, d0, e0, f0, g0, h0] bs) hLL hl1 (by rw [hM]; rfl) (j := j) hj
          have hb0 := fun j => foldN_get hs j
          have hb1 := fun j => foldN_get hst j
          generalize hS0 : [a0, b0, c0, d0, e0, f0, g0, h0] = S0 at *
          generalize [va, vb, vc, vd, ve, vf, vg, vh] = R0 at *
          generalize hMe : mixS S0 bs = M at *
          have HS0 := Lib.hid hS0
          have HMe := Lib.hid hMe
          clear hR hM hS0 hMe
          go_wp2_with fail
          rw [show ((64 : Nat) : Int) = 64 from rfl]
          go_loopw [17] (fun v wx => ∃ i : Nat, i ≤ 8 ∧ v = .int .i64 i ∧ Arr wx V 151 .u32 (M.take i ++ R0.drop i) ∧ OneB w wx S0 ks l) (fun v _ => 8 - (intOf v).toNat)
          case atStart => exact ⟨0, by omega, rfl, by simpa using av, O⟩
          case round =>
            clear av O
            obtain ⟨i, hi, rfl, av, O⟩ := hrel
            by_cases hlt : i < 8
            · have ml : (M.take i ++ R0.drop i).length = 8 := by simp; omega
              have c1 := av.cell (i := i) (by omega)
              have f1 := av.frozen i
              have c2 := O.st.cell (i := i) (by omega)
              have hg := hget i hlt
              have hset : (M.take i ++ R0.drop i).set i (M.getD i 0) = M.take (i + 1) ++ R0.drop (i + 1) := splice_set hML hl1 hlt
              have hmid : (M.take i ++ R0.drop i)[i]?.getD 0 = R0.getD i 0 := splice_get hML hlt
              rw [hmid] at c1
              have xb1 := hb1 i
              have xb0 := hb0 i
              rw [List.getD_eq_getElem?_getD (l := S0)] at hg xb0
              generalize S0[i]?.getD 0 = X at *
              generalize R0.getD i 0 = Y at *
              have Hset := Lib.hid hset
              have Hg := Lib.hid hg
              have q0 : (0 : Int) ≤ (i : Int) := by omega
              have q1 : (i : Int) < 8 := by omega
              clear ml hset hg hmid hget hb0 hb1
              go_wp2_with fail
              go_still_tail 9, (by kernel_rfl)
              change wpList _ _ _ _ _ wr.drew
              have av1 : Arr wr.drew V 151 .u32 (M.take i ++ R0.drop i) := av
              have O1 : OneB w wr.drew S0 ks l := O.draws 1
              have c1' : wr.drew.cell? ⟨V, i, none⟩ = some (.int .u32 Y) := c1
              have f1' : wr.drew.frozen? ⟨V, i, none⟩ = false := f1
              clear av O c1 f1 c2
              generalize wr.drew = w3 at *
              go_wp2_with fail
              have av9 := av1.set_ i (M.getD i 0)
              rw [Hset.out, Hg.out] at av9
              go_roundw
              case rel => exact ⟨i + 1, by omega, by go_num, av9, oneB_cell O1 (by omega)⟩
              case measure => simp [intOf] <;> omega
            · obtain rfl : i = 8 := by omega
              rw [List.take_of_length_le (by omega), List.drop_of_length_le (by omega), List.append_nil] at av
              have hsl := Lib.hid hML
              have arr8 : Tryd.prog.underlying 151 = some (.array 8 150) := Tryd.underlying151
              have ores := O.res
              have obel := O.below
              clear hget hb0 hb1
              go_wp2_with (first
                | (refine wpList_load_arr rfl _ _ rfl av rfl arr8 rfl (by rw [hsl.out]; kernel_rfl) ?_)
                | (refine wpList_store_arr rfl _ _ _ rfl ores rfl rfl (by rw [hsl.out]; rfl) (by rw [hsl.out]; kernel_rfl) ?_; intro w9 r9 g9))
              refine bodyPost_ret (v := arrV .u32 M) (results_cell_row rfl _ _ (w.heap.size + 1 + 1) 151 _ (0, 0) _ rfl r9 arr8 rfl (by rw [show (M.map (Value.int .u32)).toArray.size = 8 by simp [hML]]; kernel_rfl)) rfl ⟨by rw [← HMe.out, ← HS0.out]; rfl, ?_⟩
              exact obel.trans (below_of_grown g9 obel.size fun b hb => by injection hb with hb; omega)
end Go.Proofs.YtpnodocjpedcmaaDoor.Sha
