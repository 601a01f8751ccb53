/-
  Layer 22, manifest: whether a manifest may be: contracts. Conditions: as each theorem names.
-/
import Derived.Test.YtpdofegmobbipaaMnB
namespace Go.Proofs.Ytpdofegmobbipaa.Mn
open Go.ChangeShapes Go.WideShapes Go.ChangeAt Go.RowKit Go.Proofs.Ytpdofegmobbipaa.Kit Go.Proofs.Ytpdofegmobbipaa.Ordr Go.Proofs.Ytpdofegmobbipaa.Blk

/-- A manifest. -/
structure Man where
  md : Int
  vr : Int
  bk : Int
  ol : Int
  nl : Int
  od : List Int
  nd : List Int
  rt : List Int
  A : Option Addr
  cap : Nat
  ord : List Int
def Man.cells (m : Man) : List Value :=
  .int .u8 m.md :: .int .u64 m.vr :: .int .i64 m.bk :: .int .i64 m.ol :: .int .i64 m.nl :: (m.od.map (Value.int .u8) ++ (m.nd.map (Value.int .u8) ++ (m.rt.map (Value.int .u8) ++ [.slice m.A m.ord.length m.cap])))
/-- A manifest that came in, in a world. -/
structure Man.Ok (m : Man) : Prop where
  md : 0 ≤ m.md ∧ m.md ≤ 255
  vr : 0 ≤ m.vr ∧ m.vr < 18446744073709551616
  bk : -9223372036854775808 ≤ m.bk ∧ m.bk ≤ 9223372036854775807
  ol : -9223372036854775808 ≤ m.ol ∧ m.ol ≤ 9223372036854775807
  nl : -9223372036854775808 ≤ m.nl ∧ m.nl ≤ 9223372036854775807
  odl : m.od.length = 32
  ndl : m.nd.length = 32
  rtl : m.rt.length = 32
  odo : Octets m.od
  ndo : Octets m.nd
  rto : Octets m.rt
  ordo : ∀ z ∈ m.ord, -9223372036854775808 ≤ z ∧ z ≤ 9223372036854775807
  ordl : m.ord.length ≤ m.cap ∧ m.cap ≤ maxLen
abbrev Man.In (m : Man) (w : World) : Prop := Holds w w.heap.size .i64 m.A m.ord
def zero32 : List Int := List.replicate 32 0
/-- How many numbers its order has. -/
def Man.want (m : Man) : Nat := if m.md = 2 then (blocks m.nl m.bk).toNat else 0
/-- May it be? -/
def Man.May (m : Man) : Prop := (m.md = 1 ∨ m.md = 2 ∨ m.md = 3) ∧ inB 128 4096 m.bk = true ∧ inB 0 2147483647 m.ol = true ∧ inB 0 2147483647 m.nl = true ∧ (m.md = 3 → m.ol = 0 ∧ m.od = zero32) ∧ blocks m.nl m.bk ≤ 4096 ∧ OrderOk m.ord m.want
instance (m : Man) : Decidable m.May := by unfold Man.May; exact inferInstance

/-- It lies in block g. -/
def ManAt (w : World) (g : Nat) (m : Man) : Prop := Block w g 27 m.cells.toArray
theorem Man.cell_ord (m : Man) (h : m.Ok) : m.cells.toArray[101]? = some (.slice m.A m.ord.length m.cap) := by
  rw [List.getElem?_toArray, show 101 = 96 + 1 + 1 + 1 + 1 + 1 from rfl]
  unfold Man.cells
  simp only [List.getElem?_cons_succ]
  rw [List.getElem?_append_right (by rw [List.length_map, h.odl]; omega), List.length_map, h.odl, List.getElem?_append_right (by rw [List.length_map, h.ndl]; omega), List.length_map, h.ndl, List.getElem?_append_right (by rw [List.length_map, h.rtl]; omega), List.length_map, h.rtl]
  rfl
theorem ManAt.ints {w : World} {g : Nat} {m : Man} (h : ManAt w g m) :
    w.cell? ⟨g, 0, none⟩ = some (.int .u8 m.md) ∧ w.cell? ⟨g, 1, none⟩ = some (.int .u64 m.vr) ∧ w.cell? ⟨g, 2, none⟩ = some (.int .i64 m.bk) ∧ w.cell? ⟨g, 3, none⟩ = some (.int .i64 m.ol) ∧ w.cell? ⟨g, 4, none⟩ = some (.int .i64 m.nl) :=
  ⟨h.cell 0, h.cell 1, h.cell 2, h.cell 3, h.cell 4⟩
theorem ManAt.order {w : World} {g : Nat} {m : Man} (h : ManAt w g m) (ho : m.Ok) : w.cell? ⟨g, 101, none⟩ = some (.slice m.A m.ord.length m.cap) := (h.cell 101).trans (m.cell_ord ho)
theorem ManAt.old {w : World} {g : Nat} {m : Man} (h : ManAt w g m) (ho : m.Ok) : w.rangeAt g 5 (m.od.map (Value.int .u8)) := by
  intro j v hj
  obtain ⟨hl, _⟩ := List.getElem?_eq_some_iff.1 hj
  rw [h.cell, List.getElem?_toArray, show 5 + j = j + 1 + 1 + 1 + 1 + 1 by omega]
  unfold Man.cells
  simp only [List.getElem?_cons_succ]
  rw [List.getElem?_append_left hl, hj]
theorem ManAt.new {w : World} {g : Nat} {m : Man} (h : ManAt w g m) (ho : m.Ok) : w.rangeAt g 37 (m.nd.map (Value.int .u8)) := by
  intro j v hj
  obtain ⟨hl, _⟩ := List.getElem?_eq_some_iff.1 hj
  rw [h.cell, List.getElem?_toArray, show 37 + j = 32 + j + 1 + 1 + 1 + 1 + 1 by omega]
  unfold Man.cells
  simp only [List.getElem?_cons_succ]
  rw [List.getElem?_append_right (by rw [List.length_map, ho.odl]; omega), List.length_map, ho.odl, List.getElem?_append_left (by omega), show 32 + j - 32 = j by omega, hj]
theorem ManAt.root {w : World} {g : Nat} {m : Man} (h : ManAt w g m) (ho : m.Ok) : w.rangeAt g 69 (m.rt.map (Value.int .u8)) := by
  intro j v hj
  obtain ⟨hl, _⟩ := List.getElem?_eq_some_iff.1 hj
  rw [h.cell, List.getElem?_toArray, show 69 + j = 64 + j + 1 + 1 + 1 + 1 + 1 by omega]
  unfold Man.cells
  simp only [List.getElem?_cons_succ]
  rw [List.getElem?_append_right (by rw [List.length_map, ho.odl]; omega), List.length_map, ho.odl, List.getElem?_append_right (by rw [List.length_map, ho.ndl]; omega), List.length_map, ho.ndl, List.getElem?_append_left (by omega), show 64 + j - 32 - 32 = j by omega, hj]
theorem ManAt.below {w w' : World} {g B : Nat} {m : Man} (h : ManAt w g m) (hb : Below B w w') (hg : g < B) : ManAt w' g m := Block.below h hb hg
theorem ManAt.alloc {w : World} {g : Nat} {m : Man} (h : ManAt w g m) (o : Obj) : ManAt (w.alloc o) g m := Block.alloc h o

/-- A range of cells is loaded, where a guard may stand. -/
theorem wpList_load_midG {P : Program} {w : World} {ops : Array Oper} {rest : List Oper} {o : Oper} {a : Act} {Q : Exit → Act → World → Prop} (hw : Region.wanted o (yielded ops a.tmps) = true) (ty : TypeId) (x : Operand) (ho : o.op = .load ty x)
    (b f : Nat) (hx : a.eval x = .pointer (some ⟨b, f, none⟩)) {k : IntKind} (xs : List Int) (hc : w.rangeAt b f (xs.map (Value.int k))) {d : TypeDesc} (hu : P.underlying ty = some d) (hd : d.isRow = true) (hi : (P.info? ty).map (·.size) = some xs.length)
    (hK : wpList P ops Q rest (a.put o.dst (arrV k xs)) w) : wpList P ops Q (o :: rest) a w :=
  wpList_step fun K hK' => by
    rw [if_pos hw]
    exact wp_load_mid ty x ho b f hx (xs.map (Value.int k)) d hc hu hd (by simpa using hi) (hK' _ _ hK)
theorem run_equal_dg (ys zs : List Int) (hy : ys.length = 32) (hz : zs.length = 32) (w : World) : (Op.equal 24 (arrV .u8 ys) (arrV .u8 zs)).run Try.prog w = .ok (decide (ys = zs)) w := by
  have h := run_eql_arr (P := Try.prog) (w := w) (t := 24) (e := 5) (k := .u8) (k' := .u8) ys zs (by rw [hy]; exact Try.underlying24) (Option.eq_some_of_isSome (by kernel_rfl)) (by kernel_rfl) Try.underlying5 (by kernel_rfl) (by rw [hy, hz])
  unfold arrV at h ⊢
  simp only [binOp] at h
  revert h
  generalize hq : (Op.equal 24 (.agg (ys.map (Value.int .u8)).toArray) (.agg (zs.map (Value.int .u8)).toArray)).run Try.prog w = q
  intro h
  cases q with
  | ok b w2 => simpa [Sem.run_bind, hq] using h
  | halt x w2 => simp [Sem.run_bind, hq] at h
theorem dg_neq (ys zs : List Int) (hy : ys.length = 32) (hz : zs.length = 32) (w : World) : (binOp .neq 24 (arrV .u8 ys) (arrV .u8 zs)).run Try.prog w = .ok (.bool (!decide (ys = zs))) w := by
  have h := run_equal_dg ys zs hy hz w
  unfold arrV at h ⊢
  simp only [binOp]
  simp [h]
theorem dg_eql (ys zs : List Int) (hy : ys.length = 32) (hz : zs.length = 32) (w : World) : (binOp .eql 24 (arrV .u8 ys) (arrV .u8 zs)).run Try.prog w = .ok (.bool (decide (ys = zs))) w := by
  have h := run_equal_dg ys zs hy hz w
  unfold arrV at h ⊢
  simp only [binOp]
  simp [h]
theorem dg_guard (p : BinOp) (hp : p = .neq ∨ p = .eql) (ys zs : List Int) (x y : Operand) (w : World) : (eqGuard p 24 x y (arrV .u8 ys) (arrV .u8 zs)).run Try.prog w = .ok () w := by
  rcases hp with rfl | rfl
  · exact run_eqGuard_agg w .neq 24 x y _ _ (by kernel_rfl)
  · exact run_eqGuard_agg w .eql 24 x y _ _ (by kernel_rfl)
/-- != on sums, where a guard may stand. -/
theorem wpList_neq_dg {w : World} {ops : Array Oper} {rest : List Oper} {o : Oper} {a : Act} {Q : Exit → Act → World → Prop} (hw : Region.wanted o (yielded ops a.tmps) = true) (x y : Operand) (tt : TypeId) (ho : o.op = .binOp .neq 24 x y tt)
    {ys zs : List Int} {b : Bool} (hy : ys.length = 32) (hz : zs.length = 32) (hx : a.eval x = arrV .u8 ys) (hyv : a.eval y = arrV .u8 zs) (hb : decide (ys = zs) = b) (hK : wpList Try.prog ops Q rest (a.put o.dst (.bool (!b))) w) : wpList Try.prog ops Q (o :: rest) a w :=
  wpList_step fun K hK' => by
    rw [if_pos hw]
    have h1 := dg_neq ys zs hy hz w
    have h2 := dg_guard .neq (.inl rfl) ys zs x y w
    rw [hb] at h1
    unfold Oper.wp execOp
    simp only [ho, hx, hyv, Sem.run_bind, Sem.run_pure, h2, Result.andThen_ok, h1]
    exact hK' _ _ hK
theorem wpList_eql_dg {w : World} {ops : Array Oper} {rest : List Oper} {o : Oper} {a : Act} {Q : Exit → Act → World → Prop} (hw : Region.wanted o (yielded ops a.tmps) = true) (x y : Operand) (tt : TypeId) (ho : o.op = .binOp .eql 24 x y tt)
    {ys zs : List Int} {b : Bool} (hy : ys.length = 32) (hz : zs.length = 32) (hx : a.eval x = arrV .u8 ys) (hyv : a.eval y = arrV .u8 zs) (hb : decide (ys = zs) = b) (hK : wpList Try.prog ops Q rest (a.put o.dst (.bool b)) w) : wpList Try.prog ops Q (o :: rest) a w :=
  wpList_step fun K hK' => by
    rw [if_pos hw]
    have h1 := dg_eql ys zs hy hz w
    have h2 := dg_guard .eql (.inr rfl) ys zs x y w
    rw [hb] at h1
    unfold Oper.wp execOp
    simp only [ho, hx, hyv, Sem.run_bind, Sem.run_pure, h2, Result.andThen_ok, h1]
    exact hK' _ _ hK

/-- A value that nothing looks into. -/
def MN (m : Man) : Value := .agg m.cells.toArray
theorem one_all (p : Int → Bool) (x : Int) : [x].all p = p x := by simp
theorem two_all (p : Int → Bool) (x y : Int) : [x, y].all p = (p x && p y) := by simp

set_option maxRecDepth 100000 in
set_option maxHeartbeats 6400000 in
theorem may_any (m : Man) (ho : m.Ok) (w : World) (hr : m.In w) : Calls Try.prog 11 #[.agg m.cells.toArray] w fun e w' => e = .returned (.bool (decide m.May)) ∧ Below w.heap.size w w' := by
  have B1 := below_last w (.cells m.cells.toArray 27)
  have M1 : ManAt (w.alloc (.cells m.cells.toArray 27)) w.heap.size m := Block.new w _ _
  obtain ⟨f0, f1, f2, f3, f4⟩ := M1.ints
  have f5 := M1.order ho
  have c0 : m.cells.toArray[0]? = some (.int .u8 m.md) := rfl
  have c2 : m.cells.toArray[2]? = some (.int .i64 m.bk) := rfl
  have c3 : m.cells.toArray[3]? = some (.int .i64 m.ol) := rfl
  have c4 : m.cells.toArray[4]? = some (.int .i64 m.nl) := rfl
  have c5 := m.cell_ord ho
  have hmd := ho.md
  have hnl := ho.nl
  have hol := ho.ol
  have B2' : Below (w.heap.size + 1) (w.alloc (.cells m.cells.toArray 27)) ((w.alloc (.cells m.cells.toArray 27)).alloc (.cells #[.int .i64 m.bk] 3)) := (Below.refl _ _).alloc (by simp) _
  have s3 := (B2'.cell (p := ⟨w.heap.size, 3, none⟩) (by simp)).trans f3
  have s4 := (B2'.cell (p := ⟨w.heap.size, 4, none⟩) (by simp)).trans f4
  have hMay : Hid (decide m.May = decide ((m.md = 1 ∨ m.md = 2 ∨ m.md = 3) ∧ inB 128 4096 m.bk = true ∧ inB 0 2147483647 m.ol = true ∧ inB 0 2147483647 m.nl = true ∧ (m.md = 3 → m.ol = 0 ∧ m.od = zero32) ∧ blocks m.nl m.bk ≤ 4096 ∧ OrderOk m.ord m.want)) := Lib.hid (by rw [decide_eq_decide]; exact Iff.rfl)
  have B2 := B1.alloc B1.size (.cells #[.int .i64 m.bk] 3)
  have B3 := B2.alloc B2.size (.cells #[.int .i64 m.ol, .int .i64 m.nl] 3)
  have B3' : Below (w.heap.size + 1) (w.alloc (.cells m.cells.toArray 27)) (((w.alloc (.cells m.cells.toArray 27)).alloc (.cells #[.int .i64 m.bk] 3)).alloc (.cells #[.int .i64 m.ol, .int .i64 m.nl] 3)) := ((Below.refl _ _).alloc (by simp) _).alloc (by simp) _
  have M3 := (M1.alloc (.cells #[.int .i64 m.bk] 3)).alloc (.cells #[.int .i64 m.ol, .int .i64 m.nl] 3)
  have O3 := M3.old ho
  have g0 := (B3'.cell (p := ⟨w.heap.size, 0, none⟩) (by simp)).trans f0
  have g2 := (B3'.cell (p := ⟨w.heap.size, 2, none⟩) (by simp)).trans f2
  have g3 := (B3'.cell (p := ⟨w.heap.size, 3, none⟩) (by simp)).trans f3
  have g4 := (B3'.cell (p := ⟨w.heap.size, 4, none⟩) (by simp)).trans f4
  have g5 := (B3'.cell (p := ⟨w.heap.size, 101, none⟩) (by simp)).trans f5
  clear B2'
  have hA1 := (Arr.new (w.alloc (.cells m.cells.toArray 27)) 3 .i64 [m.bk]).holds_all
  have hA2 := (Arr.new ((w.alloc (.cells m.cells.toArray 27)).alloc (.cells #[.int .i64 m.bk] 3)) 3 .i64 [m.ol, m.nl]).holds_all
  rw [show (w.alloc (.cells m.cells.toArray 27)).heap.size = w.heap.size + 1 by simp] at hA1
  rw [show ((w.alloc (.cells m.cells.toArray 27)).alloc (.cells #[.int .i64 m.bk] 3)).heap.size = w.heap.size + 1 + 1 by simp] at hA2
  have GA := none1_any (inB 128 4096) bk_any (some ⟨w.heap.size + 1, 0, none⟩) [m.bk] 1 _ (by simp) hA1
  have GB := none2_any (inB 0 2147483647) sz_any (some ⟨w.heap.size + 1 + 1, 0, none⟩) [m.ol, m.nl] 2 _ (by simp) hA2
  clear hA1 hA2
  simp only [List.map_cons, List.map_nil] at GA GB
  change Calls Try.prog 26 #[.func (.func 27) #[] #[], .slice (some ⟨w.heap.size + 1, 0, none⟩) 1 1] _ _ at GA
  change Calls Try.prog 26 #[.func (.func 28) #[] #[], .slice (some ⟨w.heap.size + 1 + 1, 0, none⟩) 2 2] _ _ at GB
  rw [one_all] at GA
  rw [two_all] at GB
  have KA := Lib.hid GA
  have KB := Lib.hid GB
  clear GA GB
  have GC := Lib.hid (fun W => blocks_any m.nl m.bk W hnl)
  have h0 : 0 ≤ blocks m.nl m.bk := (blocks_bd m.nl m.bk).1
  have HD := Lib.hid ho.odl
  have HDZ : Hid (zero32.length = 32) := Lib.hid (by rfl)
  have HZ : ∀ W, (zeroValue 24).run Try.prog W = .ok (arrV .u8 zero32) W := fun W => by kernel_rfl
  -- the order's own contract, in any later world
  have GO : Hid (∀ (n : Nat) (W : World), n ≤ 4096 → Below w.heap.size w W → Calls Try.prog 30 #[.slice m.A m.ord.length m.cap, .int .i64 (n : Int)] W fun e w' => e = .returned (.bool (decide (OrderOk m.ord n))) ∧ Below W.heap.size W w') := by
    refine Lib.hid fun n W hn hB => order_any m.A m.ord m.cap n W hn ?_ ((hr.below hB).more hB.size)
    have h1 := ho.ordl.1
    have h2 := ho.ordl.2
    unfold maxLen at h2
    omega
  have GR := Lib.hid (fun W => ordered_any m.md (blocks m.nl m.bk) W)
  have hwant : m.want = if m.md = 2 then (blocks m.nl m.bk).toNat else 0 := rfl
  obtain ⟨v, hv⟩ : ∃ v : Value, v = .agg m.cells.toArray := ⟨_, rfl⟩
  obtain ⟨cs, hcs⟩ : ∃ cs, m.cells.toArray = cs := ⟨_, rfl⟩
  rw [hcs] at hv B1 B2 B3 B3' M1 M3 O3 f0 f1 f2 f3 f4 f5 s3 s4 g0 g2 g3 g4 g5 c0 c2 c3 c4 c5 KA KB ⊢
  subst hv
  clear M1 M3 ho hr hcs f1
  obtain ⟨D, hD⟩ : ∃ D, decide m.May = D := ⟨_, rfl⟩
  rw [hD] at hMay ⊢
  clear hD
  generalize m.want = wn at *
  generalize m.md = md at *
  generalize m.bk = bk at *
  generalize m.ol = ol at *
  generalize m.nl = nl at *
  generalize m.od = od at *
  generalize m.A = A at *
  generalize m.cap = cap at *
  generalize m.ord = ord at *
  generalize blocks nl bk = q at *
  generalize inB 128 4096 bk = b1 at *
  generalize inB 0 2147483647 ol = b2 at *
  generalize inB 0 2147483647 nl = b3 at *
  by_cases hm : md = 1 ∨ md = 2 ∨ md = 3
  · cases b1 with
    | false =>
      have HF : Hid (D = false) := Lib.hid (hMay.out.trans (decide_eq_false fun h => by cases h.2.1))
      clear hMay hwant GO GR O3
      rcases hm with rfl | rfl | rfl
      all_goals
        go_enter Try.func11, Try.ntmps11
        go_wp2_with (first
          | (go_at_call 26; (with_reducible refine KA.out.mono ?_); rintro e w1 ⟨rfl, rfl⟩))
        go_ret
        exact ⟨by rw [HF.out]; rfl, B2⟩
    | true =>
      cases hbb : (b2 && b3) with
      | false =>
        have HF : Hid (D = false) := Lib.hid (hMay.out.trans (decide_eq_false fun h => by rw [h.2.2.1, h.2.2.2.1] at hbb; cases hbb))
        rw [hbb] at KB
        clear hMay hwant GO GR hbb O3
        rcases hm with rfl | rfl | rfl
        all_goals
          go_enter Try.func11, Try.ntmps11
          go_wp2_with (first
            | (go_at_call 26; (with_reducible refine KA.out.mono ?_); rintro e w1 ⟨rfl, rfl⟩)
            | (go_at_call 26; (with_reducible refine KB.out.mono ?_); rintro e w1 ⟨rfl, rfl⟩))
          go_ret
          exact ⟨by rw [HF.out]; rfl, B3⟩
      | true =>
        rw [hbb] at KB
        obtain ⟨rfl, rfl⟩ : b2 = true ∧ b3 = true := by simpa using hbb
        clear hbb
        by_cases h3 : md = 3
        · have e3 : (md == 3) = true := by rw [beq_iff_eq]; exact h3
          by_cases hz : ol = 0
          · have e0 : (ol != 0) = false := by rw [hz]; rfl
            have e0' : (ol == 0) = true := by rw [hz]; rfl
            cases hdz : decide (od = zero32) with
            | false =>
              have HF : Hid (D = false) := Lib.hid (hMay.out.trans (decide_eq_false fun h => by rw [decide_eq_false_iff_not] at hdz; exact hdz (h.2.2.2.2.1 h3).2))
              have HQ := Lib.hid hdz
              clear hMay hwant GO GR hdz
              obtain rfl := h3
              obtain rfl := hz
              go_enter Try.func11, Try.ntmps11
              go_wp2_with (first
                | (go_at_call 26; (with_reducible refine KA.out.mono ?_); rintro e w1 ⟨rfl, rfl⟩)
                | (go_at_call 26; (with_reducible refine KB.out.mono ?_); rintro e w1 ⟨rfl, rfl⟩)
                | (have _t := O3; refine wpList_load_midG (by rfl) _ _ rfl _ 5 rfl od O3 Try.underlying24 rfl (by rw [HD.out]; kernel_rfl) ?_)
                | (have _t := HQ; refine wpList_neq_dg (by rfl) _ _ _ rfl HD.out HDZ.out rfl rfl HQ.out ?_))
              go_ret
              exact ⟨by rw [HF.out]; rfl, B3⟩
            | true =>
              have HQ := Lib.hid hdz
              have hdq : od = zero32 := of_decide_eq_true hdz
              clear hdz
              by_cases hq : q ≤ 4096
              · have HF : Hid (D = decide (OrderOk ord (if md = 2 then q.toNat else 0))) := Lib.hid (hMay.out.trans (by rw [decide_eq_decide, hwant]; exact ⟨fun h => h.2.2.2.2.2.2, fun h => ⟨hm, rfl, rfl, rfl, fun _ => ⟨hz, hdq⟩, hq, h⟩⟩))
                have dq : decide (q ≤ 4096) = true := decide_eq_true hq
                clear hMay hwant hdq
                obtain rfl := h3
                obtain rfl := hz
                rw [if_neg (by omega)] at HF GR
                have GO2 := Lib.hid (fun W hB => GO.out 0 W (by omega) hB)
                clear GO
                obtain ⟨t, ht⟩ : ∃ t, decide (OrderOk ord 0) = t := ⟨_, rfl⟩
                rw [ht] at GO2 HF
                clear ht
                go_enter Try.func11, Try.ntmps11
                go_wp2_with (first
                  | (go_at_call 26; (with_reducible refine KA.out.mono ?_); rintro e w1 ⟨rfl, rfl⟩)
                  | (go_at_call 26; (with_reducible refine KB.out.mono ?_); rintro e w1 ⟨rfl, rfl⟩)
                  | (have _t := O3; refine wpList_load_midG (by rfl) _ _ rfl _ 5 rfl od O3 Try.underlying24 rfl (by rw [HD.out]; kernel_rfl) ?_)
                  | (have _t := HQ; refine wpList_neq_dg (by rfl) _ _ _ rfl HD.out HDZ.out rfl rfl HQ.out ?_)
                  | (go_at_call 29; (with_reducible refine (GC.out _).mono ?_); rintro e w1 ⟨rfl, rfl⟩))
                clear KA KB f0 f2 f3 f4 f5 s3 s4 B1 B2
                generalize World.alloc (World.alloc (World.alloc w (.cells cs 27)) (.cells #[.int .i64 bk] 3)) (.cells #[.int .i64 0, .int .i64 nl] 3) = w3 at *
                have k0 := cell_regrown g0
                have k5 := cell_regrown g5
                have G1 := fun d os => GO2.out _ (B3.trans ((below_regrown w3 d os).mono B3.size))
                refine wp_region_quiet_below (by kernel_rfl) (by kernel_rfl) ?_
                repeat (quiet_step (first | exact Calls.regrown_of (G1 _ _) | exact Calls.regrown_of ((GR.out _).mono (fun e w' ⟨h1, h2⟩ => ⟨h1, h2 ▸ Below.refl _ _⟩))))
                refine wpQuiet_nil ?_
                intro _ hw'
                obtain ⟨⟨dq1, osq⟩, hw''⟩ := hw'
                have hbq := below_regrown w3 dq1 osq
                subst hw''
                go_wp2_with fail
                go_ret
                exact ⟨by rw [HF.out]; rfl, B3.trans (hbq.mono B3.size)⟩
              · have HF : Hid (D = false) := Lib.hid (hMay.out.trans (decide_eq_false fun h => hq h.2.2.2.2.2.1))
                have dq : decide (q ≤ 4096) = false := decide_eq_false hq
                clear hMay hwant GO GR hdq
                obtain rfl := h3
                obtain rfl := hz
                go_enter Try.func11, Try.ntmps11
                go_wp2_with (first
                  | (go_at_call 26; (with_reducible refine KA.out.mono ?_); rintro e w1 ⟨rfl, rfl⟩)
                  | (go_at_call 26; (with_reducible refine KB.out.mono ?_); rintro e w1 ⟨rfl, rfl⟩)
                  | (have _t := O3; refine wpList_load_midG (by rfl) _ _ rfl _ 5 rfl od O3 Try.underlying24 rfl (by rw [HD.out]; kernel_rfl) ?_)
                  | (have _t := HQ; refine wpList_neq_dg (by rfl) _ _ _ rfl HD.out HDZ.out rfl rfl HQ.out ?_)
                  | (go_at_call 29; (with_reducible refine (GC.out _).mono ?_); rintro e w1 ⟨rfl, rfl⟩))
                go_quiet (fail)
                go_wp2_with fail
                go_ret
                exact ⟨by rw [HF.out]; rfl, below_draws B3 _⟩
          · have HF : Hid (D = false) := Lib.hid (hMay.out.trans (decide_eq_false fun h => hz (h.2.2.2.2.1 h3).1))
            have e0 : (ol != 0) = true := by rw [bne_iff_ne]; exact hz
            clear hMay hwant GO GR O3
            obtain rfl := h3
            go_enter Try.func11, Try.ntmps11
            go_wp2_with (first
              | (go_at_call 26; (with_reducible refine KA.out.mono ?_); rintro e w1 ⟨rfl, rfl⟩)
              | (go_at_call 26; (with_reducible refine KB.out.mono ?_); rintro e w1 ⟨rfl, rfl⟩))
            go_ret
            exact ⟨by rw [HF.out]; rfl, B3⟩
        · have e3 : (md == 3) = false := by rw [beq_eq_false_iff_ne]; exact h3
          have hm2 : md = 1 ∨ md = 2 := by omega
          by_cases hq : q ≤ 4096
          · have HF : Hid (D = decide (OrderOk ord (if md = 2 then q.toNat else 0))) := Lib.hid (hMay.out.trans (by rw [decide_eq_decide, hwant]; exact ⟨fun h => h.2.2.2.2.2.2, fun h => ⟨hm, rfl, rfl, rfl, fun h => absurd h h3, hq, h⟩⟩))
            have dq : decide (q ≤ 4096) = true := decide_eq_true hq
            clear hMay hwant hm O3
            rcases hm2 with rfl | rfl
            · rw [if_neg (by omega)] at HF GR
              have GO2 := Lib.hid (fun W hB => GO.out 0 W (by omega) hB)
              clear GO
              obtain ⟨t, ht⟩ : ∃ t, decide (OrderOk ord 0) = t := ⟨_, rfl⟩
              rw [ht] at GO2 HF
              clear ht
              go_enter Try.func11, Try.ntmps11
              go_wp2_with (first
                | (go_at_call 26; (with_reducible refine KA.out.mono ?_); rintro e w1 ⟨rfl, rfl⟩)
                | (go_at_call 26; (with_reducible refine KB.out.mono ?_); rintro e w1 ⟨rfl, rfl⟩)
                | (go_at_call 29; (with_reducible refine (GC.out _).mono ?_); rintro e w1 ⟨rfl, rfl⟩))
              clear KA KB f0 f2 f3 f4 f5 s3 s4 B1 B2
              generalize World.alloc (World.alloc (World.alloc w (.cells cs 27)) (.cells #[.int .i64 bk] 3)) (.cells #[.int .i64 ol, .int .i64 nl] 3) = w3 at *
              have k0 := cell_regrown g0
              have k5 := cell_regrown g5
              have G1 := fun d os => GO2.out _ (B3.trans ((below_regrown w3 d os).mono B3.size))
              refine wp_region_quiet_below (by kernel_rfl) (by kernel_rfl) ?_
              repeat (quiet_step (first | exact Calls.regrown_of (G1 _ _) | exact Calls.regrown_of ((GR.out _).mono (fun e w' ⟨h1, h2⟩ => ⟨h1, h2 ▸ Below.refl _ _⟩))))
              refine wpQuiet_nil ?_
              intro _ hw'
              obtain ⟨⟨dq1, osq⟩, hw''⟩ := hw'
              have hbq := below_regrown w3 dq1 osq
              subst hw''
              go_wp2_with fail
              go_ret
              exact ⟨by rw [HF.out]; rfl, B3.trans (hbq.mono B3.size)⟩
            · rw [if_pos rfl] at HF GR
              obtain ⟨x, hx⟩ : ∃ x : Nat, q = (x : Int) := ⟨q.toNat, by omega⟩
              subst hx
              rw [Int.toNat_natCast] at HF
              have GO2 := Lib.hid (fun W hB => GO.out x W (by omega) hB)
              clear GO
              obtain ⟨t, ht⟩ : ∃ t, decide (OrderOk ord x) = t := ⟨_, rfl⟩
              rw [ht] at GO2 HF
              clear ht
              go_enter Try.func11, Try.ntmps11
              go_wp2_with (first
                | (go_at_call 26; (with_reducible refine KA.out.mono ?_); rintro e w1 ⟨rfl, rfl⟩)
                | (go_at_call 26; (with_reducible refine KB.out.mono ?_); rintro e w1 ⟨rfl, rfl⟩)
                | (go_at_call 29; (with_reducible refine (GC.out _).mono ?_); rintro e w1 ⟨rfl, rfl⟩))
              clear KA KB f0 f2 f3 f4 f5 s3 s4 B1 B2
              generalize World.alloc (World.alloc (World.alloc w (.cells cs 27)) (.cells #[.int .i64 bk] 3)) (.cells #[.int .i64 ol, .int .i64 nl] 3) = w3 at *
              have k0 := cell_regrown g0
              have k5 := cell_regrown g5
              have G1 := fun d os => GO2.out _ (B3.trans ((below_regrown w3 d os).mono B3.size))
              refine wp_region_quiet_below (by kernel_rfl) (by kernel_rfl) ?_
              repeat (quiet_step (first | exact Calls.regrown_of (G1 _ _) | exact Calls.regrown_of ((GR.out _).mono (fun e w' ⟨h1, h2⟩ => ⟨h1, h2 ▸ Below.refl _ _⟩))))
              refine wpQuiet_nil ?_
              intro _ hw'
              obtain ⟨⟨dq1, osq⟩, hw''⟩ := hw'
              have hbq := below_regrown w3 dq1 osq
              subst hw''
              go_wp2_with fail
              go_ret
              exact ⟨by rw [HF.out]; rfl, B3.trans (hbq.mono B3.size)⟩
          · have HF : Hid (D = false) := Lib.hid (hMay.out.trans (decide_eq_false fun h => hq h.2.2.2.2.2.1))
            have dq : decide (q ≤ 4096) = false := decide_eq_false hq
            clear hMay hwant GO GR hm O3
            rcases hm2 with rfl | rfl
            all_goals
              go_enter Try.func11, Try.ntmps11
              go_wp2_with (first
                | (go_at_call 26; (with_reducible refine KA.out.mono ?_); rintro e w1 ⟨rfl, rfl⟩)
                | (go_at_call 26; (with_reducible refine KB.out.mono ?_); rintro e w1 ⟨rfl, rfl⟩)
                | (have _t := O3; refine wpList_load_midG (by rfl) _ _ rfl _ 5 rfl od O3 Try.underlying24 rfl (by rw [HD.out]; kernel_rfl) ?_)
                | (have _t := HQ; refine wpList_neq_dg (by rfl) _ _ _ rfl HD.out HDZ.out rfl rfl HQ.out ?_)
                | (go_at_call 29; (with_reducible refine (GC.out _).mono ?_); rintro e w1 ⟨rfl, rfl⟩))
              go_quiet (fail)
              go_wp2_with fail
              go_ret
              exact ⟨by rw [HF.out]; rfl, below_draws B3 _⟩
  · have HF : Hid (D = false) := Lib.hid (hMay.out.trans (decide_eq_false fun h => hm h.1))
    have e1 : (md != 1) = true := by rw [bne_iff_ne]; omega
    have e2 : (md != 2) = true := by rw [bne_iff_ne]; omega
    have e3 : (md != 3) = true := by rw [bne_iff_ne]; omega
    clear hMay hwant GO GR O3
    go_enter Try.func11, Try.ntmps11
    go_wp2
    go_ret
    exact ⟨by rw [HF.out]; rfl, B1⟩
end Go.Proofs.Ytpdofegmobbipaa.Mn
