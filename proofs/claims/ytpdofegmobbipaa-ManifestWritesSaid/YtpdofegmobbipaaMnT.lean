/-
  Layer 22, manifest: the document's Put: contract. Conditions: as each theorem names.
-/
import Derived.Test.YtpdofegmobbipaaMnS
import Derived.Test.YtpdofegmobbipaaOut
namespace Go.Proofs.Ytpdofegmobbipaa.Mn
open Go.ChangeShapes Go.WideShapes Go.ChangeAt Go.RowKit Go.Proofs.Ytpdofegmobbipaa.Kit Go.Proofs.Ytpdofegmobbipaa.Ordr Go.Proofs.Ytpdofegmobbipaa.Blk Go.Proofs.Ytpdofegmobbipaa.Oct

theorem holds_range {w : World} {g o : Nat} {xs : List Int} (h : w.rangeAt g o (xs.map (Value.int .u8))) (hg : g < w.heap.size) : Holds w w.heap.size .u8 (some ⟨g, o, none⟩) xs := by
  intro _
  refine ⟨g, o, rfl, hg, fun j hj => ?_⟩
  have := h j (.int .u8 (xs.getD j 0)) (by rw [List.getElem?_map, List.getElem?_eq_getElem hj]; simp [List.getD, List.getElem?_eq_getElem hj])
  exact this

/-- append(v, y, z), y and z alone in the newest block, as one step of a region that draws its order. -/
theorem step_append_two {P : Program} {ops : Array Oper} {o : Oper} {a : Act} {w : World} {K : Act → World → Prop} {Q : Exit → Act → World → Prop} {E : Prop}
    (hg : o.guard = none) (s x : Operand) (t : TypeId) (ho : o.op = Op.call { callee := Callee.builtin Builtin.append, args := #[s, x], argTypes := #[t, t] })
    {e : TypeId} {k : IntKind} {bytes : Nat} (he : IntElem P t e k bytes) {B : Nat} {v : Value} {xs : List Int} {y z : Int} (hown : Own w B e k v xs) (hs : a.eval s = v)
    {c : Nat} (hx : a.eval x = .slice (some ⟨w.heap.size, 0, none⟩) 2 c) (hsz : xs.length + 2 ≤ 1099511627776) (hbase : B ≤ w.heap.size)
    (hK : ∀ v' w', Own w' B e k v' (xs ++ [y, z]) → (w.alloc (.cells #[.int k y, .int k z] e)).drew.grownBy w' v.ownBlock → Below B w w' → K (a.put o.dst v') w') :
    if Region.wanted o (yielded ops a.tmps) = true then Oper.wp P o a (w.alloc (.cells #[.int k y, .int k z] e)).drew K Q else E := by
  have hh : Holds (w.alloc (.cells #[.int k y, .int k z] e)).drew (w.heap.size + 1) k (some ⟨w.heap.size, 0, none⟩) [y, z] := by
    intro h0
    obtain ⟨b, off, e1, hb, hc⟩ := (Arr.new w e k [y, z]).holds_all h0
    exact ⟨b, off, e1, by simpa using hb, hc⟩
  refine step_append_ints (w := (w.alloc (.cells #[.int k y, .int k z] e)).drew) (ys := [y, z]) hg s x t ho he (hown.alloc _) hs hx hh (by simpa using hsz) (by show B ≤ (w.alloc _).heap.size; simp; omega) ?_
  intro v' w' h1 h2 h3 _
  exact hK v' w' h1 h2 (((Below.refl B w).alloc hbase _).trans ⟨h3.os, h3.tape, h3.output, h3.size, h3.block⟩)

set_option maxRecDepth 100000 in
set_option maxHeartbeats 6400000 in
theorem rmput_any (m : Man) (ho : m.Ok) (w : World) (hr : m.In w) (h5 : m.ord.length ≤ 5000) : Calls Try.prog 10 #[.agg m.cells.toArray] w (Gives2 m.putV m.putE w) := by
  have B1 := below_last w (.cells m.cells.toArray 27)
  have M1 : ManAt (w.alloc (.cells m.cells.toArray 27)) w.heap.size m := Block.new w _ _
  have R1 := block_range (L := m.cells) M1
  have HL := Lib.hid (m.cells_length ho)
  have GM := Lib.hid (fun W hB => rmay_any m ho W ((hr.below hB).more (Below.size (B := w.heap.size) hB)) h5)
  have g1 := M1.lt
  by_cases hmay : m.May
  · have e1 : m.putV = m.putL := if_pos hmay
    have e2 : m.putE = 0 := if_pos hmay
    rw [e1, e2]
    clear e1 e2
    have hdm : decide m.May = true := decide_eq_true hmay
    rw [hdm] at GM
    clear hdm
    have hbk := inB_yes hmay.2.1
    have hol := inB_yes hmay.2.2.1
    have hnl := inB_yes hmay.2.2.2.1
    have hmd := ho.md
    have hvr := ho.vr
    obtain ⟨l0, l1, l2, l3, l4, l5, l6⟩ := m.pre_length ho
    have L0 := Lib.hid l0
    have L1 := Lib.hid l1
    have L2 := Lib.hid l2
    have L3 := Lib.hid l3
    have L4 := Lib.hid l4
    have L5 := Lib.hid l5
    have L6 := Lib.hid l6
    clear l0 l1 l2 l3 l4 l5 l6
    have HS0 : Hid (m.p0 = [1, m.md] ++ be (clamp 8) m.vr) := Lib.hid rfl
    have HS1 : Hid (m.p1 = m.p0 ++ be (clamp 4) m.bk) := Lib.hid rfl
    have HS2 : Hid (m.p2 = m.p1 ++ be (clamp 4) m.ol) := Lib.hid rfl
    have HS3 : Hid (m.p3 = m.p2 ++ be (clamp 4) m.nl) := Lib.hid rfl
    have GP := Lib.hid rput_any
    have HOD := Lib.hid ho.odl
    have HND := Lib.hid ho.ndl
    have HRT := Lib.hid ho.rtl
    obtain ⟨L, hL⟩ : ∃ L, m.cells = L := ⟨_, rfl⟩
    rw [hL] at B1 M1 R1 HL GM g1 ⊢
    clear hL
    generalize hW : w.alloc (.cells L.toArray 27) = w1 at *
    go_enter Try.func10, Try.ntmps10
    go_wp2_with (first
      | (have _t := R1; rw [hW]; refine wpList_load_midV (by rfl) _ _ rfl _ 0 rfl L R1 Try.underlying27 rfl (by rw [HL.out]; kernel_rfl) ?_)
      | (have _t := R1; refine wpList_load_midV (by rfl) _ _ rfl _ 0 rfl L R1 Try.underlying27 rfl (by rw [HL.out]; kernel_rfl) ?_)
      | (go_at_call 12; (with_reducible refine (GM.out _ B1).mono ?_); rintro e w2 ⟨rfl, hb⟩; have M2 := M1.below hb g1; have B2 := B1.trans (hb.mono B1.size); obtain ⟨f0, f1, f2, f3, f4⟩ := M2.ints; have e1 := (M2.alloc (.cells #[.int .u8 1, .int .u8 m.md] 5)).ints.2.1; clear hb))
    have A3 := Arr.new w2 5 .u8 [1, m.md]
    have M3 := M2.alloc (.cells (([1, m.md] : List Int).map (Value.int .u8)).toArray 5)
    have B3 := B2.alloc B2.size (.cells (([1, m.md] : List Int).map (Value.int .u8)).toArray 5)
    simp only [List.map_cons, List.map_nil] at A3 M3 B3
    have P3 := GP.out _ [1, m.md] 2 0 8 m.vr _ (by simp) A3.holds_all (by omega)
    rw [← HS0.out] at P3
    refine P3.mono ?_
    rintro e w4 ⟨v, rfl, own, hb⟩
    have M := M3.below hb M3.lt
    have B := B3.trans (hb.mono B3.size)
    replace own : Own w4 w.heap.size 5 .u8 v m.p0 := own.mono B3.size
    clear hb P3 M3 B3 A3 M2 B2 f0 f1 f2 f3 f4 e1 hW R1 M1 B1 g1
    obtain ⟨f0, f1, f2, f3, f4⟩ := M.ints
    obtain ⟨A, c, rfl, hcl, hcm, hrd⟩ := own.opened
    have P := GP.out A m.p0 c 0 4 m.bk w4 (by rw [L0.out]; omega) hrd (by omega)
    rw [← HS1.out] at P
    go_wp2_with fail
    refine P.mono ?_
    rintro e w5 ⟨v, rfl, own5, hb⟩
    replace M := M.below hb M.lt
    replace own : Own w5 w.heap.size 5 .u8 v m.p1 := own5.mono B.size
    replace B := B.trans (hb.mono B.size)
    clear hb P own5 hrd hcl hcm f0 f1 f2 f3 f4
    obtain ⟨f0, f1, f2, f3, f4⟩ := M.ints
    obtain ⟨A, c, rfl, hcl, hcm, hrd⟩ := own.opened
    have P := GP.out A m.p1 c 0 4 m.ol w5 (by rw [L1.out]; omega) hrd (by omega)
    rw [← HS2.out] at P
    go_wp2_with fail
    refine P.mono ?_
    rintro e w6 ⟨v, rfl, own5, hb⟩
    replace M := M.below hb M.lt
    replace own : Own w6 w.heap.size 5 .u8 v m.p2 := own5.mono B.size
    replace B := B.trans (hb.mono B.size)
    clear hb P own5 hrd hcl hcm f0 f1 f2 f3 f4
    obtain ⟨f0, f1, f2, f3, f4⟩ := M.ints
    obtain ⟨A, c, rfl, hcl, hcm, hrd⟩ := own.opened
    have P := GP.out A m.p2 c 0 4 m.nl w6 (by rw [L2.out]; omega) hrd (by omega)
    rw [← HS3.out] at P
    go_wp2_with fail
    refine P.mono ?_
    rintro e w7 ⟨v, rfl, own5, hb⟩
    replace M := M.below hb M.lt
    replace own : Own w7 w.heap.size 5 .u8 v m.p3 := own5.mono B.size
    replace B := B.trans (hb.mono B.size)
    clear hb P own5 hrd hcl hcm f0 f1 f2 f3 f4
    have h1 := holds_range (M.old ho) M.lt
    have h2 := holds_range (M.new ho) M.lt
    have h3 := holds_range (M.root ho) M.lt
    go_wp2_with (first
      | (have _t := own; refine wpList_append_ints _ rfl (.tmp 32) (.tmp 34) 29 rfl elem8 own rfl (by rw [HOD.out]; rfl) h1 (by rw [L3.out, HOD.out]; omega) B.size ?_; clear _t; intro v8 w8 own8 g8 hb8 _; have M8 : ManAt w8 w.heap.size m := put_m7 M own g8; have B8 := B.trans hb8; have h2' := holds_range (M8.new ho) M8.lt; clear h1 h2 h3 g8 hb8 own M B)
      | (have _t := own8; refine wpList_append_ints _ rfl (.tmp 36) (.tmp 38) 29 rfl elem8 own8 rfl (by rw [HND.out]; rfl) h2' (by rw [List.length_append, L3.out, HOD.out, HND.out]; omega) B8.size ?_; clear _t; intro v9 w9 own9 g9 hb9 _; have M9 : ManAt w9 w.heap.size m := put_m7 M8 own8 g9; have B9 := B8.trans hb9; have h3' := holds_range (M9.root ho) M9.lt; clear h2' g9 hb9 own8 M8 B8)
      | (have _t := own9; refine wpList_append_ints _ rfl (.tmp 40) (.tmp 42) 29 rfl elem8 own9 rfl (by rw [HRT.out]; rfl) h3' (by rw [List.length_append, List.length_append, L3.out, HOD.out, HND.out, HRT.out]; omega) B9.size ?_; clear _t; intro v10 w10 own10 g10 hb10 _; have M10 : ManAt w10 w.heap.size m := put_m7 M9 own9 g10; have B10 := B9.trans hb10; have f5 := M10.order ho; clear h3' g10 hb10 own9 M9 B9))
    have own' : Own w10 w.heap.size 5 .u8 v10 m.p6 := own10
    clear own10
    go_loopw [4, 47] (fun v i wz => ∃ k : Nat, k ≤ m.ord.length ∧ i = .int .i64 k ∧ Own wz w.heap.size 5 .u8 v (m.p6 ++ ordL (m.ord.take k)) ∧ ManAt wz w.heap.size m ∧ Below w.heap.size w wz) (fun _ i _ => m.ord.length - (intOf i).toNat)
    case atStart => exact ⟨0, Nat.zero_le _, rfl, by simpa [ordL] using own', M10, B10⟩
    case round =>
      clear own' B10 M10 f5
      obtain ⟨k, hk, rfl, own, M, B⟩ := hrel
      have hlen : (m.p6 ++ ordL (m.ord.take k)).length ≤ 20000 := by rw [List.length_append, ordL_length, L6.out, List.length_take]; omega
      by_cases hlt : k < m.ord.length
      · obtain ⟨b, off, hA, hbB, hc⟩ := (hr.below B) (by omega)
        have f5 := M.order ho
        have hcj := hc k hlt
        have hxb := m.ord_bd hmay (m.ord.getD k 0) (by rw [List.getD, List.getElem?_eq_getElem hlt]; exact List.getElem_mem hlt)
        have HN : Hid (m.p6 ++ ordL (m.ord.take (k + 1)) = (m.p6 ++ ordL (m.ord.take k)) ++ [m.ord.getD k 0 / 256, m.ord.getD k 0 % 256]) := Lib.hid (by rw [take_next m.ord k hlt, ordL_snoc, List.append_assoc])
        generalize m.ord.getD k 0 = x at *
        generalize m.p6 ++ ordL (m.ord.take k) = zs at *
        rw [hA] at f5
        clear hA hc
        have d1 : decide ((k : Int) < (m.ord.length : Int)) = true := decide_eq_true (by omega)
        have d2 : decide (k < m.ord.length) = true := decide_eq_true hlt
        have d3 : (k : Int) < (m.ord.length : Int) := by omega
        obtain ⟨A, c, rfl, hcl, hcm, hrd⟩ := own.opened
        go_wp2_with fail
        have hBs := B.size
        have HY : Hid (IntKind.u8.wrap (IntKind.i64.wrap (x.tdiv 256)) = x / 256) := Lib.hid (by rw [Int.tdiv_eq_ediv_of_nonneg (by omega), IntWalk.i64_in _ (by omega), IntWalk.u8_in _ (by omega)])
        have HZ : Hid (IntKind.u8.wrap (x.tmod 256) = x % 256) := Lib.hid (by rw [Int.tmod_eq_emod_of_nonneg (by omega), IntWalk.u8_in _ (by omega)])
        go_region_law ((refine step_append_two (y := IntKind.u8.wrap (IntKind.i64.wrap (x.tdiv 256))) (z := IntKind.u8.wrap (x.tmod 256)) (by rfl) _ _ _ (by rfl) elem8 (by exact own) (by rfl) (by rfl) (by omega) hBs ?_; intro v5 w5 own5 g5 b5))
        all_goals
          have M5 : ManAt w5 w.heap.size m := put_m7 (M.alloc (.cells #[.int .u8 (IntKind.u8.wrap (IntKind.i64.wrap (x.tdiv 256))), .int .u8 (IntKind.u8.wrap (x.tmod 256))] 5)) (own.alloc _) ⟨g5.os, g5.tape, g5.output, g5.size, g5.block⟩
          have B5 := B.trans b5
          rw [HY.out, HZ.out] at own5
          go_wp2_with fail
          go_roundw
          case rel => exact ⟨k + 1, hlt, by go_num, by rw [HN.out]; exact own5, M5, B5⟩
          case measure => simp [intOf] <;> omega
      · obtain rfl : k = m.ord.length := by omega
        have d1 : decide ((m.ord.length : Int) < (m.ord.length : Int)) = false := decide_eq_false (by omega)
        have d2 : decide (m.ord.length < m.ord.length) = false := decide_eq_false (by omega)
        rw [List.take_length] at own
        go_wp2_with fail
        go_ret2
        exact Gives2.of_own rfl own B
  · have e1 : m.putV = [] := if_neg hmay
    have e2 : m.putE = 3 := if_neg hmay
    rw [e1, e2]
    clear e1 e2
    have hdm : decide m.May = false := decide_eq_false hmay
    rw [hdm] at GM
    clear hdm hmay
    obtain ⟨L, hL⟩ : ∃ L, m.cells = L := ⟨_, rfl⟩
    rw [hL] at B1 M1 R1 HL GM ⊢
    clear hL M1
    generalize hW : w.alloc (.cells L.toArray 27) = w1 at *
    go_enter Try.func10, Try.ntmps10
    go_wp2_with (first
      | (have _t := R1; rw [hW]; refine wpList_load_midV (by rfl) _ _ rfl _ 0 rfl L R1 Try.underlying27 rfl (by rw [HL.out]; kernel_rfl) ?_)
      | (have _t := R1; refine wpList_load_midV (by rfl) _ _ rfl _ 0 rfl L R1 Try.underlying27 rfl (by rw [HL.out]; kernel_rfl) ?_)
      | (go_at_call 12; (with_reducible refine (GM.out _ B1).mono ?_); rintro e w2 ⟨rfl, hb⟩))
    go_ret2
    have B2 := B1.trans (hb.mono B1.size)
    exact Gives2.of_own rfl (Own.empty w2 5 .u8 B2.size) (B2.alloc B2.size _)
end Go.Proofs.Ytpdofegmobbipaa.Mn
