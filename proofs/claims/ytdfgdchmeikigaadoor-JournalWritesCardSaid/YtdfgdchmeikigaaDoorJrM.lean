/-
  Layer 24, journal: the document's Put: contract. Conditions: as each theorem names.
-/
import Derived.Test.YtdfgdchmeikigaaDoorJrF
import Derived.Test.YtdfgdchmeikigaaDoorShV
namespace Go.Proofs.YtdfgdchmeikigaaDoor.Jr
open Go.ChangeShapes Go.WideShapes Go.ChangeAt Go.RowKit Go.Proofs.YtdfgdchmeikigaaDoor.Kit Go.Proofs.YtdfgdchmeikigaaDoor.Oct
open Go.Proofs.YtdfgdchmeikigaaDoor.Sha (sumL sumL_length)

theorem Rec.q9_len (r : Rec) (h : r.man.length = 32) : r.q9.length = 91 := (r.q_length h).2.2.2.2.2.2.2.2.2

set_option maxRecDepth 100000 in
set_option maxHeartbeats 6400000 in
theorem rput_rec (r : Rec) (hr : r.Ok) (w : World) : Calls Tryd.prog 42 #[.agg r.cells.toArray] w (Gives2 r.putV r.putE w) := by
  have B1 := below_last w (.cells r.cells.toArray 67)
  have M1 : RecAt (w.alloc (.cells r.cells.toArray 67)) w.heap.size r := Block.new w _ _
  have R1 := block_range (L := r.cells) M1
  have HL := Lib.hid (r.cells_length hr.man)
  have GM := Lib.hid (fun W => rmay_any r hr W)
  have g1 := M1.lt
  have HV : Hid (r.putV = if r.may = true then r.putL else []) := Lib.hid rfl
  have HE : Hid (r.putE = if r.may = true then 0 else 3) := Lib.hid rfl
  cases hmay : r.may with
  | true =>
    rw [hmay] at GM HV HE
    rw [if_pos rfl] at HV HE
    rw [HV.out, HE.out]
    clear HV HE
    obtain ⟨ha, hs, hm, hlen, hnl, hdn, hblk, hasz⟩ := Rec.may_is hmay
    have hact := hr.act
    have hst := hr.st
    have hmd := hr.md
    have hseq := hr.seq
    have hver := hr.ver
    have hnv := hr.nv
    have hat := hr.at_
    obtain ⟨l0, l1, l2, l3, l4, l5, l6, l7, l8, l9⟩ := r.q_length hr.man
    have L0 := Lib.hid l0
    have L1 := Lib.hid l1
    have L2 := Lib.hid l2
    have L3 := Lib.hid l3
    have L4 := Lib.hid l4
    have L5 := Lib.hid l5
    have L6 := Lib.hid l6
    have L7 := Lib.hid l7
    have L8 := Lib.hid l8
    have L9 := Lib.hid l9
    clear l0 l1 l2 l3 l4 l5 l6 l7 l8 l9
    have HM := Lib.hid hr.man
    have HO9 := Lib.hid (r.q9_octets hr)
    have HS0 : Hid (r.q0 = [74, 82, 78, 76] ++ be (clamp 8) r.seq) := Lib.hid rfl
    have HS1 : Hid (r.q1 = r.q0 ++ [r.act] ++ be (clamp 8) r.ver) := Lib.hid rfl
    have HS2 : Hid (r.q2 = r.q1 ++ be (clamp 4) r.len) := Lib.hid rfl
    have HS3 : Hid (r.q2 ++ [r.st] ++ [r.md] = r.q3) := Lib.hid (by simp [Rec.q3])
    have HS4 : Hid (r.q4 = r.q3 ++ r.man ++ be (clamp 8) r.nv) := Lib.hid rfl
    have HS5 : Hid (r.q5 = r.q4 ++ be (clamp 4) r.nl) := Lib.hid rfl
    have HS6 : Hid (r.q6 = r.q5 ++ be (clamp 4) r.dn) := Lib.hid rfl
    have HS7 : Hid (r.q7 = r.q6 ++ be (clamp 8) r.at_) := Lib.hid rfl
    have HS8 : Hid (r.q8 = r.q7 ++ be (clamp 4) r.blk) := Lib.hid rfl
    have HS9 : Hid (r.q9 = r.q8 ++ be (clamp 4) r.asz) := Lib.hid rfl
    have HP : Hid (r.putL = r.q9 ++ (sumL r.q9).take 8) := Lib.hid rfl
    have GP := Lib.hid rput_any
    have GS := Lib.hid Sha.rsum_any
    obtain ⟨L, hLL⟩ : ∃ L, r.cells = L := ⟨_, rfl⟩
    rw [hLL] at B1 M1 R1 HL g1 GM ⊢
    clear hLL hmay ha hs hm
    generalize hW : w.alloc (.cells L.toArray 67) = w1 at *
    go_enter Tryd.func42, Tryd.ntmps42
    go_wp2_with (first
      | (have _t := R1; rw [hW]; refine wpList_load_midV (by rfl) _ _ rfl _ 0 rfl L R1 Tryd.underlying67 rfl (by rw [HL.out]; kernel_rfl) ?_)
      | (have _t := R1; refine wpList_load_midV (by rfl) _ _ rfl _ 0 rfl L R1 Tryd.underlying67 rfl (by rw [HL.out]; kernel_rfl) ?_)
      | (go_at_call 44; (with_reducible refine (GM.out _).mono ?_); rintro e w2 ⟨rfl, hb⟩; have M2 := M1.below hb g1; have B2 := B1.trans (hb.mono B1.size); have e1 := (M2.alloc (.cells #[.int .u8 74, .int .u8 82, .int .u8 78, .int .u8 76] 5)).front.1; clear hb))
    have A3 := Arr.new w2 5 .u8 [74, 82, 78, 76]
    have M3 := M2.alloc (.cells (([74, 82, 78, 76] : List Int).map (Value.int .u8)).toArray 5)
    have B3 := B2.alloc B2.size (.cells (([74, 82, 78, 76] : List Int).map (Value.int .u8)).toArray 5)
    simp only [List.map_cons, List.map_nil] at A3 M3 B3
    have P3 := GP.out _ [74, 82, 78, 76] 4 0 8 r.seq _ (by simp) A3.holds_all (by omega)
    rw [← HS0.out] at P3
    refine P3.mono ?_
    rintro e w4 ⟨v, rfl, own4, hb⟩
    have M := M3.below hb M3.lt
    have B := B3.trans (hb.mono B3.size)
    have own : Own w4 w.heap.size 5 .u8 v r.q0 := own4.mono B3.size
    clear own4 hb P3 M3 B3 A3 M2 B2 e1 hW R1 M1 B1 g1 GM
    obtain ⟨f0, f1, f2, f3, f4, f5⟩ := M.front
    obtain ⟨A, c, rfl, hcl, hcm, hrd⟩ := own.opened
    go_wp2_with (have _t := own; at_builtin; refine wpList_append_one (z := r.act) _ rfl _ _ _ rfl elem8 own rfl rfl (by rw [L0.out]; omega) B.size ?_; clear _t; intro v5 wn own5 g5 hb5; replace M := m_app (M.alloc _) (own.alloc _) g5; replace B := B.trans hb5; clear own hrd hcl hcm f0 f1 f2 f3 f4 f5 g5 hb5; obtain ⟨f0, f1, f2, f3, f4, f5⟩ := M.front; obtain ⟨k0, k1, k2, k3, k4, k5⟩ := M.back HM.out)
    have own := own5
    clear own5
    obtain ⟨zs, hzs⟩ : ∃ zs, r.q0 ++ [r.act] = zs := ⟨_, rfl⟩
    rw [hzs] at own
    have HZ := Lib.hid hzs
    clear hzs
    have HQ : Hid (zs.length = 13) := Lib.hid (by rw [← HZ.out]; simp [L0.out, L2.out, L3.out, HM.out])
    have HX : Hid (zs ++ be (clamp 8) r.ver = r.q1) := Lib.hid (by rw [← HZ.out]; rfl)
    obtain ⟨f0, f1, f2, f3, f4, f5⟩ := M.front
    obtain ⟨k0, k1, k2, k3, k4, k5⟩ := M.back HM.out
    obtain ⟨A, c, rfl, hcl, hcm, hrd⟩ := own.opened
    have P := GP.out A zs c 0 8 r.ver _ (by rw [HQ.out]; omega) hrd (by omega)
    rw [HX.out] at P
    go_wp2_with fail
    refine P.mono ?_
    rintro e wn ⟨v, rfl, own5, hb⟩
    replace M := M.below hb M.lt
    replace own : Own wn w.heap.size 5 .u8 v r.q1 := own5.mono B.size
    replace B := B.trans (hb.mono B.size)
    clear hb P own5 hrd hcl hcm f0 f1 f2 f3 f4 f5 k0 k1 k2 k3 k4 k5 HX HZ HQ
    obtain ⟨f0, f1, f2, f3, f4, f5⟩ := M.front
    obtain ⟨k0, k1, k2, k3, k4, k5⟩ := M.back HM.out
    obtain ⟨A, c, rfl, hcl, hcm, hrd⟩ := own.opened
    have P := GP.out A r.q1 c 0 4 r.len _ (by rw [L1.out]; omega) hrd (by omega)
    rw [← HS2.out] at P
    go_wp2_with fail
    refine P.mono ?_
    rintro e wn ⟨v, rfl, own5, hb⟩
    replace M := M.below hb M.lt
    replace own : Own wn w.heap.size 5 .u8 v r.q2 := own5.mono B.size
    replace B := B.trans (hb.mono B.size)
    clear hb P own5 hrd hcl hcm f0 f1 f2 f3 f4 f5 k0 k1 k2 k3 k4 k5
    obtain ⟨f0, f1, f2, f3, f4, f5⟩ := M.front
    obtain ⟨A, c, rfl, hcl, hcm, hrd⟩ := own.opened
    go_wp2_with (first
      | (have _t := own; at_builtin; refine wpList_append_one (z := r.st) _ rfl _ _ _ rfl elem8 own rfl rfl (by rw [L2.out]; omega) B.size ?_; clear _t; intro v5 w5 own5 g5 hb5; have M5 := m_app (M.alloc _) (own.alloc _) g5; have B5 := B.trans hb5; clear own M B hrd hcl hcm f0 f1 f2 f3 f4 f5 g5 hb5; obtain ⟨f0, f1, f2, f3, f4, f5⟩ := M5.front)
      | (have _t := own5; at_builtin; refine wpList_append_one (z := r.md) _ rfl _ _ _ rfl elem8 own5 rfl rfl (by rw [List.length_append, L2.out]; simp) B5.size ?_; clear _t; intro v6 w6 own6 g6 hb6; have M6 := m_app (M5.alloc _) (own5.alloc _) g6; have B6 := B5.trans hb6; clear own5 M5 B5 f0 f1 f2 f3 f4 f5 g6 hb6; have hman := holds_range (M6.man HM.out) M6.lt)
      | (have _t := own6; refine wpList_append_ints (ys := r.man) _ rfl _ _ 35 rfl elem8 own6 rfl (by rw [HM.out]; rfl) hman (by rw [List.length_append, List.length_append, L2.out, HM.out]; simp) B6.size ?_; clear _t; intro v7 w7 own7 g7 hb7 _; have M := m_app M6 own6 g7; have B := B6.trans hb7; clear own6 M6 B6 g7 hb7 hman; obtain ⟨f0, f1, f2, f3, f4, f5⟩ := M.front; obtain ⟨k0, k1, k2, k3, k4, k5⟩ := M.back HM.out))
    rw [HS3.out] at own7
    have own := own7
    clear own7
    obtain ⟨zs, hzs⟩ : ∃ zs, r.q3 ++ r.man = zs := ⟨_, rfl⟩
    rw [hzs] at own
    have HZ := Lib.hid hzs
    clear hzs
    have HQ : Hid (zs.length = 59) := Lib.hid (by rw [← HZ.out]; simp [L0.out, L2.out, L3.out, HM.out])
    have HX : Hid (zs ++ be (clamp 8) r.nv = r.q4) := Lib.hid (by rw [← HZ.out]; rfl)
    obtain ⟨f0, f1, f2, f3, f4, f5⟩ := M.front
    obtain ⟨k0, k1, k2, k3, k4, k5⟩ := M.back HM.out
    obtain ⟨A, c, rfl, hcl, hcm, hrd⟩ := own.opened
    have P := GP.out A zs c 0 8 r.nv _ (by rw [HQ.out]; omega) hrd (by omega)
    rw [HX.out] at P
    go_wp2_with fail
    refine P.mono ?_
    rintro e wn ⟨v, rfl, own5, hb⟩
    replace M := M.below hb M.lt
    replace own : Own wn w.heap.size 5 .u8 v r.q4 := own5.mono B.size
    replace B := B.trans (hb.mono B.size)
    clear hb P own5 hrd hcl hcm f0 f1 f2 f3 f4 f5 k0 k1 k2 k3 k4 k5 HX HZ HQ
    obtain ⟨f0, f1, f2, f3, f4, f5⟩ := M.front
    obtain ⟨k0, k1, k2, k3, k4, k5⟩ := M.back HM.out
    obtain ⟨A, c, rfl, hcl, hcm, hrd⟩ := own.opened
    have P := GP.out A r.q4 c 0 4 r.nl _ (by rw [L4.out]; omega) hrd (by omega)
    rw [← HS5.out] at P
    go_wp2_with fail
    refine P.mono ?_
    rintro e wn ⟨v, rfl, own5, hb⟩
    replace M := M.below hb M.lt
    replace own : Own wn w.heap.size 5 .u8 v r.q5 := own5.mono B.size
    replace B := B.trans (hb.mono B.size)
    clear hb P own5 hrd hcl hcm f0 f1 f2 f3 f4 f5 k0 k1 k2 k3 k4 k5
    obtain ⟨f0, f1, f2, f3, f4, f5⟩ := M.front
    obtain ⟨k0, k1, k2, k3, k4, k5⟩ := M.back HM.out
    obtain ⟨A, c, rfl, hcl, hcm, hrd⟩ := own.opened
    have P := GP.out A r.q5 c 0 4 r.dn _ (by rw [L5.out]; omega) hrd (by omega)
    rw [← HS6.out] at P
    go_wp2_with fail
    refine P.mono ?_
    rintro e wn ⟨v, rfl, own5, hb⟩
    replace M := M.below hb M.lt
    replace own : Own wn w.heap.size 5 .u8 v r.q6 := own5.mono B.size
    replace B := B.trans (hb.mono B.size)
    clear hb P own5 hrd hcl hcm f0 f1 f2 f3 f4 f5 k0 k1 k2 k3 k4 k5
    obtain ⟨f0, f1, f2, f3, f4, f5⟩ := M.front
    obtain ⟨k0, k1, k2, k3, k4, k5⟩ := M.back HM.out
    obtain ⟨A, c, rfl, hcl, hcm, hrd⟩ := own.opened
    have P := GP.out A r.q6 c 0 8 r.at_ _ (by rw [L6.out]; omega) hrd (by omega)
    rw [← HS7.out] at P
    go_wp2_with fail
    refine P.mono ?_
    rintro e wn ⟨v, rfl, own5, hb⟩
    replace M := M.below hb M.lt
    replace own : Own wn w.heap.size 5 .u8 v r.q7 := own5.mono B.size
    replace B := B.trans (hb.mono B.size)
    clear hb P own5 hrd hcl hcm f0 f1 f2 f3 f4 f5 k0 k1 k2 k3 k4 k5
    obtain ⟨f0, f1, f2, f3, f4, f5⟩ := M.front
    obtain ⟨k0, k1, k2, k3, k4, k5⟩ := M.back HM.out
    obtain ⟨A, c, rfl, hcl, hcm, hrd⟩ := own.opened
    have P := GP.out A r.q7 c 0 4 r.blk _ (by rw [L7.out]; omega) hrd (by omega)
    rw [← HS8.out] at P
    go_wp2_with fail
    refine P.mono ?_
    rintro e wn ⟨v, rfl, own5, hb⟩
    replace M := M.below hb M.lt
    replace own : Own wn w.heap.size 5 .u8 v r.q8 := own5.mono B.size
    replace B := B.trans (hb.mono B.size)
    clear hb P own5 hrd hcl hcm f0 f1 f2 f3 f4 f5 k0 k1 k2 k3 k4 k5
    obtain ⟨f0, f1, f2, f3, f4, f5⟩ := M.front
    obtain ⟨k0, k1, k2, k3, k4, k5⟩ := M.back HM.out
    obtain ⟨A, c, rfl, hcl, hcm, hrd⟩ := own.opened
    have P := GP.out A r.q8 c 0 4 r.asz _ (by rw [L8.out]; omega) hrd (by omega)
    rw [← HS9.out] at P
    go_wp2_with fail
    refine P.mono ?_
    rintro e wn ⟨v, rfl, own5, hb⟩
    replace M := M.below hb M.lt
    replace own : Own wn w.heap.size 5 .u8 v r.q9 := own5.mono B.size
    replace B := B.trans (hb.mono B.size)
    clear hb P own5 hrd hcl hcm f0 f1 f2 f3 f4 f5 k0 k1 k2 k3 k4 k5
    obtain ⟨A, c, rfl, hcl, hcm, hrd⟩ := own.opened
    have HS8 : Hid (((sumL r.q9).take 8).length = 8) := Lib.hid (by rw [List.length_take, sumL_length]; rfl)
    have hsl := Lib.hid (sumL_length r.q9)
    have G := Lib.hid (GS.out A r.q9 c _ (by rw [L9.out]; omega) hcl hcm HO9.out hrd)
    generalize sumL r.q9 = ys at *
    go_wp2_with fail
    refine G.out.mono ?_
    rintro e w1 ⟨rfl, hb1⟩
    have z1 : Arr (w1.alloc (.cells ((List.replicate 32 (0 : Int)).map (Value.int .u8)).toArray 24)) w1.heap.size 24 .u8 (List.replicate 32 0) := Arr.new w1 _ _ _
    have b1 := (B.trans (hb1.mono B.size)).alloc (B.trans (hb1.mono B.size)).size (.cells ((List.replicate 32 (0 : Int)).map (Value.int .u8)).toArray 24)
    have ownq := (own.below hb1).alloc (.cells ((List.replicate 32 (0 : Int)).map (Value.int .u8)).toArray 24)
    have s1 : (w1.alloc (.cells ((List.replicate 32 (0 : Int)).map (Value.int .u8)).toArray 24)).heap.size = w1.heap.size + 1 := by simp
    have s2 := (B.trans (hb1.mono B.size)).size
    clear G B own M hcl hcm hrd
    go_wp2_with (first
      | (have _t := z1; refine wpList_store_arr rfl _ _ _ rfl (ys := ys) z1 rfl rfl (by rw [hsl.out]; rfl) (by rw [hsl.out]; kernel_rfl) ?_; clear _t; intro w6 x6 g6; have h6 := (x6.holds_all).prefix_ 8; have b6 : Below w.heap.size w w6 := b1.trans (below_of_grown g6 (by rw [s1]; omega) (fun b hb => by injection hb with hb; omega)); have own6 := Own.kept ownq g6 (Or.inr (Own.ne_block ownq z1 (by decide))); clear z1 g6)
      | (have _t := own6; refine wpList_append_ints (ys := ys.take 8) _ rfl _ _ 35 rfl elem8 own6 rfl (by rw [HS8.out]; rfl) h6 (by rw [L9.out, HS8.out]; decide) b6.size ?_; clear _t; intro v7 w7 own7 g7 hb7 _))
    go_ret2
    rw [HP.out]
    exact Gives2.of_own rfl own7 (b6.trans hb7)
  | false =>
    rw [hmay] at GM HV HE
    rw [if_neg (by decide)] at HV HE
    rw [HV.out, HE.out]
    clear HV HE hmay
    obtain ⟨L, hLL⟩ : ∃ L, r.cells = L := ⟨_, rfl⟩
    rw [hLL] at B1 M1 R1 HL g1 GM ⊢
    clear hLL M1
    generalize hW : w.alloc (.cells L.toArray 67) = w1 at *
    go_enter Tryd.func42, Tryd.ntmps42
    go_wp2_with (first
      | (have _t := R1; rw [hW]; refine wpList_load_midV (by rfl) _ _ rfl _ 0 rfl L R1 Tryd.underlying67 rfl (by rw [HL.out]; kernel_rfl) ?_)
      | (have _t := R1; refine wpList_load_midV (by rfl) _ _ rfl _ 0 rfl L R1 Tryd.underlying67 rfl (by rw [HL.out]; kernel_rfl) ?_)
      | (go_at_call 44; (with_reducible refine (GM.out _).mono ?_); rintro e w2 ⟨rfl, hb⟩))
    go_ret2
    have B2 := B1.trans (hb.mono B1.size)
    exact Gives2.of_own rfl (Own.empty w2 5 .u8 B2.size) (B2.alloc B2.size _)
end Go.Proofs.YtdfgdchmeikigaaDoor.Jr
