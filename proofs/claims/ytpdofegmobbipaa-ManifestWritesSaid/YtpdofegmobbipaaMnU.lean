/-
  Layer 22, manifest: a header: both functions: contracts. Conditions: as each theorem names.
-/
import Derived.Test.YtpdofegmobbipaaMnT
import Derived.Lib.SlBytesConst
namespace Go.Proofs.Ytpdofegmobbipaa.Mn
open Go.ChangeShapes Go.WideShapes Go.ChangeAt Go.RowKit Go.Proofs.Ytpdofegmobbipaa.Kit Go.Proofs.Ytpdofegmobbipaa.Ordr Go.Proofs.Ytpdofegmobbipaa.Blk Go.Proofs.Ytpdofegmobbipaa.Oct

def headL (p sig : List Int) : List Int := ((([68, 82, 71, 72] ++ be 4 p.length) ++ p) ++ be 4 sig.length) ++ sig
def Man.headV (m : Man) (sig : List Int) : List Int := if m.May ∧ m.putL.length + sig.length ≤ 131060 then headL m.putL sig else []
def Man.headE (m : Man) (sig : List Int) : Int := if m.May then (if m.putL.length + sig.length ≤ 131060 then 0 else 4) else 3
theorem holds_mark {w : World} {t : TypeId} {zs : List Int} (k : Nat × Nat) : Holds (w.alloc (.cells (zs.map (Value.int .u8)).toArray t k)) (w.alloc (.cells (zs.map (Value.int .u8)).toArray t k)).heap.size .u8 (some ⟨w.heap.size, 0, none⟩) zs := by
  intro _
  refine ⟨w.heap.size, 0, rfl, by simp, fun j hj => ?_⟩
  have := World.cell?_alloc_mark w (zs.map (Value.int .u8)).toArray t k (0 + j)
  rw [this]
  simp [List.getD, List.getElem?_eq_getElem hj]
/-- The mark's bytes are laid. -/
theorem conv_drgh (W : World) : (convert 29 29 (.slice (some ⟨W.heap.size, 0, none⟩) 4 4)).run Try.prog (W.alloc (.cells #[.int .u8 68, .int .u8 82, .int .u8 71, .int .u8 72] 5)) = .ok (.slice (some ⟨W.heap.size, 0, none⟩) 4 4) (W.alloc (.cells #[.int .u8 68, .int .u8 82, .int .u8 71, .int .u8 72] 5 (4, 5))) :=
  Lib.run_convert_bytes_const W 29 5 #[.int .u8 68, .int .u8 82, .int .u8 71, .int .u8 72] 4 4 Try.underlying29 Try.underlying5
theorem Man.putL_length (m : Man) (h : m.Ok) : m.putL.length = 118 + 2 * m.ord.length := by
  unfold Man.putL
  rw [List.length_append, (m.pre_length h).2.2.2.2.2.2, ordL_length]

set_option maxRecDepth 100000 in
set_option maxHeartbeats 6400000 in
theorem head_any (m : Man) (ho : m.Ok) (A1 : Option Addr) (sig : List Int) (c1 : Nat) (w : World) (hr : m.In w) (h5 : m.ord.length ≤ 5000) (hs : sig.length ≤ 1000000) (r1 : Holds w w.heap.size .u8 A1 sig) :
    Calls Try.prog 19 #[.agg m.cells.toArray, .slice A1 sig.length c1] w (Gives2 (m.headV sig) (m.headE sig) w) := by
  have B1 := below_last w (.cells m.cells.toArray 27)
  have M1 : ManAt (w.alloc (.cells m.cells.toArray 27)) w.heap.size m := Block.new w _ _
  have R1 := block_range (L := m.cells) M1
  have HL := Lib.hid (m.cells_length ho)
  have GM := Lib.hid (fun W hB => mput_any m ho W ((hr.below hB).more (Below.size (B := w.heap.size) hB)) h5)
  have HV : Hid (m.headV sig = if m.May ∧ m.putL.length + sig.length ≤ 131060 then headL m.putL sig else []) := Lib.hid rfl
  have HE : Hid (m.headE sig = if m.May then (if m.putL.length + sig.length ≤ 131060 then 0 else 4) else 3) := Lib.hid rfl
  have hpl := m.putL_length ho
  obtain ⟨L, hL⟩ : ∃ L, m.cells = L := ⟨_, rfl⟩
  rw [hL] at B1 R1 HL GM ⊢
  clear hL M1
  generalize m.headV sig = V at *
  generalize m.headE sig = E at *
  generalize hW : w.alloc (.cells L.toArray 27) = w1 at *
  by_cases hmay : m.May
  · rw [show m.putV = m.putL from if_pos hmay, show m.putE = 0 from if_pos hmay] at GM
    have hpl2 : m.putL.length ≤ 10118 := by omega
    generalize m.putL = P at *
    by_cases hf : P.length + sig.length ≤ 131060
    · obtain rfl := HV.out.trans (if_pos ⟨hmay, hf⟩)
      obtain rfl := HE.out.trans ((if_pos hmay).trans (if_pos hf))
      clear HV HE hpl
      have d1 : decide ((131072 : Int) < 8 + (P.length : Int) + 4 + (sig.length : Int)) = false := decide_eq_false (by omega)
      have HS1 : Hid ([68, 82, 71, 72] ++ be 4 P.length = [68, 82, 71, 72] ++ be (clamp 4) P.length) := Lib.hid rfl
      have HX : Hid (headL P sig = ((([68, 82, 71, 72] ++ be (clamp 4) P.length) ++ P) ++ be (clamp 4) sig.length) ++ sig) := Lib.hid rfl
      have GP := Lib.hid put_any
      have HK := Lib.hid conv_drgh
      go_enter Try.func19, Try.ntmps19
      go_wp2_with (first
        | (have _t := R1; rw [hW]; refine wpList_load_midV (by rfl) _ _ rfl _ 0 rfl L R1 Try.underlying27 rfl (by rw [HL.out]; kernel_rfl) ?_)
        | (have _t := R1; refine wpList_load_midV (by rfl) _ _ rfl _ 0 rfl L R1 Try.underlying27 rfl (by rw [HL.out]; kernel_rfl) ?_)
        | (go_at_call 9; (with_reducible refine (GM.out _ B1).mono ?_); rintro e w2 ⟨A2, c2, rfl, hl2, hm2, hr2, hb2⟩; have B2 := B1.trans (hb2.mono B1.size); have kc := HK.out w2; clear hb2))
      have A3 : Holds (w2.alloc (.cells #[.int .u8 68, .int .u8 82, .int .u8 71, .int .u8 72] 5 (4, 5))) (w2.alloc (.cells #[.int .u8 68, .int .u8 82, .int .u8 71, .int .u8 72] 5 (4, 5))).heap.size .u8 (some ⟨w2.heap.size, 0, none⟩) [68, 82, 71, 72] := holds_mark (4, 5)
      have B3 := B2.alloc B2.size (.cells #[.int .u8 68, .int .u8 82, .int .u8 71, .int .u8 72] 5 (4, 5))
      have r3 := (hr2.below (below_last w2 (.cells #[.int .u8 68, .int .u8 82, .int .u8 71, .int .u8 72] 5 (4, 5)))).more (below_last w2 (.cells #[.int .u8 68, .int .u8 82, .int .u8 71, .int .u8 72] 5 (4, 5))).size
      have P3 := GP.out _ [68, 82, 71, 72] 4 0 4 (P.length : Int) _ (by simp) A3 (by omega)
      clear kc
      refine P3.mono ?_
      rintro e w4 ⟨v, rfl, own, hb⟩
      have B4 := B3.trans (hb.mono B3.size)
      have r4 := (r3.below hb).more hb.size
      replace own : Own w4 w.heap.size 5 .u8 v ([68, 82, 71, 72] ++ be (clamp 4) P.length) := own.mono B3.size
      have HL8 : Hid (([68, 82, 71, 72] ++ be (clamp 4) P.length).length = 8) := Lib.hid (by simp [be_length]; rfl)
      clear hb P3 A3 r3 B3 B2 hr2 hl2 hm2 R1 B1
      generalize [68, 82, 71, 72] ++ be (clamp 4) P.length = q0 at *
      go_wp2_with (have _t := own; refine wpList_append_ints _ rfl (.tmp 31) (.tmp 32) 29 rfl elem8 own rfl rfl r4 (by rw [HL8.out]; omega) B4.size ?_; clear _t; intro v5 w5 own5 g5 hb5 _; have B5 := B4.trans hb5; clear own B4 r4 g5 hb5)
      have HL9 : Hid ((q0 ++ P).length = 8 + P.length) := Lib.hid (by rw [List.length_append, HL8.out])
      generalize q0 ++ P = q1 at *
      obtain ⟨A5, c5, rfl, hl5, hm5, hr5⟩ := own5.opened
      have P5 := GP.out A5 q1 c5 0 4 (sig.length : Int) w5 (by rw [HL9.out]; omega) hr5 (by omega)
      go_wp2_with fail
      refine P5.mono ?_
      rintro e w6 ⟨v6, rfl, own6, hb6⟩
      have B6 := B5.trans (hb6.mono B5.size)
      replace own6 : Own w6 w.heap.size 5 .u8 v6 (q1 ++ be (clamp 4) sig.length) := own6.mono B5.size
      have HL10 : Hid ((q1 ++ be (clamp 4) sig.length).length = 12 + P.length) := Lib.hid (by rw [List.length_append, HL9.out, be_length, show clamp 4 = 4 from rfl]; omega)
      clear P5 hb6 hr5 hl5 hm5 own5 B5
      generalize q1 ++ be (clamp 4) sig.length = q2 at *
      have r6 := (r1.below B6).more B6.size
      obtain ⟨A6, c6, rfl, hl6, hm6, hr6⟩ := own6.opened
      go_wp2_with (have _t := own6; refine wpList_append_ints _ rfl (.tmp 38) (.tmp 39) 29 rfl elem8 own6 rfl rfl r6 (by rw [HL10.out]; omega) B6.size ?_; clear _t; intro v7 w7 own7 g7 hb7 _; clear own6)
      go_ret2
      rw [HX.out]
      exact Gives2.of_own rfl own7 (B6.trans hb7)
    · obtain rfl := HV.out.trans (if_neg (fun h => hf h.2))
      obtain rfl := HE.out.trans ((if_pos hmay).trans (if_neg hf))
      clear HV HE hpl
      have d1 : decide ((131072 : Int) < 8 + (P.length : Int) + 4 + (sig.length : Int)) = true := decide_eq_true (by omega)
      go_enter Try.func19, Try.ntmps19
      go_wp2_with (first
        | (have _t := R1; rw [hW]; refine wpList_load_midV (by rfl) _ _ rfl _ 0 rfl L R1 Try.underlying27 rfl (by rw [HL.out]; kernel_rfl) ?_)
        | (have _t := R1; refine wpList_load_midV (by rfl) _ _ rfl _ 0 rfl L R1 Try.underlying27 rfl (by rw [HL.out]; kernel_rfl) ?_)
        | (go_at_call 9; (with_reducible refine (GM.out _ B1).mono ?_); rintro e w2 ⟨A2, c2, rfl, hl2, hm2, hr2, hb2⟩))
      go_ret2
      exact Gives2.none rfl (B1.trans (hb2.mono B1.size))
  · rw [show m.putV = [] from if_neg hmay, show m.putE = 3 from if_neg hmay] at GM
    obtain rfl := HV.out.trans (if_neg (fun h => hmay h.1))
    obtain rfl := HE.out.trans (if_neg hmay)
    clear HV HE hpl
    go_enter Try.func19, Try.ntmps19
    go_wp2_with (first
      | (have _t := R1; rw [hW]; refine wpList_load_midV (by rfl) _ _ rfl _ 0 rfl L R1 Try.underlying27 rfl (by rw [HL.out]; kernel_rfl) ?_)
      | (have _t := R1; refine wpList_load_midV (by rfl) _ _ rfl _ 0 rfl L R1 Try.underlying27 rfl (by rw [HL.out]; kernel_rfl) ?_)
      | (go_at_call 9; (with_reducible refine (GM.out _ B1).mono ?_); rintro e w2 ⟨A2, c2, rfl, hl2, hm2, hr2, hb2⟩))
    go_ret2
    exact Gives2.none rfl (B1.trans (hb2.mono B1.size))

set_option maxRecDepth 100000 in
set_option maxHeartbeats 6400000 in
theorem rhead_any (m : Man) (ho : m.Ok) (A1 : Option Addr) (sig : List Int) (c1 : Nat) (w : World) (hr : m.In w) (h5 : m.ord.length ≤ 5000) (hs : sig.length ≤ 1000000) (r1 : Holds w w.heap.size .u8 A1 sig) :
    Calls Try.prog 20 #[.agg m.cells.toArray, .slice A1 sig.length c1] w (Gives2 (m.headV sig) (m.headE sig) w) := by
  have B1 := below_last w (.cells m.cells.toArray 27)
  have M1 : ManAt (w.alloc (.cells m.cells.toArray 27)) w.heap.size m := Block.new w _ _
  have R1 := block_range (L := m.cells) M1
  have HL := Lib.hid (m.cells_length ho)
  have GM := Lib.hid (fun W hB => rmput_any m ho W ((hr.below hB).more (Below.size (B := w.heap.size) hB)) h5)
  have HV : Hid (m.headV sig = if m.May ∧ m.putL.length + sig.length ≤ 131060 then headL m.putL sig else []) := Lib.hid rfl
  have HE : Hid (m.headE sig = if m.May then (if m.putL.length + sig.length ≤ 131060 then 0 else 4) else 3) := Lib.hid rfl
  have hpl := m.putL_length ho
  obtain ⟨L, hL⟩ : ∃ L, m.cells = L := ⟨_, rfl⟩
  rw [hL] at B1 R1 HL GM ⊢
  clear hL M1
  generalize m.headV sig = V at *
  generalize m.headE sig = E at *
  generalize hW : w.alloc (.cells L.toArray 27) = w1 at *
  by_cases hmay : m.May
  · rw [show m.putV = m.putL from if_pos hmay, show m.putE = 0 from if_pos hmay] at GM
    have hpl2 : m.putL.length ≤ 10118 := by omega
    generalize m.putL = P at *
    by_cases hf : P.length + sig.length ≤ 131060
    · obtain rfl := HV.out.trans (if_pos ⟨hmay, hf⟩)
      obtain rfl := HE.out.trans ((if_pos hmay).trans (if_pos hf))
      clear HV HE hpl
      have d1 : decide ((131060 : Int) < (P.length : Int) + (sig.length : Int)) = false := decide_eq_false (by omega)
      have HS1 : Hid ([68, 82, 71, 72] ++ be 4 P.length = [68, 82, 71, 72] ++ be (clamp 4) P.length) := Lib.hid rfl
      have HX : Hid (headL P sig = ((([68, 82, 71, 72] ++ be (clamp 4) P.length) ++ P) ++ be (clamp 4) sig.length) ++ sig) := Lib.hid rfl
      have GP := Lib.hid rput_any
      go_enter Try.func20, Try.ntmps20
      go_wp2_with (first
        | (have _t := R1; rw [hW]; refine wpList_load_midV (by rfl) _ _ rfl _ 0 rfl L R1 Try.underlying27 rfl (by rw [HL.out]; kernel_rfl) ?_)
        | (have _t := R1; refine wpList_load_midV (by rfl) _ _ rfl _ 0 rfl L R1 Try.underlying27 rfl (by rw [HL.out]; kernel_rfl) ?_)
        | (go_at_call 10; (with_reducible refine (GM.out _ B1).mono ?_); rintro e w2 ⟨A2, c2, rfl, hl2, hm2, hr2, hb2⟩; have B2 := B1.trans (hb2.mono B1.size); clear hb2))
      have A3 : Holds (w2.alloc (.cells #[.int .u8 68, .int .u8 82, .int .u8 71, .int .u8 72] 5)) (w2.alloc (.cells #[.int .u8 68, .int .u8 82, .int .u8 71, .int .u8 72] 5)).heap.size .u8 (some ⟨w2.heap.size, 0, none⟩) [68, 82, 71, 72] := (Arr.new w2 5 .u8 [68, 82, 71, 72]).holds_all
      have B3 := B2.alloc B2.size (.cells #[.int .u8 68, .int .u8 82, .int .u8 71, .int .u8 72] 5)
      have r3 := (hr2.below (below_last w2 (.cells #[.int .u8 68, .int .u8 82, .int .u8 71, .int .u8 72] 5))).more (below_last w2 (.cells #[.int .u8 68, .int .u8 82, .int .u8 71, .int .u8 72] 5)).size
      have P3 := GP.out _ [68, 82, 71, 72] 4 0 4 (P.length : Int) _ (by simp) A3 (by omega)
      refine P3.mono ?_
      rintro e w4 ⟨v, rfl, own, hb⟩
      have B4 := B3.trans (hb.mono B3.size)
      have r4 := (r3.below hb).more hb.size
      replace own : Own w4 w.heap.size 5 .u8 v ([68, 82, 71, 72] ++ be (clamp 4) P.length) := own.mono B3.size
      have HL8 : Hid (([68, 82, 71, 72] ++ be (clamp 4) P.length).length = 8) := Lib.hid (by simp [be_length]; rfl)
      clear hb P3 A3 r3 B3 B2 hr2 hl2 hm2 R1 B1
      generalize [68, 82, 71, 72] ++ be (clamp 4) P.length = q0 at *
      go_wp2_with (have _t := own; refine wpList_append_ints _ rfl (.tmp 31) (.tmp 32) 29 rfl elem8 own rfl rfl r4 (by rw [HL8.out]; omega) B4.size ?_; clear _t; intro v5 w5 own5 g5 hb5 _; have B5 := B4.trans hb5; clear own B4 r4 g5 hb5)
      have HL9 : Hid ((q0 ++ P).length = 8 + P.length) := Lib.hid (by rw [List.length_append, HL8.out])
      generalize q0 ++ P = q1 at *
      obtain ⟨A5, c5, rfl, hl5, hm5, hr5⟩ := own5.opened
      have P5 := GP.out A5 q1 c5 0 4 (sig.length : Int) w5 (by rw [HL9.out]; omega) hr5 (by omega)
      go_wp2_with fail
      refine P5.mono ?_
      rintro e w6 ⟨v6, rfl, own6, hb6⟩
      have B6 := B5.trans (hb6.mono B5.size)
      replace own6 : Own w6 w.heap.size 5 .u8 v6 (q1 ++ be (clamp 4) sig.length) := own6.mono B5.size
      have HL10 : Hid ((q1 ++ be (clamp 4) sig.length).length = 12 + P.length) := Lib.hid (by rw [List.length_append, HL9.out, be_length, show clamp 4 = 4 from rfl]; omega)
      clear P5 hb6 hr5 hl5 hm5 own5 B5
      generalize q1 ++ be (clamp 4) sig.length = q2 at *
      have r6 := (r1.below B6).more B6.size
      obtain ⟨A6, c6, rfl, hl6, hm6, hr6⟩ := own6.opened
      go_wp2_with (have _t := own6; refine wpList_append_ints _ rfl (.tmp 39) (.tmp 40) 29 rfl elem8 own6 rfl rfl r6 (by rw [HL10.out]; omega) B6.size ?_; clear _t; intro v7 w7 own7 g7 hb7 _; clear own6)
      go_ret2
      rw [HX.out]
      exact Gives2.of_own rfl own7 (B6.trans hb7)
    · obtain rfl := HV.out.trans (if_neg (fun h => hf h.2))
      obtain rfl := HE.out.trans ((if_pos hmay).trans (if_neg hf))
      clear HV HE hpl
      have d1 : decide ((131060 : Int) < (P.length : Int) + (sig.length : Int)) = true := decide_eq_true (by omega)
      go_enter Try.func20, Try.ntmps20
      go_wp2_with (first
        | (have _t := R1; rw [hW]; refine wpList_load_midV (by rfl) _ _ rfl _ 0 rfl L R1 Try.underlying27 rfl (by rw [HL.out]; kernel_rfl) ?_)
        | (have _t := R1; refine wpList_load_midV (by rfl) _ _ rfl _ 0 rfl L R1 Try.underlying27 rfl (by rw [HL.out]; kernel_rfl) ?_)
        | (go_at_call 10; (with_reducible refine (GM.out _ B1).mono ?_); rintro e w2 ⟨A2, c2, rfl, hl2, hm2, hr2, hb2⟩))
      go_ret2
      have B9 := B1.trans (hb2.mono B1.size)
      exact Gives2.of_own rfl (Own.empty w2 5 .u8 B9.size) (B9.alloc B9.size _)
  · rw [show m.putV = [] from if_neg hmay, show m.putE = 3 from if_neg hmay] at GM
    obtain rfl := HV.out.trans (if_neg (fun h => hmay h.1))
    obtain rfl := HE.out.trans (if_neg hmay)
    clear HV HE hpl
    go_enter Try.func20, Try.ntmps20
    go_wp2_with (first
      | (have _t := R1; rw [hW]; refine wpList_load_midV (by rfl) _ _ rfl _ 0 rfl L R1 Try.underlying27 rfl (by rw [HL.out]; kernel_rfl) ?_)
      | (have _t := R1; refine wpList_load_midV (by rfl) _ _ rfl _ 0 rfl L R1 Try.underlying27 rfl (by rw [HL.out]; kernel_rfl) ?_)
      | (go_at_call 10; (with_reducible refine (GM.out _ B1).mono ?_); rintro e w2 ⟨A2, c2, rfl, hl2, hm2, hr2, hb2⟩))
    go_ret2
    have B9 := B1.trans (hb2.mono B1.size)
    exact Gives2.of_own rfl (Own.empty w2 5 .u8 B9.size) (B9.alloc B9.size _)
end Go.Proofs.Ytpdofegmobbipaa.Mn
