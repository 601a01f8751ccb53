/-
  ShaRows: the walk: however bytes are cut into rows, the sum is that of all, behind each row.
-/
import Derived.Test.YtfdafjlmglbepaaDoorShE
import Derived.Test.YtfdafjlmglbepaaDoorShJ
import Derived.Deep.RegionWith
import Derived.Deep.CutRange
namespace Go.Proofs.YtfdafjlmglbepaaDoor.ShaRows
open Go.ChangeShapes Go.WideShapes Go.ChangeAt Go.RowKit Go.Proofs.YtfdafjlmglbepaaDoor.Kit Go.Proofs.YtfdafjlmglbepaaDoor.Sha

set_option maxRecDepth 100000 in
set_option maxHeartbeats 6400000 in
theorem walk (A : Option Addr) (rs : List Rw) (c : Nat) (w : World) (hc : rs.length ≤ c) (hm : c ≤ maxLen) (hr : HoldsW w w.heap.size A rs) (hL : LaidS w) :
    Calls Tryd.prog 4 #[.slice A rs.length c] w fun e w' => e = .returned (.bool true) ∧ Below w.heap.size w w' := by
  by_cases hgr : greatR rs = true
  · have G0 := Lib.hid (greatR_any A rs c w hc hm hr)
    rw [hgr] at G0
    clear hgr
    unfold maxLen at hm
    go_enter Tryd.func4, Tryd.ntmps4
    go_wp2_with (first
      | (go_at_call 11; refine G0.out.mono ?_; rintro e w1 ⟨rfl, rfl⟩)
      | (go_at_call 8; refine (awake_any _ hL).mono ?_; rintro e w1 ⟨rfl, hb1⟩))
    go_ret
    exact ⟨rfl, hb1⟩
  · have hgr : greatR rs = false := by simpa using hgr
    obtain ⟨hl60, h400⟩ := greatR_no hgr
    have G0 := Lib.hid (greatR_any A rs c w hc hm hr)
    rw [hgr] at G0
    clear hgr
    have hoct := hr.octets
    have hjb := fun n => joinL_le (rs := rs.take n) (m := 400) (fun r hr => h400 r (List.mem_of_mem_take hr))
    have hjo := fun n => joinL_octets (rs := rs.take n) (fun r hr => hoct r (List.mem_of_mem_take hr))
    have hg0 : w.heap.size ≠ 0 := by have := hL.lt (by rw [cubes_length]; omega); omega
    have GS := Lib.hid (fun n W (hn : n ≤ rs.length) (hb : Below w.heap.size w W) (h : HashIs W w.heap.size (joinL (rs.take n))) => hsum_any w.heap.size _ W h (by have := hjb n; rw [List.length_take] at this; omega) (hjo n) (hL.below hb) hg0)
    have GJ := Lib.hid (fun n W (hn : n ≤ rs.length) (hb : Below w.heap.size w W) => by
      have := joins_any A (rs.take n) c W (by rw [List.length_take]; omega) hm (((hr.below hb).more hb.size).head n) (by rw [List.length_take]; omega) (fun r hr => by have := h400 r (List.mem_of_mem_take hr); omega)
      rwa [show (rs.take n).length = n by rw [List.length_take]; omega] at this)
    have GP := Lib.hid (fun n W A2 c2 (hb : Below w.heap.size w W) (hn : n ≤ rs.length) (h1 : (joinL (rs.take n)).length ≤ c2) (h2 : c2 ≤ maxLen) (h3 : Holds W W.heap.size .u8 A2 (joinL (rs.take n))) => psum_any A2 (joinL (rs.take n)) c2 W (by have := hjb n; rw [List.length_take] at this; omega) h1 h2 (hjo n) h3 (hL.below hb))
    have GR := Lib.hid (fun n W A2 c2 (hn : n ≤ rs.length) (h1 : (joinL (rs.take n)).length ≤ c2) (h2 : c2 ≤ maxLen) (h3 : Holds W W.heap.size .u8 A2 (joinL (rs.take n))) => rsum_any A2 (joinL (rs.take n)) c2 W (by have := hjb n; rw [List.length_take] at this; omega) h1 h2 (hjo n) h3)
    have Hjb := Lib.hid hjb
    have Hjo := Lib.hid hjo
    have H400 := Lib.hid h400
    clear hjb hjo h400 hoct
    unfold maxLen at hm
    go_enter Tryd.func4, Tryd.ntmps4
    go_wp2_with (first
      | (go_at_call 11; refine G0.out.mono ?_; rintro e w1 ⟨rfl, rfl⟩)
      | (go_at_call 12; refine (new_any w).mono ?_; rintro e w1 ⟨rfl, h1, hb1⟩))
    go_loopw [4, 5] (fun n s wr => ∃ i : Nat, i ≤ rs.length ∧ s = .int .i64 i ∧ n = .int .u64 ((joinL (rs.take i)).length : Int) ∧ HashIs wr w.heap.size (joinL (rs.take i)) ∧ Below w.heap.size w wr) (fun _ s _ => rs.length - (intOf s).toNat)
    case atStart => exact ⟨0, by omega, rfl, rfl, h1, hb1⟩
    case round =>
      clear h1 hb1
      obtain ⟨i, hi, rfl, rfl, hh, hb⟩ := hrel
      by_cases hlt : i < rs.length
      · have hjn := joinL_next hlt
        have hz4 := H400.out _ (List.getElem_mem hlt)
        have hjb1 := Hjb.out i
        rw [List.length_take] at hjb1
        have hjo1 := Hjo.out i
        obtain ⟨b, off, rfl, hbl, cw, k1, k2, hoz, hrz⟩ := rwAt hr hlt
        have hfar : Far w.heap.size rs[i].A rs[i].zs := far_of hrz (Nat.le_refl _)
        have GW := Lib.hid (write_any w.heap.size (joinL (rs.take i)) rs[i].A rs[i].zs rs[i].cap wr hh (by omega) hjo1 k1 k2 hoz ((hrz.below hb).more hb.size) hfar (hL.below hb) hg0)
        rw [← hjn] at GW
        have hlen : (joinL (rs.take (i + 1))).length = (joinL (rs.take i)).length + rs[i].zs.length := by rw [hjn, List.length_append]
        have GS := Lib.hid (GS.out (i + 1))
        have GJ := Lib.hid (GJ.out (i + 1))
        have GP := Lib.hid (GP.out (i + 1))
        have GR := Lib.hid (GR.out (i + 1))
        obtain ⟨j2, hj2⟩ : ∃ j, joinL (rs.take (i + 1)) = j := ⟨_, rfl⟩
        rw [hj2] at hjn GW hlen GS GJ GP GR
        have Hj2 := Lib.hid hj2
        clear hj2
        generalize joinL (rs.take i) = j1 at *
        generalize rs[i] = r at *
        have Hlen := Lib.hid hlen
        have hs1 : 0 ≤ (j1.length : Int) + (r.zs.length : Int) := by omega
        have hs2 : (j1.length : Int) + (r.zs.length : Int) ≤ 1000000 := by omega
        have c0 : wr.cell? ⟨b, off + i, none⟩ = some (.slice r.A r.zs.length r.cap) := (hb.cell (p := ⟨b, off + i, none⟩) hbl).trans cw
        have Cw := Lib.hid cw
        clear hjn hlen hh hjo1 hfar hrz cw
        go_wp2_with (go_at_call 13; refine GW.out.mono ?_; rintro e w4 ⟨rfl, h4, t4⟩; have b4 := hb.trans (t4.toBelow hb.size fun b hb he => by omega); have c4 : w4.cell? ⟨b, off + i, none⟩ = some (.slice r.A r.zs.length r.cap) := (b4.cell (p := ⟨b, off + i, none⟩) hbl).trans Cw.out; clear hb t4 c0)
        rw [← Int.natCast_add, ← Hlen.out]
        have G3 := Lib.hid (fun W (hb : Below w4.heap.size w4 W) => len_any w.heap.size j2 W (h4.below hb h4.lt))
        have G4 := Lib.hid (fun W (hb : Below w4.heap.size w4 W) => GS.out W (by omega) (b4.trans (hb.mono b4.size)) (h4.below hb h4.lt))
        have G5 := Lib.hid (fun W (hb : Below w4.heap.size w4 W) => GJ.out W (by omega) (b4.trans (hb.mono b4.size)))
        have G6 := Lib.hid (fun W (hb : Below w4.heap.size w4 W) A2 c2 => GP.out W A2 c2 (b4.trans (hb.mono b4.size)) (by omega))
        have hne := sum_neq j2
        have hgn := sum_guardn j2
        generalize sumL j2 = ys at *
        have h40 : Below w4.heap.size w4 w4.drew := (Below.refl w4.heap.size w4).drew
        have hwl : (w.heap.size : Int) < w4.heap.size := by have := h4.lt; omega
        have e1 : IntKind.i64.wrap (↑i + 1) = ↑i + 1 := IntWalk.i64_in _ (by omega)
        have e2 : ((i : Int) + 1).toNat = i + 1 := by omega
        have e3 : (0 : Int) ≤ (i : Int) + 1 := by omega
        have e4 : (i : Int) + 1 ≤ (c : Int) := by omega
        go_cut [49] from 30 to 49 (fun s49 wx => s49 = .bool false ∧ Below w4.heap.size w4 wx)
        case first =>
          by_cases h8 : i % 8 = 0
          · have t9 : (i : Int).tmod 8 = 0 := by rw [Int.tmod_eq_emod_of_nonneg (by omega)]; omega
            have n1 : ((j2.length : Int) != (j2.length : Int)) = false := by simp
            clear h8
            refine wp_region_any (by kernel_rfl) ?_
            change wpAny _ _ _ _ _ _ _ (World.drew _)
            refine wpAny_take (i := 0) (v := .pointer (some ⟨w.heap.size, 0, none⟩)) rfl (by kernel_rfl) (by kernel_rfl) (by kernel_rfl) (fun _ _ _ h => h) (Or.inl ⟨by rfl, fun W => by go_simp⟩) ?_
            refine wpAny_take (i := 2) (v := .int .u64 (j2.length : Int)) rfl (by kernel_rfl) (by kernel_rfl) (by kernel_rfl) (fun _ _ _ h => h) (Or.inl ⟨by rfl, fun W => by go_simp⟩) ?_
            refine wpAny_ready (rs := [1]) (by kernel_rfl) (by simp) ?_
            refine AllReady.cons rfl (fun K hK => ?_) AllReady.nil
            go_simp
            go_at_call 14
            refine (G3.out _ h40).mono ?_
            rintro e w5 ⟨rfl, rfl⟩
            refine hK _ _ ?_
            clear hK K
            refine wpAny_take (i := 3) (v := .bool false) rfl (by kernel_rfl) (by kernel_rfl) (by kernel_rfl) (fun _ _ _ h => h) (Or.inl ⟨by rfl, fun W => by go_simp⟩) ?_
            refine wpAny_take (i := 4) (v := .bool false) rfl (by kernel_rfl) (by kernel_rfl) (by kernel_rfl) (fun _ _ _ h => h) (Or.inl ⟨by rfl, fun W => by go_simp⟩) ?_
            refine wpAny_take (i := 5) (v := .int .i64 i) rfl (by kernel_rfl) (by kernel_rfl) (by kernel_rfl) (fun _ _ _ h => h) (Or.inl ⟨by rfl, fun W => by go_simp⟩) ?_
            go_simp
            refine wpAny_take (i := 6) (v := .int .i64 0) rfl (by kernel_rfl) (by kernel_rfl) (by kernel_rfl) (fun _ _ _ h => h) (Or.inl ⟨by rfl, fun W => by go_simp⟩) ?_
            refine wpAny_take (i := 7) (v := .bool true) rfl (by kernel_rfl) (by kernel_rfl) (by kernel_rfl) (fun _ _ _ h => h) (Or.inl ⟨by rfl, fun W => by go_simp⟩) ?_
            refine wpAny_take (i := 8) (v := .bool true) rfl (by kernel_rfl) (by kernel_rfl) (by kernel_rfl) (fun _ _ _ h => h) (Or.inl ⟨by rfl, fun W => by go_simp⟩) ?_
            go_simp
            refine wpAny_take (i := 9) (v := .pointer (some ⟨w.heap.size, 0, none⟩)) rfl (by kernel_rfl) (by kernel_rfl) (by kernel_rfl) (fun _ _ _ h => h) (Or.inl ⟨by rfl, fun W => by go_simp⟩) ?_
            refine wpAny_take (i := 11) (v := .slice (some ⟨b, off, none⟩) rs.length c) rfl (by kernel_rfl) (by kernel_rfl) (by kernel_rfl) (fun _ _ _ h => h) (Or.inl ⟨by rfl, fun W => by go_simp⟩) ?_
            refine wpAny_take (i := 12) (v := .int .i64 i) rfl (by kernel_rfl) (by kernel_rfl) (by kernel_rfl) (fun _ _ _ h => h) (Or.inl ⟨by rfl, fun W => by go_simp⟩) ?_
            go_simp
            refine wpAny_take (i := 13) (v := .int .i64 (i + 1)) rfl (by kernel_rfl) (by kernel_rfl) (by kernel_rfl) (fun _ _ _ h => h) (Or.inl ⟨by rfl, fun W => by go_simp⟩) ?_
            refine wpAny_ready (rs := [10, 14]) (by kernel_rfl) (by simp) ?_
            refine AllReady.cons rfl (fun K hK => ?_) (AllReady.cons rfl (fun K hK => ?_) AllReady.nil)
            · go_simp
              go_at_call 15
              refine (G4.out _ h40).mono ?_
              rintro e w6 ⟨rfl, hb6⟩
              have h60 := h40.trans (hb6.mono h40.size)
              refine hK _ _ ?_
              clear hK K
              refine wpAny_ready (rs := [14]) (by kernel_rfl) (by simp) ?_
              refine AllReady.cons rfl (fun K hK => ?_) AllReady.nil
              go_simp
              refine hK _ _ ?_
              clear hK K
              refine wpAny_ready (rs := [15]) (by kernel_rfl) (by simp) ?_
              refine AllReady.cons rfl (fun K hK => ?_) AllReady.nil
              go_simp
              go_at_call 16
              refine (G5.out _ h60).mono ?_
              rintro e w7 ⟨v7, rfl, own7, hb7⟩
              have h70 := h60.trans (hb7.mono h60.size)
              obtain ⟨A7, c7, rfl, k7, m7, hr7⟩ := own7.opened
              refine hK _ _ ?_
              clear hK K
              refine wpAny_ready (rs := [16]) (by kernel_rfl) (by simp) ?_
              refine AllReady.cons rfl (fun K hK => ?_) AllReady.nil
              go_simp
              go_at_call 9
              refine (G6.out _ h70 _ _ k7 m7 hr7).mono ?_
              rintro e w8 ⟨rfl, hb8⟩
              have h80 := h70.trans (hb8.mono h70.size)
              refine hK _ _ ?_
              clear hK K
              refine wpAny_take (i := 17) (v := .bool false) rfl (by kernel_rfl) (by kernel_rfl) (by kernel_rfl) (fun _ _ _ h => h) (Or.inl ⟨by rfl, fun W => by go_simp⟩) ?_
              refine wpAny_take (i := 18) (v := .bool false) rfl (by kernel_rfl) (by kernel_rfl) (by kernel_rfl) (fun _ _ _ h => h) (Or.inl ⟨by rfl, fun W => by go_simp⟩) ?_
              refine wpAny_take (i := 19) (v := .bool false) rfl (by kernel_rfl) (by kernel_rfl) (by kernel_rfl) (fun _ _ _ h => h) (Or.inl ⟨by rfl, fun W => by go_simp⟩) ?_
              go_simp
              refine wpAny_done (by kernel_rfl) ?_ _
              go_wp2_with fail
              go_meet
              exact ⟨rfl, h80⟩
            · go_simp
              refine hK _ _ ?_
              clear hK K
              refine wpAny_ready (rs := [10]) (by kernel_rfl) (by simp) ?_
              refine AllReady.cons rfl (fun K hK => ?_) AllReady.nil
              go_simp
              go_at_call 15
              refine (G4.out _ h40).mono ?_
              rintro e w6 ⟨rfl, hb6⟩
              have h60 := h40.trans (hb6.mono h40.size)
              refine hK _ _ ?_
              clear hK K
              refine wpAny_ready (rs := [15]) (by kernel_rfl) (by simp) ?_
              refine AllReady.cons rfl (fun K hK => ?_) AllReady.nil
              go_simp
              go_at_call 16
              refine (G5.out _ h60).mono ?_
              rintro e w7 ⟨v7, rfl, own7, hb7⟩
              have h70 := h60.trans (hb7.mono h60.size)
              obtain ⟨A7, c7, rfl, k7, m7, hr7⟩ := own7.opened
              refine hK _ _ ?_
              clear hK K
              refine wpAny_ready (rs := [16]) (by kernel_rfl) (by simp) ?_
              refine AllReady.cons rfl (fun K hK => ?_) AllReady.nil
              go_simp
              go_at_call 9
              refine (G6.out _ h70 _ _ k7 m7 hr7).mono ?_
              rintro e w8 ⟨rfl, hb8⟩
              have h80 := h70.trans (hb8.mono h70.size)
              refine hK _ _ ?_
              clear hK K
              refine wpAny_take (i := 17) (v := .bool false) rfl (by kernel_rfl) (by kernel_rfl) (by kernel_rfl) (fun _ _ _ h => h) (Or.inl ⟨by rfl, fun W => by go_simp⟩) ?_
              refine wpAny_take (i := 18) (v := .bool false) rfl (by kernel_rfl) (by kernel_rfl) (by kernel_rfl) (fun _ _ _ h => h) (Or.inl ⟨by rfl, fun W => by go_simp⟩) ?_
              refine wpAny_take (i := 19) (v := .bool false) rfl (by kernel_rfl) (by kernel_rfl) (by kernel_rfl) (fun _ _ _ h => h) (Or.inl ⟨by rfl, fun W => by go_simp⟩) ?_
              go_simp
              refine wpAny_done (by kernel_rfl) ?_ _
              go_wp2_with fail
              go_meet
              exact ⟨rfl, h80⟩
          · have t9 : ¬ (i : Int).tmod 8 = 0 := by rw [Int.tmod_eq_emod_of_nonneg (by omega)]; omega
            have n1 : ((j2.length : Int) != (j2.length : Int)) = false := by simp
            clear h8
            refine wp_region_any (by kernel_rfl) ?_
            change wpAny _ _ _ _ _ _ _ (World.drew _)
            refine wpAny_take (i := 0) (v := .pointer (some ⟨w.heap.size, 0, none⟩)) rfl (by kernel_rfl) (by kernel_rfl) (by kernel_rfl) (fun _ _ _ h => h) (Or.inl ⟨by rfl, fun W => by go_simp⟩) ?_
            refine wpAny_take (i := 2) (v := .int .u64 (j2.length : Int)) rfl (by kernel_rfl) (by kernel_rfl) (by kernel_rfl) (fun _ _ _ h => h) (Or.inl ⟨by rfl, fun W => by go_simp⟩) ?_
            refine wpAny_ready (rs := [1]) (by kernel_rfl) (by simp) ?_
            refine AllReady.cons rfl (fun K hK => ?_) AllReady.nil
            go_simp
            go_at_call 14
            refine (G3.out _ h40).mono ?_
            rintro e w5 ⟨rfl, rfl⟩
            refine hK _ _ ?_
            clear hK K
            refine wpAny_take (i := 3) (v := .bool false) rfl (by kernel_rfl) (by kernel_rfl) (by kernel_rfl) (fun _ _ _ h => h) (Or.inl ⟨by rfl, fun W => by go_simp⟩) ?_
            refine wpAny_take (i := 4) (v := .bool false) rfl (by kernel_rfl) (by kernel_rfl) (by kernel_rfl) (fun _ _ _ h => h) (Or.inl ⟨by rfl, fun W => by go_simp⟩) ?_
            refine wpAny_take (i := 5) (v := .int .i64 i) rfl (by kernel_rfl) (by kernel_rfl) (by kernel_rfl) (fun _ _ _ h => h) (Or.inl ⟨by rfl, fun W => by go_simp⟩) ?_
            go_simp
            refine wpAny_take (i := 6) (v := .int .i64 ((i : Int).tmod 8)) rfl (by kernel_rfl) (by kernel_rfl) (by kernel_rfl) (fun _ _ _ h => h) (Or.inl ⟨by rfl, fun W => by go_simp⟩) ?_
            refine wpAny_take (i := 7) (v := .bool false) rfl (by kernel_rfl) (by kernel_rfl) (by kernel_rfl) (fun _ _ _ h => h) (Or.inl ⟨by rfl, fun W => by go_simp⟩) ?_
            refine wpAny_take (i := 8) (v := .bool false) rfl (by kernel_rfl) (by kernel_rfl) (by kernel_rfl) (fun _ _ _ h => h) (Or.inl ⟨by rfl, fun W => by go_simp⟩) ?_
            go_simp
            refine wpAny_take (i := 9) (v := undef) rfl (by kernel_rfl) (by kernel_rfl) (by kernel_rfl) (fun _ _ _ h => h) (Or.inr ⟨by rfl, rfl⟩) ?_
            refine wpAny_take (i := 10) (v := undef) rfl (by kernel_rfl) (by kernel_rfl) (by kernel_rfl) (fun _ _ _ h => h) (Or.inr ⟨by rfl, rfl⟩) ?_
            refine wpAny_take (i := 11) (v := undef) rfl (by kernel_rfl) (by kernel_rfl) (by kernel_rfl) (fun _ _ _ h => h) (Or.inr ⟨by rfl, rfl⟩) ?_
            go_simp
            refine wpAny_take (i := 12) (v := undef) rfl (by kernel_rfl) (by kernel_rfl) (by kernel_rfl) (fun _ _ _ h => h) (Or.inr ⟨by rfl, rfl⟩) ?_
            refine wpAny_take (i := 13) (v := undef) rfl (by kernel_rfl) (by kernel_rfl) (by kernel_rfl) (fun _ _ _ h => h) (Or.inr ⟨by rfl, rfl⟩) ?_
            refine wpAny_take (i := 14) (v := undef) rfl (by kernel_rfl) (by kernel_rfl) (by kernel_rfl) (fun _ _ _ h => h) (Or.inr ⟨by rfl, rfl⟩) ?_
            go_simp
            refine wpAny_take (i := 15) (v := undef) rfl (by kernel_rfl) (by kernel_rfl) (by kernel_rfl) (fun _ _ _ h => h) (Or.inr ⟨by rfl, rfl⟩) ?_
            refine wpAny_take (i := 16) (v := undef) rfl (by kernel_rfl) (by kernel_rfl) (by kernel_rfl) (fun _ _ _ h => h) (Or.inr ⟨by rfl, rfl⟩) ?_
            refine wpAny_take (i := 17) (v := undef) rfl (by kernel_rfl) (by kernel_rfl) (by kernel_rfl) (fun _ _ _ h => h) (Or.inr ⟨by rfl, rfl⟩) ?_
            go_simp
            refine wpAny_take (i := 18) (v := .bool false) rfl (by kernel_rfl) (by kernel_rfl) (by kernel_rfl) (fun _ _ _ h => h) (Or.inl ⟨by rfl, fun W => by go_simp⟩) ?_
            refine wpAny_take (i := 19) (v := .bool false) rfl (by kernel_rfl) (by kernel_rfl) (by kernel_rfl) (fun _ _ _ h => h) (Or.inl ⟨by rfl, fun W => by go_simp⟩) ?_
            refine wpAny_done (by kernel_rfl) ?_ _
            go_wp2_with fail
            go_meet
            exact ⟨rfl, h40⟩
        case rest =>
          obtain ⟨rfl, hb5⟩ := hcut
          have h5 := h4.below hb5 h4.lt
          have b5 := b4.trans (hb5.mono b4.size)
          clear hne hgn G3 G4 G5 G6 h40 Cw c4
          go_wp2_with fail
          go_roundw
          case rel => exact ⟨i + 1, by omega, by go_num, by rw [Hj2.out], by rw [Hj2.out]; exact h5, b5⟩
          case measure => simp [intOf] <;> omega
      · obtain rfl : i = rs.length := by omega
        have GS := Lib.hid (GS.out rs.length wr (Nat.le_refl _) hb hh)
        have GJ := Lib.hid (fun W => GJ.out rs.length W (Nat.le_refl _))
        have GR := Lib.hid (fun W A2 c2 => GR.out rs.length W A2 c2 (Nat.le_refl _))
        have hjb := Hjb.out rs.length
        rw [List.take_of_length_le (Nat.le_refl _)] at *
        have hjl : (joinL rs).length ≤ 1000000 := by omega
        clear hjb
        have heq := Lib.hid (sum_eq (joinL rs))
        have hgd := Lib.hid (sum_guard (joinL rs))
        generalize joinL rs = js at *
        go_wp2_with (first
          | (go_at_call 15; refine GS.out.mono ?_; rintro e w5 ⟨rfl, hb5⟩; have b5 := hb.trans (hb5.mono hb.size); have h5 := hh.below hb5 hh.lt)
          | (go_at_call 16; refine (GJ.out _ b5).mono ?_; rintro e w6 ⟨v6, rfl, own6, hb6⟩; obtain ⟨A6, c6, rfl, k6, m6, hr6⟩ := own6.opened; have b6 := b5.trans (hb6.mono b5.size); have h6 := h5.below hb6 h5.lt; have GR := Lib.hid (GR.out w6 A6 c6 k6 m6 hr6); have heq := heq.out; have hgd := hgd.out; generalize sumL js = ys at *; clear GJ own6 hr6))
        have n1 : ((js.length : Int) == (js.length : Int)) = true := by simp
        go_wp2_with (first
          | (go_at_call 10; refine GR.out.mono ?_; rintro e w7 ⟨rfl, hb7⟩; have b7 := b6.trans (hb7.mono b6.size); have h7 := h6.below hb7 h6.lt)
          | (go_at_call 14; refine (len_any w.heap.size js _ h7).mono ?_; rintro e w8 ⟨rfl, rfl⟩)
          | (go_at_call 8; refine (awake_any _ (hL.below b7)).mono ?_; rintro e w9 ⟨rfl, hb9⟩; have b9 := b7.trans (hb9.mono b7.size)))
        go_ret
        exact ⟨rfl, b9⟩
end Go.Proofs.YtfdafjlmglbepaaDoor.ShaRows
