/-
  Layer 21, merkle: the sum of a mark and rows; a leaf's sum: contracts. Conditions: as each theorem names.
-/
import Derived.Test.YtdfgdchmeikigaaDoorShV
import Derived.Test.YtdfgdchmeikigaaDoorShJ
import Derived.Test.YtdfgdchmeikigaaDoorRwc
namespace Go.Proofs.YtdfgdchmeikigaaDoor.Mk
open Go.ChangeShapes Go.WideShapes Go.ChangeAt Go.RowKit Go.Proofs.YtdfgdchmeikigaaDoor.Kit Go.Proofs.YtdfgdchmeikigaaDoor.Sha

/-- Hands back a sum, in a world that has only new blocks. -/
def Sums (xs : List Int) (w : World) (e : Ending) (w' : World) : Prop := e = .returned (arrV .u8 xs) ∧ Below w.heap.size w w'

theorem arr32D : Tryd.prog.underlying 26 = some (.array 32 5) := Tryd.underlying26


set_option maxRecDepth 100000 in
set_option maxHeartbeats 3200000 in
theorem marked_any (m : Int) (hm0 : 0 ≤ m ∧ m ≤ 255) (A : Option Addr) (rs : List Rw) (c : Nat) (w : World) (hc : rs.length ≤ c) (hm : c ≤ maxLen) (hr : HoldsW w w.heap.size A rs) (h1 : rs.length ≤ 1000) (h2 : ∀ r ∈ rs, r.zs.length ≤ 100000) (hL : LaidS w) :
    Calls Tryd.prog 66 #[.int .u8 m, .slice A rs.length c] w (Sums (sumL (m :: joinL rs)) w) := by
  unfold maxLen at hm
  have hg0 : w.heap.size + 1 ≠ 0 := by have := hL.lt (by rw [cubes_length]; omega); omega
  have hoct := hr.octets
  have hb0 : Below w.heap.size w (w.alloc (.cells ((List.replicate 32 (0 : Int)).map (Value.int .u8)).toArray 26)) := (Below.refl _ w).alloc (Nat.le_refl _) _
  have r0 : Arr (w.alloc (.cells ((List.replicate 32 (0 : Int)).map (Value.int .u8)).toArray 26)) w.heap.size 26 .u8 (List.replicate 32 0) := Arr.new w _ _ _
  have GW := Lib.hid (fun W A2 (hb : Below w.heap.size w W) (h : HashIs W (w.heap.size + 1) []) (h4 : Holds W W.heap.size .u8 A2 [m]) (h5 : Far (w.heap.size + 1) A2 [m]) => write_any (w.heap.size + 1) [] A2 [m] 1 W h (by simp) (fun _ h => absurd h (by simp)) (Nat.le_refl _) (by decide) (by intro x hx; simp at hx; omega) h4 h5 (hL.below hb) hg0)
  go_enter Tryd.func66, Tryd.ntmps66
  go_wp2_with fail
  refine (new_at w _).mono ?_
  rintro e w1 ⟨rfl, hh1, hb1⟩
  have r1 := Block.below r0 hb1 (by omega)
  have b1 := hb0.trans (hb1.mono (by omega))
  have hlt1 : w.heap.size + 1 < w1.heap.size := hh1.lt
  have a1 : Arr (w1.alloc (.cells #[.int .u8 m] 5)) w1.heap.size 5 .u8 [m] := Arr.new w1 _ _ [m]
  have hbn := (Below.refl w1.heap.size w1).alloc (Nat.le_refl _) (.cells #[.int .u8 m] 5)
  have r2 := Block.below r1 hbn (Block.lt r1)
  have hh2 := hh1.below hbn hlt1
  have b2 := b1.trans (hbn.mono b1.size)
  have far2 : Far (w.heap.size + 1) (some ⟨w1.heap.size, 0, none⟩) [m] := by
    intro _ a ha
    injection ha with ha
    subst ha
    show w1.heap.size ≠ _
    omega
  clear r1 b1 hb1 hh1
  go_wp2_with fail
  refine (GW.out _ _ b2 hh2 a1.holds_all far2).mono ?_
  rintro e w3 ⟨rfl, hh3, t3⟩
  have b3 := b2.trans (t3.toBelow b2.size fun b hb he => by omega)
  have r3 := Block.out r2 t3 (by omega)
  rw [List.nil_append] at hh3
  clear a1 hbn r2 hh2 b2 far2 t3 hlt1
  go_wp2_with fail
  go_loopw [15] (fun s wr => ∃ i : Nat, i ≤ rs.length ∧ s = .int .i64 i ∧ HashIs wr (w.heap.size + 1) (m :: joinL (rs.take i)) ∧ Arr wr w.heap.size 26 .u8 (List.replicate 32 0) ∧ Below w.heap.size w wr) (fun s _ => rs.length - (intOf s).toNat)
  case atStart => exact ⟨0, by omega, rfl, hh3, r3, b3⟩
  case round =>
    clear hh3 r3 b3
    obtain ⟨i, hi, rfl, hh, r, hb⟩ := hrel
    have hjb := joinL_le (rs := rs.take i) (m := 100000) (fun r hr => h2 r (List.mem_of_mem_take hr))
    rw [List.length_take] at hjb
    have hjo : Octets (m :: joinL (rs.take i)) := by
      intro x hx
      rcases List.mem_cons.1 hx with rfl | hx
      · exact hm0
      · exact joinL_octets (rs := rs.take i) (fun r hr => hoct r (List.mem_of_mem_take hr)) x hx
    by_cases hlt : i < rs.length
    · have hjn := joinL_next hlt
      have hz := h2 _ (List.getElem_mem hlt)
      obtain ⟨b, off, rfl, hbl, cw, k1, k2, hoz, hrz⟩ := rwAt hr hlt
      have GQ := Lib.hid (write_any (w.heap.size + 1) (m :: joinL (rs.take i)) rs[i].A rs[i].zs rs[i].cap wr hh (by simp; omega) hjo k1 k2 hoz ((hrz.below hb).more hb.size) (far_of hrz (by omega)) (hL.below hb) hg0)
      rw [List.cons_append, ← hjn] at GQ
      have c0 : wr.cell? ⟨b, off + i, none⟩ = some (.slice rs[i].A rs[i].zs.length rs[i].cap) := (hb.cell (p := ⟨b, off + i, none⟩) hbl).trans cw
      generalize rs[i] = q at *
      clear hjn hjo hjb hh hrz cw
      go_wp2_with (go_at_call 84; refine GQ.out.mono ?_; rintro e w4 ⟨rfl, h4, t4⟩; have b4 := hb.trans (t4.toBelow hb.size fun b hb he => by omega); have r4 := Block.out r t4 (by omega))
      go_roundw
      case rel => exact ⟨i + 1, by omega, by go_num, h4, r4, b4⟩
      case measure => simp [intOf] <;> omega
    · obtain rfl : i = rs.length := by omega
      rw [List.take_of_length_le (Nat.le_refl _)] at hh hjo hjb
      have GS := Lib.hid (hsum_any (w.heap.size + 1) (m :: joinL rs) wr hh (by simp; omega) hjo (hL.below hb) hg0)
      have hsl := Lib.hid (sumL_length (m :: joinL rs))
      generalize sumL (m :: joinL rs) = ys at *
      clear hjo hjb
      go_wp2_with (first
        | (go_at_call 85; refine GS.out.mono ?_; rintro e w5 ⟨rfl, hb5⟩; have r5 : Arr w5 w.heap.size 26 .u8 (List.replicate 32 0) := Block.below r hb5 (Block.lt r); have b5 := hb.trans (hb5.mono hb.size))
        | (have _t := r5; refine wpList_store_arr rfl _ _ _ rfl r5 rfl rfl (by rw [hsl.out]; rfl) (by rw [hsl.out]; kernel_rfl) ?_; intro w9 r9 g9))
      refine bodyPost_ret (v := arrV .u8 ys) (results_cell_row rfl _ _ w.heap.size 26 _ (0, 0) _ rfl r9 arr32D rfl (by rw [show (ys.map (Value.int .u8)).toArray.size = 32 by simp [hsl.out]]; kernel_rfl)) rfl ⟨rfl, ?_⟩
      exact b5.trans (below_of_grown g9 b5.size fun b hb => by injection hb with hb; omega)
end Go.Proofs.YtdfgdchmeikigaaDoor.Mk
