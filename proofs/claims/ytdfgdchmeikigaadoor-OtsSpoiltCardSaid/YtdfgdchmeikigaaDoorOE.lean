/-
  Layer 3, ots: a text's signature: contracts. Conditions: as each theorem names.
-/
import Derived.Test.YtdfgdchmeikigaaDoorOC
import Derived.Maps.RangeWalk
import Derived.Deep.CutRange
namespace Go.Proofs.YtdfgdchmeikigaaDoor.Ot
open Go.ChangeShapes Go.WideShapes Go.ChangeAt Go.RowKit Go.Proofs.YtdfgdchmeikigaaDoor.Kit Go.Proofs.YtdfgdchmeikigaaDoor.Sha Go.Proofs.YtdfgdchmeikigaaDoor.Mk Go.Proofs.YtdfgdchmeikigaaDoor.Oct

/-- The place that a signature tells of the chain i; what a signature is behind n chains. -/
def sigEnd (nm : List Int) (ds seed : List Int) (i : Nat) : List Int := walkL nm i 0 (ds.getD i 0).toNat (secL nm i seed)
def outL (nm : List Int) (k : Int) (ds seed : List Int) (n : Nat) : List Int := be 4 k ++ secL nm 65533 seed ++ endsL (sigEnd nm ds seed) n
theorem sigEnd_d32 (nm ds seed : List Int) (i : Nat) : D32 (sigEnd nm ds seed i) := walkL_d32 (secL_d32 _ _ _)
theorem endsL_length {g : Nat → List Int} (h : ∀ i, (g i).length = 32) (n : Nat) : (endsL g n).length = 32 * n := by
  induction n with
  | zero => rfl
  | succ n ih => rw [endsL_next, List.length_append, ih, h]; omega
theorem outL_length (nm : List Int) (k : Int) (ds seed : List Int) (n : Nat) : (outL nm k ds seed n).length = 36 + 32 * n := by
  unfold outL
  rw [List.length_append, List.length_append, be_length, (secL_d32 _ _ _).1, endsL_length fun i => (sigEnd_d32 nm ds seed i).1]
theorem outL_next (nm : List Int) (k : Int) (ds seed : List Int) (n : Nat) : outL nm k ds seed (n + 1) = outL nm k ds seed n ++ sigEnd nm ds seed n := by
  unfold outL
  rw [endsL_next]
  simp only [List.append_assoc]
/-- The salt; a text's signature. -/
def saltL (nm seed : List Int) : List Int := secL nm 65533 seed
def signL (nm : List Int) (k : Int) (seed text : List Int) : List Int := outL nm k (dgsL nm k (saltL nm seed) text) seed (manyN k)
/-- A row of bytes in new memory, and an error's number. -/
def SignN (xs : List Int) (n : Int) (w : World) (e : Ending) (w' : World) : Prop := ∃ v, e = .returned (.tuple #[v, .int .i64 n]) ∧ Own w' w.heap.size 5 .u8 v xs ∧ Below w.heap.size w w'

set_option maxRecDepth 100000 in
set_option maxHeartbeats 6400000 in
theorem sign_no (k : Int) (hk : ¬ KindIn k) (id : List Int) (q : Int) (seed : List Int) (A2 : Option Addr) (text : List Int) (c2 : Nat) (w : World) :
    Calls Tryd.prog 21 #[.int .u32 k, .agg (id.map (Value.int .u8)).toArray, .int .u32 q, .agg (seed.map (Value.int .u8)).toArray, .slice A2 text.length c2] w (SignN [] 21 w) := by
  have b0 := below_two' (w := w) (.cells (id.map (Value.int .u8)).toArray 30) (.cells (seed.map (Value.int .u8)).toArray 26)
  have hc : chainsN k = 0 := by rw [chains_many, (kind_none hk).2.1]; rfl
  have GC := Lib.hid (fun W => chains_any k W)
  rw [hc] at GC
  clear hc
  go_enter Tryd.func21, Tryd.ntmps21
  go_wp2_with (go_at_call 16; refine (GC.out _).mono ?_; rintro e w1 ⟨rfl, rfl⟩)
  go_ret2
  exact ⟨_, rfl, Own.nil _ _ _ _, b0⟩

set_option maxRecDepth 100000 in
set_option maxHeartbeats 12800000 in
theorem sign_in (k : Int) (hk : KindIn k) (id : List Int) (hid : id.length = 16) (hio : Octets id) (q : Int) (hq : 0 ≤ q ∧ q < 4294967296) (seed : List Int) (hs : D32 seed) (A2 : Option Addr) (text : List Int) (c2 : Nat) (w : World) (htx : RwOk w w.heap.size ⟨A2, c2, text⟩) (htl : text.length ≤ 40000) (hL : LaidS w) :
    Calls Tryd.prog 21 #[.int .u32 k, .agg (id.map (Value.int .u8)).toArray, .int .u32 q, .agg (seed.map (Value.int .u8)).toArray, .slice A2 text.length c2] w (SignN (signL (nmL id q) k seed text) 0 w) := by
  have b0 := below_two' (w := w) (.cells (id.map (Value.int .u8)).toArray 30) (.cells (seed.map (Value.int .u8)).toArray 26)
  have i0 : Arr ((w.alloc (.cells (id.map (Value.int .u8)).toArray 30)).alloc (.cells (seed.map (Value.int .u8)).toArray 26)) w.heap.size 30 .u8 id := (Arr.new w _ _ _).alloc _
  have s0 : Arr ((w.alloc (.cells (id.map (Value.int .u8)).toArray 30)).alloc (.cells (seed.map (Value.int .u8)).toArray 26)) (w.heap.size + 1) 26 .u8 seed := by
    have := Arr.new (w.alloc (.cells (id.map (Value.int .u8)).toArray 30)) 26 .u8 seed
    rwa [show (w.alloc (.cells (id.map (Value.int .u8)).toArray 30)).heap.size = w.heap.size + 1 by simp] at this
  have dm : decide ((manyN k : Int) = 0) = false := decide_eq_false (by have := (kind_wide hk).2.1; omega)
  have dm2 : ((manyN k : Int) == 0) = false := by rw [beq_eq_false_iff_ne]; have := (kind_wide hk).2.1; omega
  have GC := Lib.hid (fun W => chains_any k W)
  rw [chains_many] at GC
  have hk0 : 0 ≤ k ∧ k ≤ 4 := by unfold KindIn at hk; omega
  have hmb := manyN_bd k
  have hm1 := (kind_wide hk).2.1
  have hnl := nmL_length (q := q) hid
  have hno := nmL_octets (q := q) hio
  have GN := Lib.hid (fun W => nameOf_any id hid hio q hq W)
  have hsd : D32 (saltL (nmL id q) seed) := secL_d32 _ _ _
  have GR := Lib.hid (fun W (hB : Below w.heap.size w W) A B1 B2 (h : HoldsW W W.heap.size A [⟨B1, 3, [255, 253, 255]⟩, ⟨B2, 32, seed⟩]) => nsum_any (nmL id q) hnl hno A [⟨B1, 3, [255, 253, 255]⟩, ⟨B2, 32, seed⟩] 2 W (Nat.le_refl _) (by decide) h (by simp) (by
    intro r hr
    simp at hr
    rcases hr with rfl | rfl
    · exact (by decide : 3 ≤ 100000)
    · show seed.length ≤ 100000
      rw [hs.1]; decide) (hL.below hB))
  have hjs : ∀ B1 B2, sumL (nmL id q ++ joinL [⟨B1, 3, [255, 253, 255]⟩, ⟨B2, 32, seed⟩]) = saltL (nmL id q) seed := fun B1 B2 => by
    rw [joinL_two]
    show _ = sumL (nmL id q ++ (be 2 65533 ++ [255] ++ seed))
    rw [show be 2 65533 ++ [255] = [255, 253, 255] by decide]
  simp only [hjs] at GR
  clear hjs
  have GD := Lib.hid (fun W A1 (h1 : RwOk W W.heap.size ⟨A1, 32, saltL (nmL id q) seed⟩) (h2 : RwOk W W.heap.size ⟨A2, c2, text⟩) (hB : Below w.heap.size w W) => ndigits_any (nmL id q) hnl hno k hk A1 (saltL (nmL id q) seed) 32 A2 text c2 W h1 h2 (by rw [hsd.1]; decide) (by omega) (hL.below hB))
  rw [hsd.1] at GD
  have hdl := dgsL_length hk (nmL id q) (saltL (nmL id q) seed) text
  have hdb := dgsL_bd hk (nmL id q) (saltL (nmL id q) seed) text
  have hsg : signL (nmL id q) k seed text = outL (nmL id q) k (dgsL (nmL id q) k (saltL (nmL id q) seed) text) seed (manyN k) := rfl
  have HSG := Lib.hid hsg
  clear hsg
  generalize signL (nmL id q) k seed text = sg at *
  generalize dgsL (nmL id q) k (saltL (nmL id q) seed) text = ds at *
  have HO0 : Hid (be 4 k ++ saltL (nmL id q) seed = outL (nmL id q) k ds seed 0) := Lib.hid (by unfold outL; show _ = _ ++ []; rw [List.append_nil]; rfl)
  have HON := Lib.hid (outL_next (nmL id q) k ds seed)
  have HOL := Lib.hid (outL_length (nmL id q) k ds seed)
  have HDL := Lib.hid hdl
  have hln := lastN_bd k
  have GS := Lib.hid (fun (j : Nat) (hj : j < manyN k) W (hb : Below w.heap.size w W) => secret_any (nmL id q) hnl hno j (by omega) seed hs W (hL.below hb))
  have GW := Lib.hid (fun (j f : Nat) (hj : j < manyN k) (hf : ds.getD j 0 = (f : Int)) (hfl : f ≤ lastN k) W (hb : Below w.heap.size w W) => (show Calls Tryd.prog 51 #[.agg ((nmL id q).map (Value.int .u8)).toArray, .int .i64 j, .int .i64 0, .int .i64 f, .agg ((secL (nmL id q) j seed).map (Value.int .u8)).toArray] W (Sums (sigEnd (nmL id q) ds seed j) W) from by
    have := walk_any (nmL id q) hnl hno j (by omega) 0 f (Nat.zero_le _) (by omega) (secL (nmL id q) j seed) (secL_d32 _ _ _) W (hL.below hb)
    unfold sigEnd
    rw [hf, Int.toNat_natCast]
    exact this))
  have HGL := Lib.hid (fun j => (sigEnd_d32 (nmL id q) ds seed j).1)
  have HSL := Lib.hid (fun j : Nat => (secL_d32 (nmL id q) j seed).1)
  have GP : Hid (∀ W, Calls Tryd.prog 59 #[.slice none 0 0, .int .i64 4, .int .u64 k] W (Rowed (be 4 k) W)) := Lib.hid (fun W => put_any none [] 0 0 4 k W (by simp) Holds.nil ⟨hk0.1, by omega⟩)
  have hbl := Lib.hid (be_length 4 k)
  have HI := Lib.hid hid
  have HNl := Lib.hid hnl
  have HS := Lib.hid hs.1
  have hos := hs.2
  have HSd := Lib.hid hsd.1
  have hso := hsd.2
  have h253 : Octets [255, 253, 255] := by intro x hx; simp at hx; omega
  generalize nmL id q = nm at *
  generalize saltL nm seed = salt at *
  generalize be 4 k = b4k at *
  clear hid hnl hs hsd hk hdl hno hio
  generalize manyN k = m at *
  generalize lastN k = ln at *
  go_enter Tryd.func21, Tryd.ntmps21
  go_wp2_with (first
    | (go_at_call 16; refine (GC.out _).mono ?_; rintro e w1 ⟨rfl, rfl⟩)
    | (have _t := i0; refine wpList_load_arr rfl _ _ rfl i0 rfl arr16I rfl (by rw [HI.out]; kernel_rfl) ?_)
    | (have _t := b0; go_at_call 48; refine (GN.out _).mono ?_; clear _t; rintro e w2 ⟨rfl, hb⟩
       have s2 : Arr w2 (w.heap.size + 1) 26 .u8 seed := Block.below s0 hb (Block.lt s0)
       have b2 := b0.trans (hb.mono b0.size)
       have z2 : Arr (w2.alloc (.cells ((List.replicate 20 (0 : Int)).map (Value.int .u8)).toArray 78)) w2.heap.size 78 .u8 (List.replicate 20 0) := Arr.new w2 78 .u8 (List.replicate 20 0)
       clear s0 b0 hb i0)
    | (have _t := z2; refine wpList_store_arr rfl _ _ _ rfl (ys := nm) z2 rfl rfl (by rw [HNl.out]; rfl) (by rw [HNl.out]; kernel_rfl) ?_; clear _t; intro w3 n3 g3
       have hb3 : Below w2.heap.size w2 w3 := below_fill (Below.refl _ _) (Nat.le_refl _) g3
       have s3 : Arr w3 (w.heap.size + 1) 26 .u8 seed := Block.below s2 hb3 (Block.lt s2)
       have b3 := b2.trans (hb3.mono b2.size)
       have l2 := Block.lt s2
       clear z2 s2 b2 g3 hb3))
  generalize w2.heap.size = nb at *
  go_frame
  go_cut [13] from 24 to 28 (fun s13 wx => ∃ sb : Nat, s13 = .pointer (some ⟨sb, 0, none⟩) ∧ Arr wx sb 26 .u8 salt ∧ Arr wx nb 78 .u8 nm ∧ Arr wx (w.heap.size + 1) 26 .u8 seed ∧ Below w.heap.size w wx)
  case first =>
    have n4 := n3.drewN 1
    have s4 := s3.drewN 1
    have b4 := below_draws b3 1
    refine wp_region_held_drew (S := (fun W => Arr W nb 78 .u8 nm)) (by kernel_rfl) n4 (fun hS => ?_)
    refine wpAnyH_take (i := 0) (v := .agg (nm.map (Value.int .u8)).toArray) rfl (by kernel_rfl) (by kernel_rfl) (by kernel_rfl) (fun _ _ _ h => h) (yieldsIf_load_mid (by rfl) _ _ rfl nb 0 rfl (nm.map (Value.int .u8)) _ (fun W hW => Arr.range hW) arr20 rfl (by rw [List.length_map, HNl.out]; kernel_rfl)) hS ?_
    try simp only [Act.put, List.setIfInBounds_toArray, List.set_cons_zero, List.set_cons_succ]
    refine wpAnyH_take (i := 2) (oi := ⟨some 26, _, _, _, _, _⟩) (v := .slice (some ⟨w.heap.size + 1, 0, none⟩) 32 32) rfl (by kernel_rfl) (by kernel_rfl) (by kernel_rfl) (fun _ _ _ h => h) (Or.inl ⟨by rfl, fun W hW => by go_simp⟩) hS ?_
    try simp only [Act.put, List.setIfInBounds_toArray, List.set_cons_zero, List.set_cons_succ]
    obtain ⟨x0, e0⟩ : ∃ x0, x0 = w3.drew := ⟨_, rfl⟩
    have nx0 : Arr x0 nb 78 .u8 nm := by rw [e0]; exact n4
    have sx0 : Arr x0 (w.heap.size + 1) 26 .u8 seed := by rw [e0]; exact s4
    have bx0 : Below w.heap.size w x0 := by rw [e0]; exact b4
    rw [← e0] at hS ⊢
    clear e0 n4 s4 b4
    have l3 := bx0.size
    have l4 := Block.lt nx0
    refine wpAnyH_ready (rs := [1, 5]) (by kernel_rfl) (by simp) ?_
    refine AllReadyH.cons rfl (fun K hK => ?_) (AllReadyH.cons rfl (fun K hK => ?_) AllReadyH.nil)
    · go_simp
      have h := below_last x0 (.cells #[.int .u8 255, .int .u8 253, .int .u8 255] 5)
      have new_m : RwOk (x0.alloc (.cells #[.int .u8 255, .int .u8 253, .int .u8 255] 5)) (x0.alloc (.cells #[.int .u8 255, .int .u8 253, .int .u8 255] 5)).heap.size ⟨some ⟨x0.heap.size, 0, none⟩, 3, [255, 253, 255]⟩ := RwOk.arr (Arr.new x0 5 .u8 [255, 253, 255]) h253 (by decide)
      generalize hgen : x0.alloc (.cells #[.int .u8 255, .int .u8 253, .int .u8 255] 5) = x1 at *
      have nx1 : Arr x1 nb 78 .u8 nm := Block.below nx0 h (Block.lt nx0)
      have sx1 : Arr x1 (w.heap.size + 1) 26 .u8 seed := Block.below sx0 h (Block.lt sx0)
      have bx1 : Below w.heap.size w x1 := bx0.trans (h.mono bx0.size)
      have mx1 : RwOk x1 x1.heap.size ⟨some ⟨x0.heap.size, 0, none⟩, 3, [255, 253, 255]⟩ := new_m
      clear hgen h new_m
      refine hK.out _ _ nx1 (fun hS => ?_)
      clear hK K
      try simp only [Act.put, List.setIfInBounds_toArray, List.set_cons_zero, List.set_cons_succ]
      refine wpAnyH_ready (rs := [3, 5]) (by kernel_rfl) (by simp) ?_
      refine AllReadyH.cons rfl (fun K hK => ?_) (AllReadyH.cons rfl (fun K hK => ?_) AllReadyH.nil)
      · go_simp
        have K3 := RwOk.arr sx1 hos (by rw [HS.out]; decide)
        rw [HS.out] at K3
        have hro := rows_laid (w := x1) (t := 35) [⟨some ⟨x0.heap.size, 0, none⟩, 3, [255, 253, 255]⟩, ⟨some ⟨w.heap.size + 1, 0, none⟩, 32, seed⟩] (by intro r hr; simp at hr; rcases hr with rfl | rfl; exact mx1; exact K3)
        simp only [List.map_cons, List.map_nil, Rw.val] at hro
        clear K3
        have h := below_last x1 (.cells #[.slice (some ⟨x0.heap.size, 0, none⟩) 3 3, .slice (some ⟨w.heap.size + 1, 0, none⟩) 32 32] 35)
        have new_h : HoldsW (x1.alloc (.cells #[.slice (some ⟨x0.heap.size, 0, none⟩) 3 3, .slice (some ⟨w.heap.size + 1, 0, none⟩) 32 32] 35)) (x1.alloc (.cells #[.slice (some ⟨x0.heap.size, 0, none⟩) 3 3, .slice (some ⟨w.heap.size + 1, 0, none⟩) 32 32] 35)).heap.size (some ⟨x1.heap.size, 0, none⟩) [⟨some ⟨x0.heap.size, 0, none⟩, 3, [255, 253, 255]⟩, ⟨some ⟨w.heap.size + 1, 0, none⟩, 32, seed⟩] := (by rw [HS.out] at hro; exact hro)
        generalize hgen : x1.alloc (.cells #[.slice (some ⟨x0.heap.size, 0, none⟩) 3 3, .slice (some ⟨w.heap.size + 1, 0, none⟩) 32 32] 35) = x2 at *
        have nx2 : Arr x2 nb 78 .u8 nm := Block.below nx1 h (Block.lt nx1)
        have sx2 : Arr x2 (w.heap.size + 1) 26 .u8 seed := Block.below sx1 h (Block.lt sx1)
        have bx2 : Below w.heap.size w x2 := bx1.trans (h.mono bx1.size)
        have mx2 : RwOk x2 x2.heap.size ⟨some ⟨x0.heap.size, 0, none⟩, 3, [255, 253, 255]⟩ := RwOk.on mx1 h
        have hx2 : HoldsW x2 x2.heap.size (some ⟨x1.heap.size, 0, none⟩) [⟨some ⟨x0.heap.size, 0, none⟩, 3, [255, 253, 255]⟩, ⟨some ⟨w.heap.size + 1, 0, none⟩, 32, seed⟩] := new_h
        clear hgen h new_h
        refine hK.out _ _ nx2 (fun hS => ?_)
        clear hK K
        try simp only [Act.put, List.setIfInBounds_toArray, List.set_cons_zero, List.set_cons_succ]
        refine wpAnyH_ready (rs := [4, 5]) (by kernel_rfl) (by simp) ?_
        refine AllReadyH.cons rfl (fun K hK => ?_) (AllReadyH.cons rfl (fun K hK => ?_) AllReadyH.nil)
        · go_simp
          go_at_call 58
          refine (GR.out _ bx2 _ _ _ hx2).mono ?_
          rintro e x3 ⟨rfl, h⟩
          have nx3 : Arr x3 nb 78 .u8 nm := Block.below nx2 h (Block.lt nx2)
          have sx3 : Arr x3 (w.heap.size + 1) 26 .u8 seed := Block.below sx2 h (Block.lt sx2)
          have bx3 : Below w.heap.size w x3 := bx2.trans (h.mono bx2.size)
          have mx3 : RwOk x3 x3.heap.size ⟨some ⟨x0.heap.size, 0, none⟩, 3, [255, 253, 255]⟩ := RwOk.on mx2 h
          have hx3 : HoldsW x3 x3.heap.size (some ⟨x1.heap.size, 0, none⟩) [⟨some ⟨x0.heap.size, 0, none⟩, 3, [255, 253, 255]⟩, ⟨some ⟨w.heap.size + 1, 0, none⟩, 32, seed⟩] := (HoldsW.below hx2 h).more h.size
          refine hK.out _ _ nx3 (fun hS => ?_)
          clear hK K
          try simp only [Act.put, List.setIfInBounds_toArray, List.set_cons_zero, List.set_cons_succ]
          refine wpAnyH_ready (rs := [5]) (by kernel_rfl) (by simp) ?_
          refine AllReadyH.cons rfl (fun K hK => ?_) AllReadyH.nil
          have q1 := Block.lt nx3
          have q2 := Block.lt sx3
          have q3 := bx3.size
          go_simp
          have h := below_last x3 (.cells #[.int .u8 0, .int .u8 0, .int .u8 0, .int .u8 0, .int .u8 0, .int .u8 0, .int .u8 0, .int .u8 0, .int .u8 0, .int .u8 0, .int .u8 0, .int .u8 0, .int .u8 0, .int .u8 0, .int .u8 0, .int .u8 0, .int .u8 0, .int .u8 0, .int .u8 0, .int .u8 0, .int .u8 0, .int .u8 0, .int .u8 0, .int .u8 0, .int .u8 0, .int .u8 0, .int .u8 0, .int .u8 0, .int .u8 0, .int .u8 0, .int .u8 0, .int .u8 0] 26)
          have new_z : Arr (x3.alloc (.cells #[.int .u8 0, .int .u8 0, .int .u8 0, .int .u8 0, .int .u8 0, .int .u8 0, .int .u8 0, .int .u8 0, .int .u8 0, .int .u8 0, .int .u8 0, .int .u8 0, .int .u8 0, .int .u8 0, .int .u8 0, .int .u8 0, .int .u8 0, .int .u8 0, .int .u8 0, .int .u8 0, .int .u8 0, .int .u8 0, .int .u8 0, .int .u8 0, .int .u8 0, .int .u8 0, .int .u8 0, .int .u8 0, .int .u8 0, .int .u8 0, .int .u8 0, .int .u8 0] 26)) x3.heap.size 26 .u8 (List.replicate 32 0) := Arr.new x3 26 .u8 (List.replicate 32 0)
          generalize hgen : x3.alloc (.cells #[.int .u8 0, .int .u8 0, .int .u8 0, .int .u8 0, .int .u8 0, .int .u8 0, .int .u8 0, .int .u8 0, .int .u8 0, .int .u8 0, .int .u8 0, .int .u8 0, .int .u8 0, .int .u8 0, .int .u8 0, .int .u8 0, .int .u8 0, .int .u8 0, .int .u8 0, .int .u8 0, .int .u8 0, .int .u8 0, .int .u8 0, .int .u8 0, .int .u8 0, .int .u8 0, .int .u8 0, .int .u8 0, .int .u8 0, .int .u8 0, .int .u8 0, .int .u8 0] 26) = x4 at *
          have nx4 : Arr x4 nb 78 .u8 nm := Block.below nx3 h (Block.lt nx3)
          have sx4 : Arr x4 (w.heap.size + 1) 26 .u8 seed := Block.below sx3 h (Block.lt sx3)
          have bx4 : Below w.heap.size w x4 := bx3.trans (h.mono bx3.size)
          have mx4 : RwOk x4 x4.heap.size ⟨some ⟨x0.heap.size, 0, none⟩, 3, [255, 253, 255]⟩ := RwOk.on mx3 h
          have hx4 : HoldsW x4 x4.heap.size (some ⟨x1.heap.size, 0, none⟩) [⟨some ⟨x0.heap.size, 0, none⟩, 3, [255, 253, 255]⟩, ⟨some ⟨w.heap.size + 1, 0, none⟩, 32, seed⟩] := (HoldsW.below hx3 h).more h.size
          have zx4 : Arr x4 x3.heap.size 26 .u8 (List.replicate 32 0) := new_z
          clear hgen h new_z
          refine hK.out _ _ nx4 (fun hS => ?_)
          clear hK K
          try simp only [Act.put, List.setIfInBounds_toArray, List.set_cons_zero, List.set_cons_succ]
          refine wpAnyH_ready (rs := [6]) (by kernel_rfl) (by simp) ?_
          refine AllReadyH.cons rfl (fun K hK => ?_) AllReadyH.nil
          refine step_store_arr rfl _ _ _ rfl (ys := salt) zx4 rfl rfl (by rw [HSd.out]; rfl) (by rw [HSd.out]; kernel_rfl) ?_
          intro x5 zx5 g9
          have nx5 : Arr x5 nb 78 .u8 nm := Arr.grown nx4 g9 (by intro e; injection e with e; omega)
          have sx5 : Arr x5 (w.heap.size + 1) 26 .u8 seed := Arr.grown sx4 g9 (by intro e; injection e with e; omega)
          have bx5 : Below w.heap.size w x5 := bx4.trans (below_of_grown g9 bx4.size fun b hb => by injection hb with hb; omega)
          refine hK.out _ _ nx5 (fun hS => ?_)
          clear hK K
          try simp only [Act.put, List.setIfInBounds_toArray, List.set_cons_zero, List.set_cons_succ]
          refine wpAnyH_done (by kernel_rfl) ?_ _
          go_wp2_with fail
          go_meet
          exact ⟨_, rfl, zx5, nx5, sx5, bx5⟩
        · have q1 := Block.lt nx2
          have q2 := Block.lt sx2
          have q3 := bx2.size
          go_simp
          have h := below_last x2 (.cells #[.int .u8 0, .int .u8 0, .int .u8 0, .int .u8 0, .int .u8 0, .int .u8 0, .int .u8 0, .int .u8 0, .int .u8 0, .int .u8 0, .int .u8 0, .int .u8 0, .int .u8 0, .int .u8 0, .int .u8 0, .int .u8 0, .int .u8 0, .int .u8 0, .int .u8 0, .int .u8 0, .int .u8 0, .int .u8 0, .int .u8 0, .int .u8 0, .int .u8 0, .int .u8 0, .int .u8 0, .int .u8 0, .int .u8 0, .int .u8 0, .int .u8 0, .int .u8 0] 26)
          have new_z : Arr (x2.alloc (.cells #[.int .u8 0, .int .u8 0, .int .u8 0, .int .u8 0, .int .u8 0, .int .u8 0, .int .u8 0, .int .u8 0, .int .u8 0, .int .u8 0, .int .u8 0, .int .u8 0, .int .u8 0, .int .u8 0, .int .u8 0, .int .u8 0, .int .u8 0, .int .u8 0, .int .u8 0, .int .u8 0, .int .u8 0, .int .u8 0, .int .u8 0, .int .u8 0, .int .u8 0, .int .u8 0, .int .u8 0, .int .u8 0, .int .u8 0, .int .u8 0, .int .u8 0, .int .u8 0] 26)) x2.heap.size 26 .u8 (List.replicate 32 0) := Arr.new x2 26 .u8 (List.replicate 32 0)
          generalize hgen : x2.alloc (.cells #[.int .u8 0, .int .u8 0, .int .u8 0, .int .u8 0, .int .u8 0, .int .u8 0, .int .u8 0, .int .u8 0, .int .u8 0, .int .u8 0, .int .u8 0, .int .u8 0, .int .u8 0, .int .u8 0, .int .u8 0, .int .u8 0, .int .u8 0, .int .u8 0, .int .u8 0, .int .u8 0, .int .u8 0, .int .u8 0, .int .u8 0, .int .u8 0, .int .u8 0, .int .u8 0, .int .u8 0, .int .u8 0, .int .u8 0, .int .u8 0, .int .u8 0, .int .u8 0] 26) = x3 at *
          have nx3 : Arr x3 nb 78 .u8 nm := Block.below nx2 h (Block.lt nx2)
          have sx3 : Arr x3 (w.heap.size + 1) 26 .u8 seed := Block.below sx2 h (Block.lt sx2)
          have bx3 : Below w.heap.size w x3 := bx2.trans (h.mono bx2.size)
          have mx3 : RwOk x3 x3.heap.size ⟨some ⟨x0.heap.size, 0, none⟩, 3, [255, 253, 255]⟩ := RwOk.on mx2 h
          have hx3 : HoldsW x3 x3.heap.size (some ⟨x1.heap.size, 0, none⟩) [⟨some ⟨x0.heap.size, 0, none⟩, 3, [255, 253, 255]⟩, ⟨some ⟨w.heap.size + 1, 0, none⟩, 32, seed⟩] := (HoldsW.below hx2 h).more h.size
          have zx3 : Arr x3 x2.heap.size 26 .u8 (List.replicate 32 0) := new_z
          clear hgen h new_z
          refine hK.out _ _ nx3 (fun hS => ?_)
          clear hK K
          try simp only [Act.put, List.setIfInBounds_toArray, List.set_cons_zero, List.set_cons_succ]
          refine wpAnyH_ready (rs := [4]) (by kernel_rfl) (by simp) ?_
          refine AllReadyH.cons rfl (fun K hK => ?_) AllReadyH.nil
          go_simp
          go_at_call 58
          refine (GR.out _ bx3 _ _ _ hx3).mono ?_
          rintro e x4 ⟨rfl, h⟩
          have nx4 : Arr x4 nb 78 .u8 nm := Block.below nx3 h (Block.lt nx3)
          have sx4 : Arr x4 (w.heap.size + 1) 26 .u8 seed := Block.below sx3 h (Block.lt sx3)
          have bx4 : Below w.heap.size w x4 := bx3.trans (h.mono bx3.size)
          have mx4 : RwOk x4 x4.heap.size ⟨some ⟨x0.heap.size, 0, none⟩, 3, [255, 253, 255]⟩ := RwOk.on mx3 h
          have hx4 : HoldsW x4 x4.heap.size (some ⟨x1.heap.size, 0, none⟩) [⟨some ⟨x0.heap.size, 0, none⟩, 3, [255, 253, 255]⟩, ⟨some ⟨w.heap.size + 1, 0, none⟩, 32, seed⟩] := (HoldsW.below hx3 h).more h.size
          have zx4 : Arr x4 x2.heap.size 26 .u8 (List.replicate 32 0) := Block.below zx3 h (Block.lt zx3)
          refine hK.out _ _ nx4 (fun hS => ?_)
          clear hK K
          try simp only [Act.put, List.setIfInBounds_toArray, List.set_cons_zero, List.set_cons_succ]
          refine wpAnyH_ready (rs := [6]) (by kernel_rfl) (by simp) ?_
          refine AllReadyH.cons rfl (fun K hK => ?_) AllReadyH.nil
          refine step_store_arr rfl _ _ _ rfl (ys := salt) zx4 rfl rfl (by rw [HSd.out]; rfl) (by rw [HSd.out]; kernel_rfl) ?_
          intro x5 zx5 g9
          have nx5 : Arr x5 nb 78 .u8 nm := Arr.grown nx4 g9 (by intro e; injection e with e; omega)
          have sx5 : Arr x5 (w.heap.size + 1) 26 .u8 seed := Arr.grown sx4 g9 (by intro e; injection e with e; omega)
          have bx5 : Below w.heap.size w x5 := bx4.trans (below_of_grown g9 bx4.size fun b hb => by injection hb with hb; omega)
          refine hK.out _ _ nx5 (fun hS => ?_)
          clear hK K
          try simp only [Act.put, List.setIfInBounds_toArray, List.set_cons_zero, List.set_cons_succ]
          refine wpAnyH_done (by kernel_rfl) ?_ _
          go_wp2_with fail
          go_meet
          exact ⟨_, rfl, zx5, nx5, sx5, bx5⟩
      · have q1 := Block.lt nx1
        have q2 := Block.lt sx1
        have q3 := bx1.size
        go_simp
        have h := below_last x1 (.cells #[.int .u8 0, .int .u8 0, .int .u8 0, .int .u8 0, .int .u8 0, .int .u8 0, .int .u8 0, .int .u8 0, .int .u8 0, .int .u8 0, .int .u8 0, .int .u8 0, .int .u8 0, .int .u8 0, .int .u8 0, .int .u8 0, .int .u8 0, .int .u8 0, .int .u8 0, .int .u8 0, .int .u8 0, .int .u8 0, .int .u8 0, .int .u8 0, .int .u8 0, .int .u8 0, .int .u8 0, .int .u8 0, .int .u8 0, .int .u8 0, .int .u8 0, .int .u8 0] 26)
        have new_z : Arr (x1.alloc (.cells #[.int .u8 0, .int .u8 0, .int .u8 0, .int .u8 0, .int .u8 0, .int .u8 0, .int .u8 0, .int .u8 0, .int .u8 0, .int .u8 0, .int .u8 0, .int .u8 0, .int .u8 0, .int .u8 0, .int .u8 0, .int .u8 0, .int .u8 0, .int .u8 0, .int .u8 0, .int .u8 0, .int .u8 0, .int .u8 0, .int .u8 0, .int .u8 0, .int .u8 0, .int .u8 0, .int .u8 0, .int .u8 0, .int .u8 0, .int .u8 0, .int .u8 0, .int .u8 0] 26)) x1.heap.size 26 .u8 (List.replicate 32 0) := Arr.new x1 26 .u8 (List.replicate 32 0)
        generalize hgen : x1.alloc (.cells #[.int .u8 0, .int .u8 0, .int .u8 0, .int .u8 0, .int .u8 0, .int .u8 0, .int .u8 0, .int .u8 0, .int .u8 0, .int .u8 0, .int .u8 0, .int .u8 0, .int .u8 0, .int .u8 0, .int .u8 0, .int .u8 0, .int .u8 0, .int .u8 0, .int .u8 0, .int .u8 0, .int .u8 0, .int .u8 0, .int .u8 0, .int .u8 0, .int .u8 0, .int .u8 0, .int .u8 0, .int .u8 0, .int .u8 0, .int .u8 0, .int .u8 0, .int .u8 0] 26) = x2 at *
        have nx2 : Arr x2 nb 78 .u8 nm := Block.below nx1 h (Block.lt nx1)
        have sx2 : Arr x2 (w.heap.size + 1) 26 .u8 seed := Block.below sx1 h (Block.lt sx1)
        have bx2 : Below w.heap.size w x2 := bx1.trans (h.mono bx1.size)
        have mx2 : RwOk x2 x2.heap.size ⟨some ⟨x0.heap.size, 0, none⟩, 3, [255, 253, 255]⟩ := RwOk.on mx1 h
        have zx2 : Arr x2 x1.heap.size 26 .u8 (List.replicate 32 0) := new_z
        clear hgen h new_z
        refine hK.out _ _ nx2 (fun hS => ?_)
        clear hK K
        try simp only [Act.put, List.setIfInBounds_toArray, List.set_cons_zero, List.set_cons_succ]
        refine wpAnyH_ready (rs := [3]) (by kernel_rfl) (by simp) ?_
        refine AllReadyH.cons rfl (fun K hK => ?_) AllReadyH.nil
        go_simp
        have K3 := RwOk.arr sx2 hos (by rw [HS.out]; decide)
        rw [HS.out] at K3
        have hro := rows_laid (w := x2) (t := 35) [⟨some ⟨x0.heap.size, 0, none⟩, 3, [255, 253, 255]⟩, ⟨some ⟨w.heap.size + 1, 0, none⟩, 32, seed⟩] (by intro r hr; simp at hr; rcases hr with rfl | rfl; exact mx2; exact K3)
        simp only [List.map_cons, List.map_nil, Rw.val] at hro
        clear K3
        have h := below_last x2 (.cells #[.slice (some ⟨x0.heap.size, 0, none⟩) 3 3, .slice (some ⟨w.heap.size + 1, 0, none⟩) 32 32] 35)
        have new_h : HoldsW (x2.alloc (.cells #[.slice (some ⟨x0.heap.size, 0, none⟩) 3 3, .slice (some ⟨w.heap.size + 1, 0, none⟩) 32 32] 35)) (x2.alloc (.cells #[.slice (some ⟨x0.heap.size, 0, none⟩) 3 3, .slice (some ⟨w.heap.size + 1, 0, none⟩) 32 32] 35)).heap.size (some ⟨x2.heap.size, 0, none⟩) [⟨some ⟨x0.heap.size, 0, none⟩, 3, [255, 253, 255]⟩, ⟨some ⟨w.heap.size + 1, 0, none⟩, 32, seed⟩] := (by rw [HS.out] at hro; exact hro)
        generalize hgen : x2.alloc (.cells #[.slice (some ⟨x0.heap.size, 0, none⟩) 3 3, .slice (some ⟨w.heap.size + 1, 0, none⟩) 32 32] 35) = x3 at *
        have nx3 : Arr x3 nb 78 .u8 nm := Block.below nx2 h (Block.lt nx2)
        have sx3 : Arr x3 (w.heap.size + 1) 26 .u8 seed := Block.below sx2 h (Block.lt sx2)
        have bx3 : Below w.heap.size w x3 := bx2.trans (h.mono bx2.size)
        have mx3 : RwOk x3 x3.heap.size ⟨some ⟨x0.heap.size, 0, none⟩, 3, [255, 253, 255]⟩ := RwOk.on mx2 h
        have zx3 : Arr x3 x1.heap.size 26 .u8 (List.replicate 32 0) := Block.below zx2 h (Block.lt zx2)
        have hx3 : HoldsW x3 x3.heap.size (some ⟨x2.heap.size, 0, none⟩) [⟨some ⟨x0.heap.size, 0, none⟩, 3, [255, 253, 255]⟩, ⟨some ⟨w.heap.size + 1, 0, none⟩, 32, seed⟩] := new_h
        clear hgen h new_h
        refine hK.out _ _ nx3 (fun hS => ?_)
        clear hK K
        try simp only [Act.put, List.setIfInBounds_toArray, List.set_cons_zero, List.set_cons_succ]
        refine wpAnyH_ready (rs := [4]) (by kernel_rfl) (by simp) ?_
        refine AllReadyH.cons rfl (fun K hK => ?_) AllReadyH.nil
        go_simp
        go_at_call 58
        refine (GR.out _ bx3 _ _ _ hx3).mono ?_
        rintro e x4 ⟨rfl, h⟩
        have nx4 : Arr x4 nb 78 .u8 nm := Block.below nx3 h (Block.lt nx3)
        have sx4 : Arr x4 (w.heap.size + 1) 26 .u8 seed := Block.below sx3 h (Block.lt sx3)
        have bx4 : Below w.heap.size w x4 := bx3.trans (h.mono bx3.size)
        have mx4 : RwOk x4 x4.heap.size ⟨some ⟨x0.heap.size, 0, none⟩, 3, [255, 253, 255]⟩ := RwOk.on mx3 h
        have zx4 : Arr x4 x1.heap.size 26 .u8 (List.replicate 32 0) := Block.below zx3 h (Block.lt zx3)
        have hx4 : HoldsW x4 x4.heap.size (some ⟨x2.heap.size, 0, none⟩) [⟨some ⟨x0.heap.size, 0, none⟩, 3, [255, 253, 255]⟩, ⟨some ⟨w.heap.size + 1, 0, none⟩, 32, seed⟩] := (HoldsW.below hx3 h).more h.size
        refine hK.out _ _ nx4 (fun hS => ?_)
        clear hK K
        try simp only [Act.put, List.setIfInBounds_toArray, List.set_cons_zero, List.set_cons_succ]
        refine wpAnyH_ready (rs := [6]) (by kernel_rfl) (by simp) ?_
        refine AllReadyH.cons rfl (fun K hK => ?_) AllReadyH.nil
        refine step_store_arr rfl _ _ _ rfl (ys := salt) zx4 rfl rfl (by rw [HSd.out]; rfl) (by rw [HSd.out]; kernel_rfl) ?_
        intro x5 zx5 g9
        have nx5 : Arr x5 nb 78 .u8 nm := Arr.grown nx4 g9 (by intro e; injection e with e; omega)
        have sx5 : Arr x5 (w.heap.size + 1) 26 .u8 seed := Arr.grown sx4 g9 (by intro e; injection e with e; omega)
        have bx5 : Below w.heap.size w x5 := bx4.trans (below_of_grown g9 bx4.size fun b hb => by injection hb with hb; omega)
        refine hK.out _ _ nx5 (fun hS => ?_)
        clear hK K
        try simp only [Act.put, List.setIfInBounds_toArray, List.set_cons_zero, List.set_cons_succ]
        refine wpAnyH_done (by kernel_rfl) ?_ _
        go_wp2_with fail
        go_meet
        exact ⟨_, rfl, zx5, nx5, sx5, bx5⟩
    · have q1 := Block.lt nx0
      have q2 := Block.lt sx0
      have q3 := bx0.size
      go_simp
      have h := below_last x0 (.cells #[.int .u8 0, .int .u8 0, .int .u8 0, .int .u8 0, .int .u8 0, .int .u8 0, .int .u8 0, .int .u8 0, .int .u8 0, .int .u8 0, .int .u8 0, .int .u8 0, .int .u8 0, .int .u8 0, .int .u8 0, .int .u8 0, .int .u8 0, .int .u8 0, .int .u8 0, .int .u8 0, .int .u8 0, .int .u8 0, .int .u8 0, .int .u8 0, .int .u8 0, .int .u8 0, .int .u8 0, .int .u8 0, .int .u8 0, .int .u8 0, .int .u8 0, .int .u8 0] 26)
      have new_z : Arr (x0.alloc (.cells #[.int .u8 0, .int .u8 0, .int .u8 0, .int .u8 0, .int .u8 0, .int .u8 0, .int .u8 0, .int .u8 0, .int .u8 0, .int .u8 0, .int .u8 0, .int .u8 0, .int .u8 0, .int .u8 0, .int .u8 0, .int .u8 0, .int .u8 0, .int .u8 0, .int .u8 0, .int .u8 0, .int .u8 0, .int .u8 0, .int .u8 0, .int .u8 0, .int .u8 0, .int .u8 0, .int .u8 0, .int .u8 0, .int .u8 0, .int .u8 0, .int .u8 0, .int .u8 0] 26)) x0.heap.size 26 .u8 (List.replicate 32 0) := Arr.new x0 26 .u8 (List.replicate 32 0)
      generalize hgen : x0.alloc (.cells #[.int .u8 0, .int .u8 0, .int .u8 0, .int .u8 0, .int .u8 0, .int .u8 0, .int .u8 0, .int .u8 0, .int .u8 0, .int .u8 0, .int .u8 0, .int .u8 0, .int .u8 0, .int .u8 0, .int .u8 0, .int .u8 0, .int .u8 0, .int .u8 0, .int .u8 0, .int .u8 0, .int .u8 0, .int .u8 0, .int .u8 0, .int .u8 0, .int .u8 0, .int .u8 0, .int .u8 0, .int .u8 0, .int .u8 0, .int .u8 0, .int .u8 0, .int .u8 0] 26) = x1 at *
      have nx1 : Arr x1 nb 78 .u8 nm := Block.below nx0 h (Block.lt nx0)
      have sx1 : Arr x1 (w.heap.size + 1) 26 .u8 seed := Block.below sx0 h (Block.lt sx0)
      have bx1 : Below w.heap.size w x1 := bx0.trans (h.mono bx0.size)
      have zx1 : Arr x1 x0.heap.size 26 .u8 (List.replicate 32 0) := new_z
      clear hgen h new_z
      refine hK.out _ _ nx1 (fun hS => ?_)
      clear hK K
      try simp only [Act.put, List.setIfInBounds_toArray, List.set_cons_zero, List.set_cons_succ]
      refine wpAnyH_ready (rs := [1]) (by kernel_rfl) (by simp) ?_
      refine AllReadyH.cons rfl (fun K hK => ?_) AllReadyH.nil
      go_simp
      have h := below_last x1 (.cells #[.int .u8 255, .int .u8 253, .int .u8 255] 5)
      have new_m : RwOk (x1.alloc (.cells #[.int .u8 255, .int .u8 253, .int .u8 255] 5)) (x1.alloc (.cells #[.int .u8 255, .int .u8 253, .int .u8 255] 5)).heap.size ⟨some ⟨x1.heap.size, 0, none⟩, 3, [255, 253, 255]⟩ := RwOk.arr (Arr.new x1 5 .u8 [255, 253, 255]) h253 (by decide)
      generalize hgen : x1.alloc (.cells #[.int .u8 255, .int .u8 253, .int .u8 255] 5) = x2 at *
      have nx2 : Arr x2 nb 78 .u8 nm := Block.below nx1 h (Block.lt nx1)
      have sx2 : Arr x2 (w.heap.size + 1) 26 .u8 seed := Block.below sx1 h (Block.lt sx1)
      have bx2 : Below w.heap.size w x2 := bx1.trans (h.mono bx1.size)
      have zx2 : Arr x2 x0.heap.size 26 .u8 (List.replicate 32 0) := Block.below zx1 h (Block.lt zx1)
      have mx2 : RwOk x2 x2.heap.size ⟨some ⟨x1.heap.size, 0, none⟩, 3, [255, 253, 255]⟩ := new_m
      clear hgen h new_m
      refine hK.out _ _ nx2 (fun hS => ?_)
      clear hK K
      try simp only [Act.put, List.setIfInBounds_toArray, List.set_cons_zero, List.set_cons_succ]
      refine wpAnyH_ready (rs := [3]) (by kernel_rfl) (by simp) ?_
      refine AllReadyH.cons rfl (fun K hK => ?_) AllReadyH.nil
      go_simp
      have K3 := RwOk.arr sx2 hos (by rw [HS.out]; decide)
      rw [HS.out] at K3
      have hro := rows_laid (w := x2) (t := 35) [⟨some ⟨x1.heap.size, 0, none⟩, 3, [255, 253, 255]⟩, ⟨some ⟨w.heap.size + 1, 0, none⟩, 32, seed⟩] (by intro r hr; simp at hr; rcases hr with rfl | rfl; exact mx2; exact K3)
      simp only [List.map_cons, List.map_nil, Rw.val] at hro
      clear K3
      have h := below_last x2 (.cells #[.slice (some ⟨x1.heap.size, 0, none⟩) 3 3, .slice (some ⟨w.heap.size + 1, 0, none⟩) 32 32] 35)
      have new_h : HoldsW (x2.alloc (.cells #[.slice (some ⟨x1.heap.size, 0, none⟩) 3 3, .slice (some ⟨w.heap.size + 1, 0, none⟩) 32 32] 35)) (x2.alloc (.cells #[.slice (some ⟨x1.heap.size, 0, none⟩) 3 3, .slice (some ⟨w.heap.size + 1, 0, none⟩) 32 32] 35)).heap.size (some ⟨x2.heap.size, 0, none⟩) [⟨some ⟨x1.heap.size, 0, none⟩, 3, [255, 253, 255]⟩, ⟨some ⟨w.heap.size + 1, 0, none⟩, 32, seed⟩] := (by rw [HS.out] at hro; exact hro)
      generalize hgen : x2.alloc (.cells #[.slice (some ⟨x1.heap.size, 0, none⟩) 3 3, .slice (some ⟨w.heap.size + 1, 0, none⟩) 32 32] 35) = x3 at *
      have nx3 : Arr x3 nb 78 .u8 nm := Block.below nx2 h (Block.lt nx2)
      have sx3 : Arr x3 (w.heap.size + 1) 26 .u8 seed := Block.below sx2 h (Block.lt sx2)
      have bx3 : Below w.heap.size w x3 := bx2.trans (h.mono bx2.size)
      have zx3 : Arr x3 x0.heap.size 26 .u8 (List.replicate 32 0) := Block.below zx2 h (Block.lt zx2)
      have mx3 : RwOk x3 x3.heap.size ⟨some ⟨x1.heap.size, 0, none⟩, 3, [255, 253, 255]⟩ := RwOk.on mx2 h
      have hx3 : HoldsW x3 x3.heap.size (some ⟨x2.heap.size, 0, none⟩) [⟨some ⟨x1.heap.size, 0, none⟩, 3, [255, 253, 255]⟩, ⟨some ⟨w.heap.size + 1, 0, none⟩, 32, seed⟩] := new_h
      clear hgen h new_h
      refine hK.out _ _ nx3 (fun hS => ?_)
      clear hK K
      try simp only [Act.put, List.setIfInBounds_toArray, List.set_cons_zero, List.set_cons_succ]
      refine wpAnyH_ready (rs := [4]) (by kernel_rfl) (by simp) ?_
      refine AllReadyH.cons rfl (fun K hK => ?_) AllReadyH.nil
      go_simp
      go_at_call 58
      refine (GR.out _ bx3 _ _ _ hx3).mono ?_
      rintro e x4 ⟨rfl, h⟩
      have nx4 : Arr x4 nb 78 .u8 nm := Block.below nx3 h (Block.lt nx3)
      have sx4 : Arr x4 (w.heap.size + 1) 26 .u8 seed := Block.below sx3 h (Block.lt sx3)
      have bx4 : Below w.heap.size w x4 := bx3.trans (h.mono bx3.size)
      have zx4 : Arr x4 x0.heap.size 26 .u8 (List.replicate 32 0) := Block.below zx3 h (Block.lt zx3)
      have mx4 : RwOk x4 x4.heap.size ⟨some ⟨x1.heap.size, 0, none⟩, 3, [255, 253, 255]⟩ := RwOk.on mx3 h
      have hx4 : HoldsW x4 x4.heap.size (some ⟨x2.heap.size, 0, none⟩) [⟨some ⟨x1.heap.size, 0, none⟩, 3, [255, 253, 255]⟩, ⟨some ⟨w.heap.size + 1, 0, none⟩, 32, seed⟩] := (HoldsW.below hx3 h).more h.size
      refine hK.out _ _ nx4 (fun hS => ?_)
      clear hK K
      try simp only [Act.put, List.setIfInBounds_toArray, List.set_cons_zero, List.set_cons_succ]
      refine wpAnyH_ready (rs := [6]) (by kernel_rfl) (by simp) ?_
      refine AllReadyH.cons rfl (fun K hK => ?_) AllReadyH.nil
      refine step_store_arr rfl _ _ _ rfl (ys := salt) zx4 rfl rfl (by rw [HSd.out]; rfl) (by rw [HSd.out]; kernel_rfl) ?_
      intro x5 zx5 g9
      have nx5 : Arr x5 nb 78 .u8 nm := Arr.grown nx4 g9 (by intro e; injection e with e; omega)
      have sx5 : Arr x5 (w.heap.size + 1) 26 .u8 seed := Arr.grown sx4 g9 (by intro e; injection e with e; omega)
      have bx5 : Below w.heap.size w x5 := bx4.trans (below_of_grown g9 bx4.size fun b hb => by injection hb with hb; omega)
      refine hK.out _ _ nx5 (fun hS => ?_)
      clear hK K
      try simp only [Act.put, List.setIfInBounds_toArray, List.set_cons_zero, List.set_cons_succ]
      refine wpAnyH_done (by kernel_rfl) ?_ _
      go_wp2_with fail
      go_meet
      exact ⟨_, rfl, zx5, nx5, sx5, bx5⟩
  case rest =>
    obtain ⟨sb, rfl, z3, n3, s3, b3⟩ := hcut
    clear GR GN HI l2
    go_wp2_with fail
    have n4 := n3.drewN 1
    have s4 := s3.drewN 1
    have z4 := z3.drewN 1
    have b4 := below_draws b3 1
    clear n3 s3 z3 b3
    refine wp_region_held_drew (S := (fun _ => True)) (by kernel_rfl) trivial (fun hS => ?_)
    refine wpAnyH_take (i := 0) (oi := ⟨some 29, _, _, _, _, _⟩) (v := .int .u32 k) rfl (by kernel_rfl) (by kernel_rfl) (by kernel_rfl) (fun _ _ _ h => h) (Or.inl ⟨by rfl, fun W hW => by go_simp⟩) hS ?_
    try simp only [Act.put, List.setIfInBounds_toArray, List.set_cons_zero, List.set_cons_succ]
    refine wpAnyH_take (i := 3) (oi := ⟨some 32, _, _, _, _, _⟩) (v := .slice (some ⟨sb, 0, none⟩) 32 32) rfl (by kernel_rfl) (by kernel_rfl) (by kernel_rfl) (fun _ _ _ h => h) (Or.inl ⟨by rfl, fun W hW => by go_simp⟩) hS ?_
    try simp only [Act.put, List.setIfInBounds_toArray, List.set_cons_zero, List.set_cons_succ]
    refine wpAnyH_take (i := 1) (oi := ⟨some 30, _, _, _, _, _⟩) (v := .int .u64 k) rfl (by kernel_rfl) (by kernel_rfl) (by kernel_rfl) (fun _ _ _ h => h) (Or.inl ⟨by rfl, fun W hW => by go_simp; exact IntWalk.u64_in _ (by omega)⟩) hS ?_
    try simp only [Act.put, List.setIfInBounds_toArray, List.set_cons_zero, List.set_cons_succ]
    obtain ⟨x0, e0⟩ : ∃ x0, x0 = wc.drew := ⟨_, rfl⟩
    have nx0 : Arr x0 nb 78 .u8 nm := by rw [e0]; exact n4
    have sx0 : Arr x0 (w.heap.size + 1) 26 .u8 seed := by rw [e0]; exact s4
    have zx0 : Arr x0 sb 26 .u8 salt := by rw [e0]; exact z4
    have bx0 : Below w.heap.size w x0 := by rw [e0]; exact b4
    rw [← e0]
    clear e0 n4 s4 z4 b4
    refine wpAnyH_ready (rs := [2]) (by kernel_rfl) (by simp) ?_
    refine AllReadyH.cons rfl (fun K hK => ?_) AllReadyH.nil
    go_simp
    go_at_call 59
    refine (GP.out _).mono ?_
    rintro e x1 ⟨v1, rfl, own1, h⟩
    have nx1 : Arr x1 nb 78 .u8 nm := Block.below nx0 h (Block.lt nx0)
    have sx1 : Arr x1 (w.heap.size + 1) 26 .u8 seed := Block.below sx0 h (Block.lt sx0)
    have zx1 : Arr x1 sb 26 .u8 salt := Block.below zx0 h (Block.lt zx0)
    have bx1 : Below w.heap.size w x1 := bx0.trans (h.mono bx0.size)
    have p1 := Block.lt nx0
    have p2 := Block.lt sx0
    have p3 := Block.lt zx0
    have p4 := bx0.size
    have p5 := h.size
    generalize x0.heap.size = B5 at *
    refine hK.out _ _ trivial (fun hS => ?_)
    clear hK K
    try simp only [Act.put, List.setIfInBounds_toArray, List.set_cons_zero, List.set_cons_succ]
    refine wpAnyH_ready (rs := [4]) (by kernel_rfl) (by simp) ?_
    refine AllReadyH.cons rfl (fun K hK => ?_) AllReadyH.nil
    refine step_of_list (by rfl) (fun Q9 hn => ?_)
    refine wpList_append_ints _ rfl (.tmp 31) (.tmp 32) 35 rfl Oct.elem8 own1 rfl (by rw [HSd.out]; rfl) (Arr.holds_all zx1) (by rw [hbl.out, HSd.out]; decide) p5 ?_
    intro v2 x2 own2 hg2 hb2 _
    rw [HO0.out] at own2
    refine hn _ _ ?_
    change K (Act.put _ (some 33) _) _
    clear hn
    have nx2 : Arr x2 nb 78 .u8 nm := Block.below nx1 hb2 p1
    have sx2 : Arr x2 (w.heap.size + 1) 26 .u8 seed := Block.below sx1 hb2 p2
    have zx2 : Arr x2 sb 26 .u8 salt := Block.below zx1 hb2 p3
    have bx2 := bx1.trans (hb2.mono p4)
    have p6 := Nat.le_trans p5 hb2.size
    clear nx1 sx1 zx1 bx1 nx0 sx0 zx0 bx0 own1 hg2 hb2 p5
    refine hK.out _ _ trivial (fun hS => ?_)
    clear hK K
    try simp only [Act.put, List.setIfInBounds_toArray, List.set_cons_zero, List.set_cons_succ]
    refine wpAnyH_ready (rs := [5]) (by kernel_rfl) (by simp) ?_
    refine AllReadyH.cons rfl (fun K hK => ?_) AllReadyH.nil
    go_simp
    refine hK.out _ _ trivial (fun hS => ?_)
    clear hK K
    try simp only [Act.put, List.setIfInBounds_toArray, List.set_cons_zero, List.set_cons_succ]
    refine wpAnyH_done (by kernel_rfl) ?_ _
    go_wp2_with fail
    have n3 := nx2.drewN 1
    have s3 := sx2.drewN 1
    have z3 := zx2.drewN 1
    have b3 := below_draws bx2 1
    have o3 : Own (x2.drewN 1) B5 5 .u8 v2 (outL nm k ds seed 0) := own2
    have t3 := (htx.below b3).more b3.size
    have p7 : B5 ≤ (x2.drewN 1).heap.size := p6
    clear nx2 sx2 zx2 bx2 own2 p6 hS htx
    have p3 := p7
    clear p7
    refine wp_region_held_drew (S := (fun W => Arr W nb 78 .u8 nm)) (by kernel_rfl) n3 (fun hS => ?_)
    refine wpAnyH_take (i := 0) (v := .agg (nm.map (Value.int .u8)).toArray) rfl (by kernel_rfl) (by kernel_rfl) (by kernel_rfl) (fun _ _ _ h => h) (yieldsIf_load_mid (by rfl) _ _ rfl nb 0 rfl (nm.map (Value.int .u8)) _ (fun W hW => Arr.range hW) arr20 rfl (by rw [List.length_map, HNl.out]; kernel_rfl)) hS ?_
    try simp only [Act.put, List.setIfInBounds_toArray, List.set_cons_zero, List.set_cons_succ]
    refine wpAnyH_take (i := 1) (oi := ⟨some 35, _, _, _, _, _⟩) (v := .int .u32 k) rfl (by kernel_rfl) (by kernel_rfl) (by kernel_rfl) (fun _ _ _ h => h) (Or.inl ⟨by rfl, fun W hW => by go_simp⟩) hS ?_
    try simp only [Act.put, List.setIfInBounds_toArray, List.set_cons_zero, List.set_cons_succ]
    refine wpAnyH_take (i := 2) (oi := ⟨some 36, _, _, _, _, _⟩) (v := .slice (some ⟨sb, 0, none⟩) 32 32) rfl (by kernel_rfl) (by kernel_rfl) (by kernel_rfl) (fun _ _ _ h => h) (Or.inl ⟨by rfl, fun W hW => by go_simp⟩) hS ?_
    try simp only [Act.put, List.setIfInBounds_toArray, List.set_cons_zero, List.set_cons_succ]
    refine wpAnyH_take (i := 3) (oi := ⟨some 37, _, _, _, _, _⟩) (v := .slice A2 text.length c2) rfl (by kernel_rfl) (by kernel_rfl) (by kernel_rfl) (fun _ _ _ h => h) (Or.inl ⟨by rfl, fun W hW => by go_simp⟩) hS ?_
    try simp only [Act.put, List.setIfInBounds_toArray, List.set_cons_zero, List.set_cons_succ]
    refine wpAnyH_take (i := 6) (oi := ⟨some 40, _, _, _, _, _⟩) (v := .int .i64 0) rfl (by kernel_rfl) (by kernel_rfl) (by kernel_rfl) (fun _ _ _ h => h) (Or.inl ⟨by rfl, fun W hW => by go_simp⟩) hS ?_
    try simp only [Act.put, List.setIfInBounds_toArray, List.set_cons_zero, List.set_cons_succ]
    obtain ⟨y0, e0⟩ : ∃ y0, y0 = x2.drew := ⟨_, rfl⟩
    have ny0 : Arr y0 nb 78 .u8 nm := by rw [e0]; exact n3
    have sy0 : Arr y0 (w.heap.size + 1) 26 .u8 seed := by rw [e0]; exact s3
    have zy0 : Arr y0 sb 26 .u8 salt := by rw [e0]; exact z3
    have by0 : Below w.heap.size w y0 := by rw [e0]; exact b3
    have ty0 : RwOk y0 y0.heap.size ⟨A2, c2, text⟩ := by rw [e0]; exact t3
    have oy0 : Own y0 B5 5 .u8 v2 (outL nm k ds seed 0) := by rw [e0]; exact o3
    have py0 : B5 ≤ y0.heap.size := by rw [e0]; exact p3
    rw [← e0] at hS ⊢
    clear e0 n3 s3 z3 b3 t3 o3 p3
    refine wpAnyH_ready (rs := [4]) (by kernel_rfl) (by simp) ?_
    refine AllReadyH.cons rfl (fun K hK => ?_) AllReadyH.nil
    go_simp
    go_at_call 60
    refine (GD.out _ _ (by have := RwOk.arr zy0 hso (by rw [HSd.out]; decide); rw [HSd.out] at this; exact this) ty0 by0).mono ?_
    rintro e y1 ⟨A5, c5, rfl, k5, m5, h5, a5, h⟩
    have ny1 : Arr y1 nb 78 .u8 nm := Block.below ny0 h (Block.lt ny0)
    have sy1 : Arr y1 (w.heap.size + 1) 26 .u8 seed := Block.below sy0 h (Block.lt sy0)
    have zy1 : Arr y1 sb 26 .u8 salt := Block.below zy0 h (Block.lt zy0)
    have by1 : Below w.heap.size w y1 := by0.trans (h.mono by0.size)
    have ty1 : RwOk y1 y1.heap.size ⟨A2, c2, text⟩ := RwOk.on ty0 h
    have oy1 : Own y1 B5 5 .u8 v2 (outL nm k ds seed 0) := oy0.below h
    have py1 : B5 ≤ y1.heap.size := Nat.le_trans py0 h.size
    obtain ⟨bd, od, rfl, hbd, hdc⟩ := h5 (by rw [HDL.out]; omega)
    have h5 : Holds y1 y1.heap.size .i64 (some ⟨bd, od, none⟩) ds := h5
    have a6 : y0.heap.size ≤ bd := a5 _ rfl
    have nv : v2.ownBlock ≠ some bd := fun e => by have := (oy0.lt bd e).2; omega
    clear hdc hbd a5
    rw [HDL.out]
    refine hK.out _ _ ny1 (fun hS => ?_)
    clear hK K
    try simp only [Act.put, List.setIfInBounds_toArray, List.set_cons_zero, List.set_cons_succ]
    refine wpAnyH_take (i := 5) (oi := ⟨some 39, _, _, _, _, _⟩) (v := .int .i64 m) rfl (by kernel_rfl) (by kernel_rfl) (by kernel_rfl) (fun _ _ _ h => h) (Or.inl ⟨by rfl, fun W hW => by go_simp⟩) hS ?_
    try simp only [Act.put, List.setIfInBounds_toArray, List.set_cons_zero, List.set_cons_succ]
    refine wpAnyH_done (by kernel_rfl) ?_ _
    go_wp2_with fail
    rw [HDL.out] at k5
    go_loopw [14, 40] (fun v i wr => ∃ (j : Nat) (v' : Value), v' = v ∧ j ≤ m ∧ i = .int .i64 j ∧ Own wr B5 5 .u8 v' (outL nm k ds seed j) ∧ v'.ownBlock ≠ some bd ∧ Arr wr nb 78 .u8 nm ∧ Arr wr (w.heap.size + 1) 26 .u8 seed ∧ Holds wr wr.heap.size .i64 (some ⟨bd, od, none⟩) ds ∧ Below w.heap.size w wr ∧ B5 ≤ wr.heap.size) (fun _ i _ => m - (intOf i).toNat)
    case atStart => exact ⟨0, _, rfl, Nat.zero_le _, rfl, oy1, nv, ny1, sy1, h5, by1, py1⟩
    case round =>
      clear oy1 nv ny1 sy1 h5 by1 py1 ny0 sy0 by0 oy0 ty0 ty1 zy0 zy1 py0 GD GC GP
      obtain ⟨j, v, rfl, hj, rfl, o, nv, n, s, h, b, p⟩ := hrel
      by_cases hlt : j < m
      · obtain ⟨b', o', e', hbd, hdc⟩ := h (by rw [HDL.out]; omega)
        injection e' with e'
        injection e' with e1 e2
        subst e1 e2
        have hcj := hdc j (by rw [HDL.out]; omega)
        have hjb := hdb (ds.getD j 0) (by rw [List.getD, List.getElem?_eq_getElem (by rw [HDL.out]; exact hlt)]; exact List.getElem_mem _)
        obtain ⟨f, hf⟩ : ∃ f : Nat, ds.getD j 0 = (f : Int) := ⟨(ds.getD j 0).toNat, by omega⟩
        have GS := Lib.hid (GS.out j hlt)
        have GW := Lib.hid (GW.out j f hlt hf (by omega))
        have HX := Lib.hid (HGL.out j)
        have HSc := Lib.hid (HSL.out j)
        have HO := Lib.hid (HON.out j)
        have HL := Lib.hid (HOL.out j)
        rw [hf] at hcj
        generalize hgx : sigEnd nm ds seed j = x at *
        generalize secL nm j seed = sc at *
        have d1 : decide ((j : Int) < (m : Int)) = true := decide_eq_true (by omega)
        have d2 : decide (j < m) = true := decide_eq_true hlt
        have hcm : m ≤ c5 := k5
        clear hdc hjb hf hgx
        go_wp2_with fail
        have n4 := n.drewN 1
        have s4 := s.drewN 1
        have b4 := below_draws b 1
        have o4 : Own (wr.drewN 1) B5 5 .u8 v (outL nm k ds seed j) := o
        have h4 : Holds (wr.drewN 1) (wr.drewN 1).heap.size .i64 (some ⟨bd, od, none⟩) ds := h
        have p4 : B5 ≤ (wr.drewN 1).heap.size := p
        have q4 : bd < (wr.drewN 1).heap.size := hbd
        clear n s b o h p hbd
        refine wp_region_held_drew (S := (fun W => Arr W nb 78 .u8 nm ∧ Arr W (w.heap.size + 1) 26 .u8 seed)) (by kernel_rfl) ⟨n4, s4⟩ (fun hS => ?_)
        refine wpAnyH_take (i := 0) (v := .agg (nm.map (Value.int .u8)).toArray) rfl (by kernel_rfl) (by kernel_rfl) (by kernel_rfl) (fun _ _ _ h => h) (yieldsIf_load_mid (by rfl) _ _ rfl nb 0 rfl (nm.map (Value.int .u8)) _ (fun W hW => Arr.range hW.1) arr20 rfl (by rw [List.length_map, HNl.out]; kernel_rfl)) hS ?_
        try simp only [Act.put, List.setIfInBounds_toArray, List.set_cons_zero, List.set_cons_succ]
        refine wpAnyH_take (i := 1) (oi := ⟨some 46, _, _, _, _, _⟩) (v := .int .i64 j) rfl (by kernel_rfl) (by kernel_rfl) (by kernel_rfl) (fun _ _ _ h => h) (Or.inl ⟨by rfl, fun W hW => by go_simp⟩) hS ?_
        try simp only [Act.put, List.setIfInBounds_toArray, List.set_cons_zero, List.set_cons_succ]
        refine wpAnyH_take (i := 2) (oi := ⟨some 47, _, _, _, _, _⟩) (v := .int .i64 f) rfl (by kernel_rfl) (by kernel_rfl) (by kernel_rfl) (fun _ _ _ h => h) (Or.inl ⟨by rfl, fun W hW => by go_simp⟩) hS ?_
        try simp only [Act.put, List.setIfInBounds_toArray, List.set_cons_zero, List.set_cons_succ]
        refine wpAnyH_take (i := 3) (v := .agg (nm.map (Value.int .u8)).toArray) rfl (by kernel_rfl) (by kernel_rfl) (by kernel_rfl) (fun _ _ _ h => h) (yieldsIf_load_mid (by rfl) _ _ rfl nb 0 rfl (nm.map (Value.int .u8)) _ (fun W hW => Arr.range hW.1) arr20 rfl (by rw [List.length_map, HNl.out]; kernel_rfl)) hS ?_
        try simp only [Act.put, List.setIfInBounds_toArray, List.set_cons_zero, List.set_cons_succ]
        refine wpAnyH_take (i := 4) (oi := ⟨some 49, _, _, _, _, _⟩) (v := .int .i64 j) rfl (by kernel_rfl) (by kernel_rfl) (by kernel_rfl) (fun _ _ _ h => h) (Or.inl ⟨by rfl, fun W hW => by go_simp⟩) hS ?_
        try simp only [Act.put, List.setIfInBounds_toArray, List.set_cons_zero, List.set_cons_succ]
        refine wpAnyH_take (i := 5) (v := .agg (seed.map (Value.int .u8)).toArray) rfl (by kernel_rfl) (by kernel_rfl) (by kernel_rfl) (fun _ _ _ h => h) (yieldsIf_load_mid (by rfl) _ _ rfl (w.heap.size + 1) 0 rfl (seed.map (Value.int .u8)) _ (fun W hW => Arr.range hW.2) arr32D rfl (by rw [List.length_map, HS.out]; kernel_rfl)) hS ?_
        try simp only [Act.put, List.setIfInBounds_toArray, List.set_cons_zero, List.set_cons_succ]
        obtain ⟨x0, e0⟩ : ∃ x0, x0 = wr.drew := ⟨_, rfl⟩
        have nx0 : Arr x0 nb 78 .u8 nm := by rw [e0]; exact n4
        have sx0 : Arr x0 (w.heap.size + 1) 26 .u8 seed := by rw [e0]; exact s4
        have bx0 : Below w.heap.size w x0 := by rw [e0]; exact b4
        have ox0 : Own x0 B5 5 .u8 v (outL nm k ds seed j) := by rw [e0]; exact o4
        have hx0 : Holds x0 x0.heap.size .i64 (some ⟨bd, od, none⟩) ds := by rw [e0]; exact h4
        have px0 : B5 ≤ x0.heap.size := by rw [e0]; exact p4
        have qx0 : bd < x0.heap.size := by rw [e0]; exact q4
        rw [← e0] at hS ⊢
        clear e0 n4 s4 b4 o4 h4 p4 q4
        refine wpAnyH_ready (rs := [6, 8]) (by kernel_rfl) (by simp) ?_
        refine AllReadyH.cons rfl (fun K hK => ?_) (AllReadyH.cons rfl (fun K hK => ?_) AllReadyH.nil)
        · go_simp
          go_at_call 53
          refine (GS.out _ bx0).mono ?_
          rintro e x1 ⟨rfl, h⟩
          have nx1 : Arr x1 nb 78 .u8 nm := Block.below nx0 h (Block.lt nx0)
          have sx1 : Arr x1 (w.heap.size + 1) 26 .u8 seed := Block.below sx0 h (Block.lt sx0)
          have bx1 : Below w.heap.size w x1 := bx0.trans (h.mono bx0.size)
          have ox1 : Own x1 B5 5 .u8 v (outL nm k ds seed j) := ox0.below h
          have hx1 : Holds x1 x1.heap.size .i64 (some ⟨bd, od, none⟩) ds := Holds.on hx0 h
          have px1 : B5 ≤ x1.heap.size := Nat.le_trans px0 h.size
          have qx1 : bd < x1.heap.size := Nat.le_trans qx0 h.size
          refine hK.out _ _ ⟨nx1, sx1⟩ (fun hS => ?_)
          clear hK K
          try simp only [Act.put, List.setIfInBounds_toArray, List.set_cons_zero, List.set_cons_succ]
          refine wpAnyH_ready (rs := [7, 8]) (by kernel_rfl) (by simp) ?_
          refine AllReadyH.cons rfl (fun K hK => ?_) (AllReadyH.cons rfl (fun K hK => ?_) AllReadyH.nil)
          · go_simp
            go_at_call 51
            refine (GW.out _ bx1).mono ?_
            rintro e x2 ⟨rfl, h⟩
            have nx2 : Arr x2 nb 78 .u8 nm := Block.below nx1 h (Block.lt nx1)
            have sx2 : Arr x2 (w.heap.size + 1) 26 .u8 seed := Block.below sx1 h (Block.lt sx1)
            have bx2 : Below w.heap.size w x2 := bx1.trans (h.mono bx1.size)
            have ox2 : Own x2 B5 5 .u8 v (outL nm k ds seed j) := ox1.below h
            have hx2 : Holds x2 x2.heap.size .i64 (some ⟨bd, od, none⟩) ds := Holds.on hx1 h
            have px2 : B5 ≤ x2.heap.size := Nat.le_trans px1 h.size
            have qx2 : bd < x2.heap.size := Nat.le_trans qx1 h.size
            refine hK.out _ _ ⟨nx2, sx2⟩ (fun hS => ?_)
            clear hK K
            try simp only [Act.put, List.setIfInBounds_toArray, List.set_cons_zero, List.set_cons_succ]
            refine wpAnyH_ready (rs := [8]) (by kernel_rfl) (by simp) ?_
            refine AllReadyH.cons rfl (fun K hK => ?_) AllReadyH.nil
            have q1 := Block.lt nx2
            have q2 := Block.lt sx2
            have q3 := bx2.size
            have q5 := qx2
            go_simp
            have h := below_last x2 (.cells #[.int .u8 0, .int .u8 0, .int .u8 0, .int .u8 0, .int .u8 0, .int .u8 0, .int .u8 0, .int .u8 0, .int .u8 0, .int .u8 0, .int .u8 0, .int .u8 0, .int .u8 0, .int .u8 0, .int .u8 0, .int .u8 0, .int .u8 0, .int .u8 0, .int .u8 0, .int .u8 0, .int .u8 0, .int .u8 0, .int .u8 0, .int .u8 0, .int .u8 0, .int .u8 0, .int .u8 0, .int .u8 0, .int .u8 0, .int .u8 0, .int .u8 0, .int .u8 0] 26)
            have new_z : Arr (x2.alloc (.cells #[.int .u8 0, .int .u8 0, .int .u8 0, .int .u8 0, .int .u8 0, .int .u8 0, .int .u8 0, .int .u8 0, .int .u8 0, .int .u8 0, .int .u8 0, .int .u8 0, .int .u8 0, .int .u8 0, .int .u8 0, .int .u8 0, .int .u8 0, .int .u8 0, .int .u8 0, .int .u8 0, .int .u8 0, .int .u8 0, .int .u8 0, .int .u8 0, .int .u8 0, .int .u8 0, .int .u8 0, .int .u8 0, .int .u8 0, .int .u8 0, .int .u8 0, .int .u8 0] 26)) x2.heap.size 26 .u8 (List.replicate 32 0) := Arr.new x2 26 .u8 (List.replicate 32 0)
            generalize hgen : x2.alloc (.cells #[.int .u8 0, .int .u8 0, .int .u8 0, .int .u8 0, .int .u8 0, .int .u8 0, .int .u8 0, .int .u8 0, .int .u8 0, .int .u8 0, .int .u8 0, .int .u8 0, .int .u8 0, .int .u8 0, .int .u8 0, .int .u8 0, .int .u8 0, .int .u8 0, .int .u8 0, .int .u8 0, .int .u8 0, .int .u8 0, .int .u8 0, .int .u8 0, .int .u8 0, .int .u8 0, .int .u8 0, .int .u8 0, .int .u8 0, .int .u8 0, .int .u8 0, .int .u8 0] 26) = x3 at *
            have nx3 : Arr x3 nb 78 .u8 nm := Block.below nx2 h (Block.lt nx2)
            have sx3 : Arr x3 (w.heap.size + 1) 26 .u8 seed := Block.below sx2 h (Block.lt sx2)
            have bx3 : Below w.heap.size w x3 := bx2.trans (h.mono bx2.size)
            have ox3 : Own x3 B5 5 .u8 v (outL nm k ds seed j) := ox2.below h
            have hx3 : Holds x3 x3.heap.size .i64 (some ⟨bd, od, none⟩) ds := Holds.on hx2 h
            have px3 : B5 ≤ x3.heap.size := Nat.le_trans px2 h.size
            have qx3 : bd < x3.heap.size := Nat.le_trans qx2 h.size
            have zx3 : Arr x3 x2.heap.size 26 .u8 (List.replicate 32 0) := new_z
            clear hgen h new_z
            refine hK.out _ _ ⟨nx3, sx3⟩ (fun hS => ?_)
            clear hK K
            try simp only [Act.put, List.setIfInBounds_toArray, List.set_cons_zero, List.set_cons_succ]
            refine wpAnyH_ready (rs := [9]) (by kernel_rfl) (by simp) ?_
            refine AllReadyH.cons rfl (fun K hK => ?_) AllReadyH.nil
            have zne : v.ownBlock ≠ some (x2.heap.size) := ox3.ne_block zx3 (by decide)
            refine step_store_arr rfl _ _ _ rfl (ys := x) zx3 rfl rfl (by rw [HX.out]; rfl) (by rw [HX.out]; kernel_rfl) ?_
            intro x4 zx4 g9
            have nx4 : Arr x4 nb 78 .u8 nm := Arr.grown nx3 g9 (by intro e; injection e with e; omega)
            have sx4 : Arr x4 (w.heap.size + 1) 26 .u8 seed := Arr.grown sx3 g9 (by intro e; injection e with e; omega)
            have bx4 : Below w.heap.size w x4 := bx3.trans (below_of_grown g9 bx3.size fun b hb => by injection hb with hb; omega)
            have ox4 : Own x4 B5 5 .u8 v (outL nm k ds seed j) := ox3.kept g9 (.inr (zne))
            have hx4 : Holds x4 x4.heap.size .i64 (some ⟨bd, od, none⟩) ds := (Holds.grown hx3 g9 (fun a ha => by injection ha with ha; subst ha; intro e; injection e with e; have e : bd = x2.heap.size := e; omega)).more g9.size
            have px4 : B5 ≤ x4.heap.size := Nat.le_trans px3 g9.size
            have qx4 : bd < x4.heap.size := Nat.le_trans qx3 g9.size
            refine hK.out _ _ ⟨nx4, sx4⟩ (fun hS => ?_)
            clear hK K
            try simp only [Act.put, List.setIfInBounds_toArray, List.set_cons_zero, List.set_cons_succ]
            refine wpAnyH_done (by kernel_rfl) ?_ _
            go_wp2_with (have _t := zx4; at_builtin; refine wpList_append_ints _ rfl (.tmp 53) (.tmp 54) 35 rfl Oct.elem8 ox4 rfl (by rw [HX.out]; rfl) (Arr.holds_all zx4) (by rw [HL.out, HX.out]; omega) px4 ?_; clear _t; intro v9 w9 own9 hg9 hb9 hloc)
            rw [← HO.out] at own9
            have n9 : Arr w9 nb 78 .u8 nm := Block.below nx4 hb9 (by omega)
            have s9 : Arr w9 (w.heap.size + 1) 26 .u8 seed := Block.below sx4 hb9 (by omega)
            have b9 := bx4.trans (hb9.mono (by omega))
            have h9 : Holds w9 w9.heap.size .i64 (some ⟨bd, od, none⟩) ds := (Holds.grown hx4 hg9 (fun a ha => by injection ha with ha; subst ha; exact fun e => nv e.symm)).more hg9.size
            have nv9 : v9.ownBlock ≠ some bd := fun e => by rcases hloc with h | h; exact nv (h.symm.trans e); (have e := h.symm.trans e; injection e with e; have := qx4; omega)
            have p9 := Nat.le_trans px4 hb9.size
            go_roundw
            case rel => exact ⟨j + 1, _, rfl, hlt, by go_num, own9, nv9, n9, s9, h9, b9, p9⟩
            case measure => simp [intOf] <;> omega
          · have q1 := Block.lt nx1
            have q2 := Block.lt sx1
            have q3 := bx1.size
            have q5 := qx1
            go_simp
            have h := below_last x1 (.cells #[.int .u8 0, .int .u8 0, .int .u8 0, .int .u8 0, .int .u8 0, .int .u8 0, .int .u8 0, .int .u8 0, .int .u8 0, .int .u8 0, .int .u8 0, .int .u8 0, .int .u8 0, .int .u8 0, .int .u8 0, .int .u8 0, .int .u8 0, .int .u8 0, .int .u8 0, .int .u8 0, .int .u8 0, .int .u8 0, .int .u8 0, .int .u8 0, .int .u8 0, .int .u8 0, .int .u8 0, .int .u8 0, .int .u8 0, .int .u8 0, .int .u8 0, .int .u8 0] 26)
            have new_z : Arr (x1.alloc (.cells #[.int .u8 0, .int .u8 0, .int .u8 0, .int .u8 0, .int .u8 0, .int .u8 0, .int .u8 0, .int .u8 0, .int .u8 0, .int .u8 0, .int .u8 0, .int .u8 0, .int .u8 0, .int .u8 0, .int .u8 0, .int .u8 0, .int .u8 0, .int .u8 0, .int .u8 0, .int .u8 0, .int .u8 0, .int .u8 0, .int .u8 0, .int .u8 0, .int .u8 0, .int .u8 0, .int .u8 0, .int .u8 0, .int .u8 0, .int .u8 0, .int .u8 0, .int .u8 0] 26)) x1.heap.size 26 .u8 (List.replicate 32 0) := Arr.new x1 26 .u8 (List.replicate 32 0)
            generalize hgen : x1.alloc (.cells #[.int .u8 0, .int .u8 0, .int .u8 0, .int .u8 0, .int .u8 0, .int .u8 0, .int .u8 0, .int .u8 0, .int .u8 0, .int .u8 0, .int .u8 0, .int .u8 0, .int .u8 0, .int .u8 0, .int .u8 0, .int .u8 0, .int .u8 0, .int .u8 0, .int .u8 0, .int .u8 0, .int .u8 0, .int .u8 0, .int .u8 0, .int .u8 0, .int .u8 0, .int .u8 0, .int .u8 0, .int .u8 0, .int .u8 0, .int .u8 0, .int .u8 0, .int .u8 0] 26) = x2 at *
            have nx2 : Arr x2 nb 78 .u8 nm := Block.below nx1 h (Block.lt nx1)
            have sx2 : Arr x2 (w.heap.size + 1) 26 .u8 seed := Block.below sx1 h (Block.lt sx1)
            have bx2 : Below w.heap.size w x2 := bx1.trans (h.mono bx1.size)
            have ox2 : Own x2 B5 5 .u8 v (outL nm k ds seed j) := ox1.below h
            have hx2 : Holds x2 x2.heap.size .i64 (some ⟨bd, od, none⟩) ds := Holds.on hx1 h
            have px2 : B5 ≤ x2.heap.size := Nat.le_trans px1 h.size
            have qx2 : bd < x2.heap.size := Nat.le_trans qx1 h.size
            have zx2 : Arr x2 x1.heap.size 26 .u8 (List.replicate 32 0) := new_z
            clear hgen h new_z
            refine hK.out _ _ ⟨nx2, sx2⟩ (fun hS => ?_)
            clear hK K
            try simp only [Act.put, List.setIfInBounds_toArray, List.set_cons_zero, List.set_cons_succ]
            refine wpAnyH_ready (rs := [7]) (by kernel_rfl) (by simp) ?_
            refine AllReadyH.cons rfl (fun K hK => ?_) AllReadyH.nil
            go_simp
            go_at_call 51
            refine (GW.out _ bx2).mono ?_
            rintro e x3 ⟨rfl, h⟩
            have nx3 : Arr x3 nb 78 .u8 nm := Block.below nx2 h (Block.lt nx2)
            have sx3 : Arr x3 (w.heap.size + 1) 26 .u8 seed := Block.below sx2 h (Block.lt sx2)
            have bx3 : Below w.heap.size w x3 := bx2.trans (h.mono bx2.size)
            have ox3 : Own x3 B5 5 .u8 v (outL nm k ds seed j) := ox2.below h
            have hx3 : Holds x3 x3.heap.size .i64 (some ⟨bd, od, none⟩) ds := Holds.on hx2 h
            have px3 : B5 ≤ x3.heap.size := Nat.le_trans px2 h.size
            have qx3 : bd < x3.heap.size := Nat.le_trans qx2 h.size
            have zx3 : Arr x3 x1.heap.size 26 .u8 (List.replicate 32 0) := Block.below zx2 h (Block.lt zx2)
            refine hK.out _ _ ⟨nx3, sx3⟩ (fun hS => ?_)
            clear hK K
            try simp only [Act.put, List.setIfInBounds_toArray, List.set_cons_zero, List.set_cons_succ]
            refine wpAnyH_ready (rs := [9]) (by kernel_rfl) (by simp) ?_
            refine AllReadyH.cons rfl (fun K hK => ?_) AllReadyH.nil
            have zne : v.ownBlock ≠ some (x1.heap.size) := ox3.ne_block zx3 (by decide)
            refine step_store_arr rfl _ _ _ rfl (ys := x) zx3 rfl rfl (by rw [HX.out]; rfl) (by rw [HX.out]; kernel_rfl) ?_
            intro x4 zx4 g9
            have nx4 : Arr x4 nb 78 .u8 nm := Arr.grown nx3 g9 (by intro e; injection e with e; omega)
            have sx4 : Arr x4 (w.heap.size + 1) 26 .u8 seed := Arr.grown sx3 g9 (by intro e; injection e with e; omega)
            have bx4 : Below w.heap.size w x4 := bx3.trans (below_of_grown g9 bx3.size fun b hb => by injection hb with hb; omega)
            have ox4 : Own x4 B5 5 .u8 v (outL nm k ds seed j) := ox3.kept g9 (.inr (zne))
            have hx4 : Holds x4 x4.heap.size .i64 (some ⟨bd, od, none⟩) ds := (Holds.grown hx3 g9 (fun a ha => by injection ha with ha; subst ha; intro e; injection e with e; have e : bd = x1.heap.size := e; omega)).more g9.size
            have px4 : B5 ≤ x4.heap.size := Nat.le_trans px3 g9.size
            have qx4 : bd < x4.heap.size := Nat.le_trans qx3 g9.size
            refine hK.out _ _ ⟨nx4, sx4⟩ (fun hS => ?_)
            clear hK K
            try simp only [Act.put, List.setIfInBounds_toArray, List.set_cons_zero, List.set_cons_succ]
            refine wpAnyH_done (by kernel_rfl) ?_ _
            go_wp2_with (have _t := zx4; at_builtin; refine wpList_append_ints _ rfl (.tmp 53) (.tmp 54) 35 rfl Oct.elem8 ox4 rfl (by rw [HX.out]; rfl) (Arr.holds_all zx4) (by rw [HL.out, HX.out]; omega) px4 ?_; clear _t; intro v9 w9 own9 hg9 hb9 hloc)
            rw [← HO.out] at own9
            have n9 : Arr w9 nb 78 .u8 nm := Block.below nx4 hb9 (by omega)
            have s9 : Arr w9 (w.heap.size + 1) 26 .u8 seed := Block.below sx4 hb9 (by omega)
            have b9 := bx4.trans (hb9.mono (by omega))
            have h9 : Holds w9 w9.heap.size .i64 (some ⟨bd, od, none⟩) ds := (Holds.grown hx4 hg9 (fun a ha => by injection ha with ha; subst ha; exact fun e => nv e.symm)).more hg9.size
            have nv9 : v9.ownBlock ≠ some bd := fun e => by rcases hloc with h | h; exact nv (h.symm.trans e); (have e := h.symm.trans e; injection e with e; have := qx4; omega)
            have p9 := Nat.le_trans px4 hb9.size
            go_roundw
            case rel => exact ⟨j + 1, _, rfl, hlt, by go_num, own9, nv9, n9, s9, h9, b9, p9⟩
            case measure => simp [intOf] <;> omega
        · have q1 := Block.lt nx0
          have q2 := Block.lt sx0
          have q3 := bx0.size
          have q5 := qx0
          go_simp
          have h := below_last x0 (.cells #[.int .u8 0, .int .u8 0, .int .u8 0, .int .u8 0, .int .u8 0, .int .u8 0, .int .u8 0, .int .u8 0, .int .u8 0, .int .u8 0, .int .u8 0, .int .u8 0, .int .u8 0, .int .u8 0, .int .u8 0, .int .u8 0, .int .u8 0, .int .u8 0, .int .u8 0, .int .u8 0, .int .u8 0, .int .u8 0, .int .u8 0, .int .u8 0, .int .u8 0, .int .u8 0, .int .u8 0, .int .u8 0, .int .u8 0, .int .u8 0, .int .u8 0, .int .u8 0] 26)
          have new_z : Arr (x0.alloc (.cells #[.int .u8 0, .int .u8 0, .int .u8 0, .int .u8 0, .int .u8 0, .int .u8 0, .int .u8 0, .int .u8 0, .int .u8 0, .int .u8 0, .int .u8 0, .int .u8 0, .int .u8 0, .int .u8 0, .int .u8 0, .int .u8 0, .int .u8 0, .int .u8 0, .int .u8 0, .int .u8 0, .int .u8 0, .int .u8 0, .int .u8 0, .int .u8 0, .int .u8 0, .int .u8 0, .int .u8 0, .int .u8 0, .int .u8 0, .int .u8 0, .int .u8 0, .int .u8 0] 26)) x0.heap.size 26 .u8 (List.replicate 32 0) := Arr.new x0 26 .u8 (List.replicate 32 0)
          generalize hgen : x0.alloc (.cells #[.int .u8 0, .int .u8 0, .int .u8 0, .int .u8 0, .int .u8 0, .int .u8 0, .int .u8 0, .int .u8 0, .int .u8 0, .int .u8 0, .int .u8 0, .int .u8 0, .int .u8 0, .int .u8 0, .int .u8 0, .int .u8 0, .int .u8 0, .int .u8 0, .int .u8 0, .int .u8 0, .int .u8 0, .int .u8 0, .int .u8 0, .int .u8 0, .int .u8 0, .int .u8 0, .int .u8 0, .int .u8 0, .int .u8 0, .int .u8 0, .int .u8 0, .int .u8 0] 26) = x1 at *
          have nx1 : Arr x1 nb 78 .u8 nm := Block.below nx0 h (Block.lt nx0)
          have sx1 : Arr x1 (w.heap.size + 1) 26 .u8 seed := Block.below sx0 h (Block.lt sx0)
          have bx1 : Below w.heap.size w x1 := bx0.trans (h.mono bx0.size)
          have ox1 : Own x1 B5 5 .u8 v (outL nm k ds seed j) := ox0.below h
          have hx1 : Holds x1 x1.heap.size .i64 (some ⟨bd, od, none⟩) ds := Holds.on hx0 h
          have px1 : B5 ≤ x1.heap.size := Nat.le_trans px0 h.size
          have qx1 : bd < x1.heap.size := Nat.le_trans qx0 h.size
          have zx1 : Arr x1 x0.heap.size 26 .u8 (List.replicate 32 0) := new_z
          clear hgen h new_z
          refine hK.out _ _ ⟨nx1, sx1⟩ (fun hS => ?_)
          clear hK K
          try simp only [Act.put, List.setIfInBounds_toArray, List.set_cons_zero, List.set_cons_succ]
          refine wpAnyH_ready (rs := [6]) (by kernel_rfl) (by simp) ?_
          refine AllReadyH.cons rfl (fun K hK => ?_) AllReadyH.nil
          go_simp
          go_at_call 53
          refine (GS.out _ bx1).mono ?_
          rintro e x2 ⟨rfl, h⟩
          have nx2 : Arr x2 nb 78 .u8 nm := Block.below nx1 h (Block.lt nx1)
          have sx2 : Arr x2 (w.heap.size + 1) 26 .u8 seed := Block.below sx1 h (Block.lt sx1)
          have bx2 : Below w.heap.size w x2 := bx1.trans (h.mono bx1.size)
          have ox2 : Own x2 B5 5 .u8 v (outL nm k ds seed j) := ox1.below h
          have hx2 : Holds x2 x2.heap.size .i64 (some ⟨bd, od, none⟩) ds := Holds.on hx1 h
          have px2 : B5 ≤ x2.heap.size := Nat.le_trans px1 h.size
          have qx2 : bd < x2.heap.size := Nat.le_trans qx1 h.size
          have zx2 : Arr x2 x0.heap.size 26 .u8 (List.replicate 32 0) := Block.below zx1 h (Block.lt zx1)
          refine hK.out _ _ ⟨nx2, sx2⟩ (fun hS => ?_)
          clear hK K
          try simp only [Act.put, List.setIfInBounds_toArray, List.set_cons_zero, List.set_cons_succ]
          refine wpAnyH_ready (rs := [7]) (by kernel_rfl) (by simp) ?_
          refine AllReadyH.cons rfl (fun K hK => ?_) AllReadyH.nil
          go_simp
          go_at_call 51
          refine (GW.out _ bx2).mono ?_
          rintro e x3 ⟨rfl, h⟩
          have nx3 : Arr x3 nb 78 .u8 nm := Block.below nx2 h (Block.lt nx2)
          have sx3 : Arr x3 (w.heap.size + 1) 26 .u8 seed := Block.below sx2 h (Block.lt sx2)
          have bx3 : Below w.heap.size w x3 := bx2.trans (h.mono bx2.size)
          have ox3 : Own x3 B5 5 .u8 v (outL nm k ds seed j) := ox2.below h
          have hx3 : Holds x3 x3.heap.size .i64 (some ⟨bd, od, none⟩) ds := Holds.on hx2 h
          have px3 : B5 ≤ x3.heap.size := Nat.le_trans px2 h.size
          have qx3 : bd < x3.heap.size := Nat.le_trans qx2 h.size
          have zx3 : Arr x3 x0.heap.size 26 .u8 (List.replicate 32 0) := Block.below zx2 h (Block.lt zx2)
          refine hK.out _ _ ⟨nx3, sx3⟩ (fun hS => ?_)
          clear hK K
          try simp only [Act.put, List.setIfInBounds_toArray, List.set_cons_zero, List.set_cons_succ]
          refine wpAnyH_ready (rs := [9]) (by kernel_rfl) (by simp) ?_
          refine AllReadyH.cons rfl (fun K hK => ?_) AllReadyH.nil
          have zne : v.ownBlock ≠ some (x0.heap.size) := ox3.ne_block zx3 (by decide)
          refine step_store_arr rfl _ _ _ rfl (ys := x) zx3 rfl rfl (by rw [HX.out]; rfl) (by rw [HX.out]; kernel_rfl) ?_
          intro x4 zx4 g9
          have nx4 : Arr x4 nb 78 .u8 nm := Arr.grown nx3 g9 (by intro e; injection e with e; omega)
          have sx4 : Arr x4 (w.heap.size + 1) 26 .u8 seed := Arr.grown sx3 g9 (by intro e; injection e with e; omega)
          have bx4 : Below w.heap.size w x4 := bx3.trans (below_of_grown g9 bx3.size fun b hb => by injection hb with hb; omega)
          have ox4 : Own x4 B5 5 .u8 v (outL nm k ds seed j) := ox3.kept g9 (.inr (zne))
          have hx4 : Holds x4 x4.heap.size .i64 (some ⟨bd, od, none⟩) ds := (Holds.grown hx3 g9 (fun a ha => by injection ha with ha; subst ha; intro e; injection e with e; have e : bd = x0.heap.size := e; omega)).more g9.size
          have px4 : B5 ≤ x4.heap.size := Nat.le_trans px3 g9.size
          have qx4 : bd < x4.heap.size := Nat.le_trans qx3 g9.size
          refine hK.out _ _ ⟨nx4, sx4⟩ (fun hS => ?_)
          clear hK K
          try simp only [Act.put, List.setIfInBounds_toArray, List.set_cons_zero, List.set_cons_succ]
          refine wpAnyH_done (by kernel_rfl) ?_ _
          go_wp2_with (have _t := zx4; at_builtin; refine wpList_append_ints _ rfl (.tmp 53) (.tmp 54) 35 rfl Oct.elem8 ox4 rfl (by rw [HX.out]; rfl) (Arr.holds_all zx4) (by rw [HL.out, HX.out]; omega) px4 ?_; clear _t; intro v9 w9 own9 hg9 hb9 hloc)
          rw [← HO.out] at own9
          have n9 : Arr w9 nb 78 .u8 nm := Block.below nx4 hb9 (by omega)
          have s9 : Arr w9 (w.heap.size + 1) 26 .u8 seed := Block.below sx4 hb9 (by omega)
          have b9 := bx4.trans (hb9.mono (by omega))
          have h9 : Holds w9 w9.heap.size .i64 (some ⟨bd, od, none⟩) ds := (Holds.grown hx4 hg9 (fun a ha => by injection ha with ha; subst ha; exact fun e => nv e.symm)).more hg9.size
          have nv9 : v9.ownBlock ≠ some bd := fun e => by rcases hloc with h | h; exact nv (h.symm.trans e); (have e := h.symm.trans e; injection e with e; have := qx4; omega)
          have p9 := Nat.le_trans px4 hb9.size
          go_roundw
          case rel => exact ⟨j + 1, _, rfl, hlt, by go_num, own9, nv9, n9, s9, h9, b9, p9⟩
          case measure => simp [intOf] <;> omega
      · obtain rfl : j = m := by omega
        have d1 : decide ((j : Int) < (j : Int)) = false := decide_eq_false (by omega)
        have d2 : decide (j < j) = false := decide_eq_false hlt
        go_wp2_with fail
        go_ret2
        exact ⟨_, rfl, by rw [HSG.out]; exact o.mono (by omega), b⟩
end Go.Proofs.YtdfgdchmeikigaaDoor.Ot
