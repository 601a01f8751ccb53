/-
  Layer 13, inflate: the document's reader: next, made: contracts. Conditions: as each theorem names.
-/
import Derived.Test.YthflefdchgpbdaaDoorMIrA
namespace Go.Proofs.YthflefdchgpbdaaDoor.Inf
open Go.ChangeShapes Go.WideShapes Go.ChangeAt Go.RowKit Go.Proofs.YthflefdchgpbdaaDoor.Kit Go.Proofs.YthflefdchgpbdaaDoor.Bits Go.Proofs.YthflefdchgpbdaaDoor.Huf Go.Proofs.YthflefdchgpbdaaDoor.Df

def cC (A1 : Option Addr) (n1 c1 : Nat) (A2 : Option Addr) (c2 : Nat) : Array Value := #[.slice A1 n1 c1, .slice A2 n1 c2]
theorem block_3 (w : World) (o p : Obj) (t : TypeId) (cs : Array Value) : Block (((w.alloc o).alloc p).alloc (.cells cs t)) (w.heap.size + 1 + 1) t cs := by
  have := Block.new ((w.alloc o).alloc p) t cs
  rwa [show ((w.alloc o).alloc p).heap.size = w.heap.size + 1 + 1 by simp] at this
theorem blocks3 (w : World) (c1 : Array Value) (t1 : TypeId) (c2 : Array Value) (t2 : TypeId) (c3 : Array Value) (t3 : TypeId) :
    Block (((w.alloc (.cells c1 t1)).alloc (.cells c2 t2)).alloc (.cells c3 t3)) w.heap.size t1 c1 ∧ Block (((w.alloc (.cells c1 t1)).alloc (.cells c2 t2)).alloc (.cells c3 t3)) (w.heap.size + 1) t2 c2 ∧ Block (((w.alloc (.cells c1 t1)).alloc (.cells c2 t2)).alloc (.cells c3 t3)) (w.heap.size + 1 + 1) t3 c3 :=
  ⟨((Block.new w t1 c1).alloc _).alloc _, (block_2 w _ t2 c2).alloc _, block_3 w _ _ t3 c3⟩
theorem below_3 (w : World) (o p q : Obj) : Below w.heap.size w (((w.alloc o).alloc p).alloc q) := (below_2 w o p).alloc (by simp; omega) _

set_option maxRecDepth 100000 in
set_option maxHeartbeats 1600000 in
theorem next_idle (A1 : Option Addr) (n1 c1 : Nat) (A2 : Option Addr) (c2 : Nat) (AL : Option Addr) (nL cL : Nat) (p : Int) (Ao : Option Addr) (no co : Nat) (most e : Int) (w : World) (he : e ≠ 0) :
    Calls Tryd.prog 40 #[.agg (sC AL nL cL p Ao no co most e), .agg (cC A1 n1 c1 A2 c2)] w fun x w' => x = .returned (.tuple #[.int .i64 0, .agg (sC AL nL cL p Ao no co most e)]) ∧ Below w.heap.size w w' := by
  have B2 := Lib.hid (fun o p q => below_3 w o p q)
  unfold sC cC
  have hb : (e == 0) = false := by rw [beq_eq_false_iff_ne]; exact he
  clear he
  go_enter Tryd.func40, Tryd.ntmps40
  go_wp2
  go_region
  all_goals go_wp2
  all_goals exact bodyPost_ret (v := .tuple #[.int .i64 0, .agg (sC AL nL cL p Ao no co most e)]) (results_tmp_row rfl _ _ (w.heap.size + 1 + 1) 43 _ (0, 0) _ _ rfl rfl (block_3 w _ _ _ _) Tryd.underlying43 rfl (by kernel_rfl)) rfl ⟨rfl, below_draws (B2.out _ _ _) _⟩

set_option maxRecDepth 100000 in
set_option maxHeartbeats 1600000 in
theorem next_live (l bits : List Int) (A1 : Option Addr) (c1 : Nat) (A2 : Option Addr) (c2 b off cL p : Nat) (Ao : Option Addr) (no co : Nat) (most : Int) (w : World) (hM : mayB l = true) (ho : Octets l) (hll : l.length ≤ 300) (hbit : Bit bits)
    (hn : bits.length ≤ 1000000) (hp : p ≤ bits.length) (hc : bits.length ≤ cL) (h1 : Holds w w.heap.size .u8 A1 l) (h2 : Holds w w.heap.size .u16 A2 (codes l)) (hr : Holds w w.heap.size .u8 (some ⟨b, off, none⟩) bits) :
    Calls Tryd.prog 40 #[.agg (sC (some ⟨b, off, none⟩) bits.length cL p Ao no co most 0), .agg (cC A1 l.length c1 A2 c2)] w fun x w' =>
      x = .returned (.tuple #[.int .i64 (symD l bits ⟨p, [], 0⟩).1, .agg (sC (some ⟨b, off, none⟩) bits.length cL (symD l bits ⟨p, [], 0⟩).2.p Ao no co most (symD l bits ⟨p, [], 0⟩).2.e)]) ∧ Below w.heap.size w w' := by
  have B2 := Lib.hid (fun o p q => below_3 w o p q)
  obtain ⟨m, hm⟩ : ∃ m, m = min 15 (bits.length - p) := ⟨_, rfl⟩
  have hlen : ((bits.drop p).take m).length = m := by rw [List.length_take, List.length_drop]; omega
  have htk : (bits.drop p).take m = (bits.drop p).take 15 := by
    by_cases c : 15 ≤ bits.length - p
    · rw [hm, Nat.min_eq_left c]
    · rw [hm, Nat.min_eq_right (by omega), List.take_of_length_le (by rw [List.length_drop]; omega), List.take_of_length_le (by rw [List.length_drop]; omega)]
  have htl : told l ((bits.drop p).take m) = told l (bits.drop p) := by rw [htk]; exact told_take
  have hbk : Bit ((bits.drop p).take m) := fun x hx => hbit x (List.mem_of_mem_drop (List.mem_of_mem_take hx))
  have hrs := hr.sub p m (by omega)
  have GN := Lib.hid (fun W c (hb : Below w.heap.size w W) => rnext_any A1 A2 (some ⟨b, off + p, none⟩) l ((bits.drop p).take m) c1 c2 c W hM ho hll hbk (by omega) ((h1.below hb).more hb.size) ((h2.below hb).more hb.size) ((hrs.below hb).more hb.size))
  have GN0 := Lib.hid (fun (h : cL ≤ p) W c (hb : Below w.heap.size w W) => rnext_any A1 A2 (some ⟨b, off, none⟩) l ((bits.drop p).take m) c1 c2 c W hM ho hll hbk (by omega) ((h1.below hb).more hb.size) ((h2.below hb).more hb.size) (fun hx => absurd hx (by omega)))
  rw [htl, hlen] at GN GN0
  have HD : Hid (∀ s n, told l (bits.drop p) = .sym s n → n ≤ bits.length) := Lib.hid (fun s n h => by have := told_le h; rw [List.length_drop] at this; omega)
  have hpm : (p : Int) + (m : Int) ≤ (bits.length : Int) := by omega
  have hpc : (p : Int) + (m : Int) ≤ (cL : Int) := by omega
  have h0 : (0 : Int) ≤ (p : Int) := by omega
  unfold symD
  simp only [ne_eq, not_true_eq_false, if_false]
  have hmin : min (bits.length : Int) ((p : Int) + 15) = (p : Int) + (m : Int) := by omega
  clear htk htl hbk hrs hlen hr h1 h2
  generalize told l (bits.drop p) = T at *
  generalize bits.length = nL at *
  unfold sC cC
  cases T
  case sym s n =>
    have hnn := HD.out s n rfl
    clear HD
    simp only [toldV] at GN GN0
    by_cases hA : nL ≤ p + 15
    · have hA2 : (nL : Int) ≤ (p : Int) + 15 := by omega
      by_cases hC : p = cL
      · obtain rfl : nL = p := by omega
        subst hC
        obtain rfl : m = 0 := by omega
        clear hA hm hmin hpm hpc
        go_enter Tryd.func40, Tryd.ntmps40
        go_wp2_with fail
        have X3 := blocks3 w #[.slice (some ⟨b, off, none⟩) nL nL, .int .i64 (nL : Int), .slice Ao no co, .int .i64 most, .int .i64 0] 43 #[.slice A1 l.length c1, .slice A2 l.length c2] 65 #[.slice none 0 0, .int .i64 0, .slice none 0 0, .int .i64 0, .int .i64 0] 43
        have B3 := B2.out (.cells #[.slice (some ⟨b, off, none⟩) nL nL, .int .i64 (nL : Int), .slice Ao no co, .int .i64 most, .int .i64 0] 43) (.cells #[.slice A1 l.length c1, .slice A2 l.length c2] 65) (.cells #[.slice none 0 0, .int .i64 0, .slice none 0 0, .int .i64 0, .int .i64 0] 43)
        generalize ((w.alloc (.cells #[.slice (some ⟨b, off, none⟩) nL nL, .int .i64 (nL : Int), .slice Ao no co, .int .i64 most, .int .i64 0] 43)).alloc (.cells #[.slice A1 l.length c1, .slice A2 l.length c2] 65)).alloc (.cells #[.slice none 0 0, .int .i64 0, .slice none 0 0, .int .i64 0, .int .i64 0] 43) = W3 at *
        obtain ⟨x1, x2, x3⟩ := X3
        have B4 : Below w.heap.size w W3.drew := below_draws B3 1
        refine wp_region_held_drew (S := (fun W' : World => W'.cell? ⟨w.heap.size, 0, none⟩ = some (.slice (some ⟨b, off, none⟩) nL nL) ∧ W'.cell? ⟨w.heap.size, 1, none⟩ = some (.int .i64 (nL : Int)) ∧ W'.cell? ⟨w.heap.size + 1, 0, none⟩ = some (.slice A1 l.length c1) ∧ W'.cell? ⟨w.heap.size + 1, 1, none⟩ = some (.slice A2 l.length c2))) (by kernel_rfl) ⟨x1.cell 0, x1.cell 1, x2.cell 0, x2.cell 1⟩ (fun hS => ?_)
        refine wpAnyH_take (i := 0) (oi := ⟨some 22, _, _, _, _, _⟩) (v := .pointer (some ⟨w.heap.size + 1, 0, none⟩)) rfl (by kernel_rfl) (by kernel_rfl) (by kernel_rfl) (fun _ _ _ h => h) (Or.inl ⟨by rfl, fun W hW => by go_simp⟩) hS ?_
        try simp only [Act.put, List.setIfInBounds_toArray, List.set_cons_zero, List.set_cons_succ]
        refine wpAnyH_take (i := 2) (oi := ⟨some 24, _, _, _, _, _⟩) (v := .pointer (some ⟨w.heap.size + 1, 1, none⟩)) rfl (by kernel_rfl) (by kernel_rfl) (by kernel_rfl) (fun _ _ _ h => h) (Or.inl ⟨by rfl, fun W hW => by go_simp⟩) hS ?_
        try simp only [Act.put, List.setIfInBounds_toArray, List.set_cons_zero, List.set_cons_succ]
        refine wpAnyH_take (i := 4) (oi := ⟨some 26, _, _, _, _, _⟩) (v := .pointer (some ⟨w.heap.size, 0, none⟩)) rfl (by kernel_rfl) (by kernel_rfl) (by kernel_rfl) (fun _ _ _ h => h) (Or.inl ⟨by rfl, fun W hW => by go_simp⟩) hS ?_
        try simp only [Act.put, List.setIfInBounds_toArray, List.set_cons_zero, List.set_cons_succ]
        refine wpAnyH_take (i := 6) (oi := ⟨some 28, _, _, _, _, _⟩) (v := .pointer (some ⟨w.heap.size, 1, none⟩)) rfl (by kernel_rfl) (by kernel_rfl) (by kernel_rfl) (fun _ _ _ h => h) (Or.inl ⟨by rfl, fun W hW => by go_simp⟩) hS ?_
        try simp only [Act.put, List.setIfInBounds_toArray, List.set_cons_zero, List.set_cons_succ]
        refine wpAnyH_take (i := 8) (oi := ⟨some 30, _, _, _, _, _⟩) (v := .int .i64 ((nL : Int))) rfl (by kernel_rfl) (by kernel_rfl) (by kernel_rfl) (fun _ _ _ h => h) (Or.inl ⟨by rfl, fun W hW => by go_simp⟩) hS ?_
        try simp only [Act.put, List.setIfInBounds_toArray, List.set_cons_zero, List.set_cons_succ]
        refine wpAnyH_take (i := 1) (oi := ⟨some 23, _, _, _, _, _⟩) (v := .slice A1 l.length c1) rfl (by kernel_rfl) (by kernel_rfl) (by kernel_rfl) (fun _ _ _ h => h) (Or.inl ⟨by rfl, fun W hW => by have k1 := hW.2.2.1; go_simp⟩) hS ?_
        try simp only [Act.put, List.setIfInBounds_toArray, List.set_cons_zero, List.set_cons_succ]
        refine wpAnyH_take (i := 3) (oi := ⟨some 25, _, _, _, _, _⟩) (v := .slice A2 l.length c2) rfl (by kernel_rfl) (by kernel_rfl) (by kernel_rfl) (fun _ _ _ h => h) (Or.inl ⟨by rfl, fun W hW => by have k1 := hW.2.2.2; go_simp⟩) hS ?_
        try simp only [Act.put, List.setIfInBounds_toArray, List.set_cons_zero, List.set_cons_succ]
        refine wpAnyH_take (i := 5) (oi := ⟨some 27, _, _, _, _, _⟩) (v := .slice (some ⟨b, off, none⟩) nL nL) rfl (by kernel_rfl) (by kernel_rfl) (by kernel_rfl) (fun _ _ _ h => h) (Or.inl ⟨by rfl, fun W hW => by have k1 := hW.1; go_simp⟩) hS ?_
        try simp only [Act.put, List.setIfInBounds_toArray, List.set_cons_zero, List.set_cons_succ]
        refine wpAnyH_take (i := 7) (oi := ⟨some 29, _, _, _, _, _⟩) (v := .int .i64 (nL : Int)) rfl (by kernel_rfl) (by kernel_rfl) (by kernel_rfl) (fun _ _ _ h => h) (Or.inl ⟨by rfl, fun W hW => by have k1 := hW.2.1; go_simp⟩) hS ?_
        try simp only [Act.put, List.setIfInBounds_toArray, List.set_cons_zero, List.set_cons_succ]
        refine wpAnyH_take (i := 9) (oi := ⟨some 31, _, _, _, _, _⟩) (v := .slice (some ⟨b, off, none⟩) (0) (0)) rfl (by kernel_rfl) (by kernel_rfl) (by kernel_rfl) (fun _ _ _ h => h) (Or.inl ⟨by rfl, fun W hW => by go_simp⟩) hS ?_
        try simp only [Act.put, List.setIfInBounds_toArray, List.set_cons_zero, List.set_cons_succ]
        refine wpAnyH_ready (rs := [10]) (by kernel_rfl) (by simp) ?_
        refine AllReadyH.cons rfl (fun K hK => ?_) AllReadyH.nil
        go_simp
        go_at_call 53
        with_reducible refine (GN0.out (Nat.le_refl _) _ _ B4).mono ?_
        rintro e w5 ⟨rfl, hb5⟩
        have y1 := (Block.drewN x1 1).below hb5 x1.lt
        have y2 := (Block.drewN x2 1).below hb5 x2.lt
        have y3 := (Block.drewN x3 1).below hb5 x3.lt
        have B5 := B4.trans (hb5.mono B4.size)
        clear x1 x2 x3 B3 B4 hb5
        refine hK.out _ _ ⟨y1.cell 0, y1.cell 1, y2.cell 0, y2.cell 1⟩ (fun hS => ?_)
        clear hK K
        try simp only [Act.put, List.setIfInBounds_toArray, List.set_cons_zero, List.set_cons_succ]
        refine wpAnyH_take (i := 11) (oi := ⟨some 21, _, _, _, _, _⟩) (v := .tuple #[.int .i64 (s), .int .i64 ((n : Int)), .int .i64 (0)]) rfl (by kernel_rfl) (by kernel_rfl) (by kernel_rfl) (fun _ _ _ h => h) (Or.inl ⟨by rfl, fun W hW => by go_simp⟩) hS ?_
        try simp only [Act.put, List.setIfInBounds_toArray, List.set_cons_zero, List.set_cons_succ]
        refine wpAnyH_take (i := 12) (oi := ⟨some 33, _, _, _, _, _⟩) (v := .int .i64 (s)) rfl (by kernel_rfl) (by kernel_rfl) (by kernel_rfl) (fun _ _ _ h => h) (Or.inl ⟨by rfl, fun W hW => by go_simp⟩) hS ?_
        try simp only [Act.put, List.setIfInBounds_toArray, List.set_cons_zero, List.set_cons_succ]
        refine wpAnyH_take (i := 13) (oi := ⟨some 34, _, _, _, _, _⟩) (v := .int .i64 ((n : Int))) rfl (by kernel_rfl) (by kernel_rfl) (by kernel_rfl) (fun _ _ _ h => h) (Or.inl ⟨by rfl, fun W hW => by go_simp⟩) hS ?_
        try simp only [Act.put, List.setIfInBounds_toArray, List.set_cons_zero, List.set_cons_succ]
        refine wpAnyH_take (i := 14) (oi := ⟨some 35, _, _, _, _, _⟩) (v := .int .i64 (0)) rfl (by kernel_rfl) (by kernel_rfl) (by kernel_rfl) (fun _ _ _ h => h) (Or.inl ⟨by rfl, fun W hW => by go_simp⟩) hS ?_
        try simp only [Act.put, List.setIfInBounds_toArray, List.set_cons_zero, List.set_cons_succ]
        refine wpAnyH_ready (rs := [15]) (by kernel_rfl) (by simp) ?_
        refine AllReadyH.cons rfl (fun K hK => ?_) AllReadyH.nil
        go_simp
        refine hK.out _ _ hS (fun hS => ?_)
        clear hK K
        try simp only [Act.put, List.setIfInBounds_toArray, List.set_cons_zero, List.set_cons_succ]
        refine wpAnyH_ready (rs := [16]) (by kernel_rfl) (by simp) ?_
        refine AllReadyH.cons rfl (fun K hK => ?_) AllReadyH.nil
        go_simp
        refine hK.out _ _ hS (fun hS => ?_)
        clear hK K
        try simp only [Act.put, List.setIfInBounds_toArray, List.set_cons_zero, List.set_cons_succ]
        refine wpAnyH_ready (rs := [17]) (by kernel_rfl) (by simp) ?_
        refine AllReadyH.cons rfl (fun K hK => ?_) AllReadyH.nil
        go_simp
        refine hK.out _ _ hS (fun hS => ?_)
        clear hK K
        try simp only [Act.put, List.setIfInBounds_toArray, List.set_cons_zero, List.set_cons_succ]
        refine wpAnyH_done (by kernel_rfl) ?_ _
        have k1 := y1.cell 1
        have k4 := y1.cell 4
        have f1 := y1.frozen 1
        have f4 := y1.frozen 4
        go_wp2_with fail
        have Y1 := y1
        have Y3 := y3
        have Y5 := B5
        have Y1 := Y1.set_ 1 (.int .i64 ((nL : Int) + (n : Int)))
        have Y3 := Y3.far (p := ⟨w.heap.size, 1, none⟩) (by simp only; omega) (.int .i64 ((nL : Int) + (n : Int)))
        have Y5 := Y5.setCell (p := ⟨w.heap.size, 1, none⟩) (Nat.le_refl _) (.int .i64 ((nL : Int) + (n : Int)))
        simp only [List.setIfInBounds_toArray, List.set_cons_zero, List.set_cons_succ] at Y1
        generalize (World.setCell w5 ⟨w.heap.size, 1, none⟩ (Value.int .i64 ((nL : Int) + (n : Int)))) = w6 at *
        clear k1 k4 f1 f4 y1 y2 y3 B5
        have Z1 : Block w6.drew w.heap.size 43 #[.slice (some ⟨b, off, none⟩) nL nL, .int .i64 ((nL : Int) + (n : Int)), .slice Ao no co, .int .i64 most, .int .i64 0] := Block.drewN Y1 1
        have Z3 := Block.drewN Y3 1
        have Z5 : Below w.heap.size w w6.drew := below_draws Y5 1
        refine wp_region_held_drew (S := (fun W => Block W w.heap.size 43 #[.slice (some ⟨b, off, none⟩) nL nL, .int .i64 ((nL : Int) + (n : Int)), .slice Ao no co, .int .i64 most, .int .i64 0])) (by kernel_rfl) Y1 (fun hS => ?_)
        refine wpAnyH_take (i := 0) (oi := ⟨some 47, _, _, _, _, _⟩) (v := .int .i64 (s)) rfl (by kernel_rfl) (by kernel_rfl) (by kernel_rfl) (fun _ _ _ h => h) (Or.inl ⟨by rfl, fun W hW => by go_simp⟩) hS ?_
        try simp only [Act.put, List.setIfInBounds_toArray, List.set_cons_zero, List.set_cons_succ]
        refine wpAnyH_take (i := 1) (oi := ⟨some 48, _, _, _, _, _⟩) (v := .agg #[.slice (some ⟨b, off, none⟩) nL nL, .int .i64 ((nL : Int) + (n : Int)), .slice Ao no co, .int .i64 most, .int .i64 0]) rfl (by kernel_rfl) (by kernel_rfl) (by kernel_rfl) (fun _ _ _ h => h) (yieldsIf_load_mid (by rfl) _ _ rfl (w.heap.size) (0) rfl [.slice (some ⟨b, off, none⟩) nL nL, .int .i64 ((nL : Int) + (n : Int)), .slice Ao no co, .int .i64 most, .int .i64 0] _ (fun W hW => block_range (L := [.slice (some ⟨b, off, none⟩) nL nL, .int .i64 ((nL : Int) + (n : Int)), .slice Ao no co, .int .i64 most, .int .i64 0]) hW) Tryd.underlying43 rfl (by kernel_rfl)) hS ?_
        try simp only [Act.put, List.setIfInBounds_toArray, List.set_cons_zero, List.set_cons_succ]
        refine wpAnyH_ready (rs := [2]) (by kernel_rfl) (by simp) ?_
        refine AllReadyH.cons rfl (fun K hK => ?_) AllReadyH.nil
        go_simp
        refine hK.out _ _ Z1 (fun hS => ?_)
        clear hK K
        try simp only [Act.put, List.setIfInBounds_toArray, List.set_cons_zero, List.set_cons_succ]
        refine wpAnyH_ready (rs := [3]) (by kernel_rfl) (by simp) ?_
        refine AllReadyH.cons rfl (fun K hK => ?_) AllReadyH.nil
        refine step_store_blk rfl _ _ _ rfl (cs := #[.slice none 0 0, .int .i64 0, .slice none 0 0, .int .i64 0, .int .i64 0]) (ds := [.slice (some ⟨b, off, none⟩) nL nL, .int .i64 ((nL : Int) + (n : Int)), .slice Ao no co, .int .i64 most, .int .i64 0]) (by exact Z3) rfl rfl rfl (by kernel_rfl) (by intro u hu; simp only [List.mem_cons, List.not_mem_nil, or_false] at hu; rcases hu with rfl | rfl | rfl | rfl | rfl <;> rfl) ?_
        intro w9 Z9 g9
        have B9 := below_of_grown g9 Z5.size (fun x hx => by injection hx with hx; omega)
        refine hK.out _ _ (Z1.grown g9 (by intro h; injection h with h; omega)) (fun hS => ?_)
        clear hK K
        try simp only [Act.put, List.setIfInBounds_toArray, List.set_cons_zero, List.set_cons_succ]
        refine wpAnyH_done (by kernel_rfl) ?_ _
        go_wp2_with fail
        exact bodyPost_ret (v := .tuple #[.int .i64 (s), .agg #[.slice (some ⟨b, off, none⟩) nL nL, .int .i64 ((nL : Int) + (n : Int)), .slice Ao no co, .int .i64 most, .int .i64 0]]) (results_tmp_row rfl _ _ (w.heap.size + 1 + 1) 43 _ (0, 0) _ _ rfl rfl Z9 Tryd.underlying43 rfl (by kernel_rfl)) rfl ⟨rfl, Z5.trans B9⟩
      · obtain rfl : m = nL - p := by omega
        have hC2 : ¬ cL = p := by omega
        clear hm hmin hA hC
        go_enter Tryd.func40, Tryd.ntmps40
        go_wp2_with fail
        have X3 := blocks3 w #[.slice (some ⟨b, off, none⟩) nL cL, .int .i64 (p : Int), .slice Ao no co, .int .i64 most, .int .i64 0] 43 #[.slice A1 l.length c1, .slice A2 l.length c2] 65 #[.slice none 0 0, .int .i64 0, .slice none 0 0, .int .i64 0, .int .i64 0] 43
        have B3 := B2.out (.cells #[.slice (some ⟨b, off, none⟩) nL cL, .int .i64 (p : Int), .slice Ao no co, .int .i64 most, .int .i64 0] 43) (.cells #[.slice A1 l.length c1, .slice A2 l.length c2] 65) (.cells #[.slice none 0 0, .int .i64 0, .slice none 0 0, .int .i64 0, .int .i64 0] 43)
        generalize ((w.alloc (.cells #[.slice (some ⟨b, off, none⟩) nL cL, .int .i64 (p : Int), .slice Ao no co, .int .i64 most, .int .i64 0] 43)).alloc (.cells #[.slice A1 l.length c1, .slice A2 l.length c2] 65)).alloc (.cells #[.slice none 0 0, .int .i64 0, .slice none 0 0, .int .i64 0, .int .i64 0] 43) = W3 at *
        obtain ⟨x1, x2, x3⟩ := X3
        have B4 : Below w.heap.size w W3.drew := below_draws B3 1
        refine wp_region_held_drew (S := (fun W' : World => W'.cell? ⟨w.heap.size, 0, none⟩ = some (.slice (some ⟨b, off, none⟩) nL cL) ∧ W'.cell? ⟨w.heap.size, 1, none⟩ = some (.int .i64 (p : Int)) ∧ W'.cell? ⟨w.heap.size + 1, 0, none⟩ = some (.slice A1 l.length c1) ∧ W'.cell? ⟨w.heap.size + 1, 1, none⟩ = some (.slice A2 l.length c2))) (by kernel_rfl) ⟨x1.cell 0, x1.cell 1, x2.cell 0, x2.cell 1⟩ (fun hS => ?_)
        refine wpAnyH_take (i := 0) (oi := ⟨some 22, _, _, _, _, _⟩) (v := .pointer (some ⟨w.heap.size + 1, 0, none⟩)) rfl (by kernel_rfl) (by kernel_rfl) (by kernel_rfl) (fun _ _ _ h => h) (Or.inl ⟨by rfl, fun W hW => by go_simp⟩) hS ?_
        try simp only [Act.put, List.setIfInBounds_toArray, List.set_cons_zero, List.set_cons_succ]
        refine wpAnyH_take (i := 2) (oi := ⟨some 24, _, _, _, _, _⟩) (v := .pointer (some ⟨w.heap.size + 1, 1, none⟩)) rfl (by kernel_rfl) (by kernel_rfl) (by kernel_rfl) (fun _ _ _ h => h) (Or.inl ⟨by rfl, fun W hW => by go_simp⟩) hS ?_
        try simp only [Act.put, List.setIfInBounds_toArray, List.set_cons_zero, List.set_cons_succ]
        refine wpAnyH_take (i := 4) (oi := ⟨some 26, _, _, _, _, _⟩) (v := .pointer (some ⟨w.heap.size, 0, none⟩)) rfl (by kernel_rfl) (by kernel_rfl) (by kernel_rfl) (fun _ _ _ h => h) (Or.inl ⟨by rfl, fun W hW => by go_simp⟩) hS ?_
        try simp only [Act.put, List.setIfInBounds_toArray, List.set_cons_zero, List.set_cons_succ]
        refine wpAnyH_take (i := 6) (oi := ⟨some 28, _, _, _, _, _⟩) (v := .pointer (some ⟨w.heap.size, 1, none⟩)) rfl (by kernel_rfl) (by kernel_rfl) (by kernel_rfl) (fun _ _ _ h => h) (Or.inl ⟨by rfl, fun W hW => by go_simp⟩) hS ?_
        try simp only [Act.put, List.setIfInBounds_toArray, List.set_cons_zero, List.set_cons_succ]
        refine wpAnyH_take (i := 8) (oi := ⟨some 30, _, _, _, _, _⟩) (v := .int .i64 ((nL : Int))) rfl (by kernel_rfl) (by kernel_rfl) (by kernel_rfl) (fun _ _ _ h => h) (Or.inl ⟨by rfl, fun W hW => by go_simp⟩) hS ?_
        try simp only [Act.put, List.setIfInBounds_toArray, List.set_cons_zero, List.set_cons_succ]
        refine wpAnyH_take (i := 1) (oi := ⟨some 23, _, _, _, _, _⟩) (v := .slice A1 l.length c1) rfl (by kernel_rfl) (by kernel_rfl) (by kernel_rfl) (fun _ _ _ h => h) (Or.inl ⟨by rfl, fun W hW => by have k1 := hW.2.2.1; go_simp⟩) hS ?_
        try simp only [Act.put, List.setIfInBounds_toArray, List.set_cons_zero, List.set_cons_succ]
        refine wpAnyH_take (i := 3) (oi := ⟨some 25, _, _, _, _, _⟩) (v := .slice A2 l.length c2) rfl (by kernel_rfl) (by kernel_rfl) (by kernel_rfl) (fun _ _ _ h => h) (Or.inl ⟨by rfl, fun W hW => by have k1 := hW.2.2.2; go_simp⟩) hS ?_
        try simp only [Act.put, List.setIfInBounds_toArray, List.set_cons_zero, List.set_cons_succ]
        refine wpAnyH_take (i := 5) (oi := ⟨some 27, _, _, _, _, _⟩) (v := .slice (some ⟨b, off, none⟩) nL cL) rfl (by kernel_rfl) (by kernel_rfl) (by kernel_rfl) (fun _ _ _ h => h) (Or.inl ⟨by rfl, fun W hW => by have k1 := hW.1; go_simp⟩) hS ?_
        try simp only [Act.put, List.setIfInBounds_toArray, List.set_cons_zero, List.set_cons_succ]
        refine wpAnyH_take (i := 7) (oi := ⟨some 29, _, _, _, _, _⟩) (v := .int .i64 (p : Int)) rfl (by kernel_rfl) (by kernel_rfl) (by kernel_rfl) (fun _ _ _ h => h) (Or.inl ⟨by rfl, fun W hW => by have k1 := hW.2.1; go_simp⟩) hS ?_
        try simp only [Act.put, List.setIfInBounds_toArray, List.set_cons_zero, List.set_cons_succ]
        refine wpAnyH_take (i := 9) (oi := ⟨some 31, _, _, _, _, _⟩) (v := .slice (some ⟨b, off + p, none⟩) (nL - p) (cL - p)) rfl (by kernel_rfl) (by kernel_rfl) (by kernel_rfl) (fun _ _ _ h => h) (Or.inl ⟨by rfl, fun W hW => by go_simp⟩) hS ?_
        try simp only [Act.put, List.setIfInBounds_toArray, List.set_cons_zero, List.set_cons_succ]
        refine wpAnyH_ready (rs := [10]) (by kernel_rfl) (by simp) ?_
        refine AllReadyH.cons rfl (fun K hK => ?_) AllReadyH.nil
        go_simp
        go_at_call 53
        with_reducible refine (GN.out _ _ B4).mono ?_
        rintro e w5 ⟨rfl, hb5⟩
        have y1 := (Block.drewN x1 1).below hb5 x1.lt
        have y2 := (Block.drewN x2 1).below hb5 x2.lt
        have y3 := (Block.drewN x3 1).below hb5 x3.lt
        have B5 := B4.trans (hb5.mono B4.size)
        clear x1 x2 x3 B3 B4 hb5
        refine hK.out _ _ ⟨y1.cell 0, y1.cell 1, y2.cell 0, y2.cell 1⟩ (fun hS => ?_)
        clear hK K
        try simp only [Act.put, List.setIfInBounds_toArray, List.set_cons_zero, List.set_cons_succ]
        refine wpAnyH_take (i := 11) (oi := ⟨some 21, _, _, _, _, _⟩) (v := .tuple #[.int .i64 (s), .int .i64 ((n : Int)), .int .i64 (0)]) rfl (by kernel_rfl) (by kernel_rfl) (by kernel_rfl) (fun _ _ _ h => h) (Or.inl ⟨by rfl, fun W hW => by go_simp⟩) hS ?_
        try simp only [Act.put, List.setIfInBounds_toArray, List.set_cons_zero, List.set_cons_succ]
        refine wpAnyH_take (i := 12) (oi := ⟨some 33, _, _, _, _, _⟩) (v := .int .i64 (s)) rfl (by kernel_rfl) (by kernel_rfl) (by kernel_rfl) (fun _ _ _ h => h) (Or.inl ⟨by rfl, fun W hW => by go_simp⟩) hS ?_
        try simp only [Act.put, List.setIfInBounds_toArray, List.set_cons_zero, List.set_cons_succ]
        refine wpAnyH_take (i := 13) (oi := ⟨some 34, _, _, _, _, _⟩) (v := .int .i64 ((n : Int))) rfl (by kernel_rfl) (by kernel_rfl) (by kernel_rfl) (fun _ _ _ h => h) (Or.inl ⟨by rfl, fun W hW => by go_simp⟩) hS ?_
        try simp only [Act.put, List.setIfInBounds_toArray, List.set_cons_zero, List.set_cons_succ]
        refine wpAnyH_take (i := 14) (oi := ⟨some 35, _, _, _, _, _⟩) (v := .int .i64 (0)) rfl (by kernel_rfl) (by kernel_rfl) (by kernel_rfl) (fun _ _ _ h => h) (Or.inl ⟨by rfl, fun W hW => by go_simp⟩) hS ?_
        try simp only [Act.put, List.setIfInBounds_toArray, List.set_cons_zero, List.set_cons_succ]
        refine wpAnyH_ready (rs := [15]) (by kernel_rfl) (by simp) ?_
        refine AllReadyH.cons rfl (fun K hK => ?_) AllReadyH.nil
        go_simp
        refine hK.out _ _ hS (fun hS => ?_)
        clear hK K
        try simp only [Act.put, List.setIfInBounds_toArray, List.set_cons_zero, List.set_cons_succ]
        refine wpAnyH_ready (rs := [16]) (by kernel_rfl) (by simp) ?_
        refine AllReadyH.cons rfl (fun K hK => ?_) AllReadyH.nil
        go_simp
        refine hK.out _ _ hS (fun hS => ?_)
        clear hK K
        try simp only [Act.put, List.setIfInBounds_toArray, List.set_cons_zero, List.set_cons_succ]
        refine wpAnyH_ready (rs := [17]) (by kernel_rfl) (by simp) ?_
        refine AllReadyH.cons rfl (fun K hK => ?_) AllReadyH.nil
        go_simp
        refine hK.out _ _ hS (fun hS => ?_)
        clear hK K
        try simp only [Act.put, List.setIfInBounds_toArray, List.set_cons_zero, List.set_cons_succ]
        refine wpAnyH_done (by kernel_rfl) ?_ _
        have k1 := y1.cell 1
        have k4 := y1.cell 4
        have f1 := y1.frozen 1
        have f4 := y1.frozen 4
        go_wp2_with fail
        have Y1 := y1
        have Y3 := y3
        have Y5 := B5
        have Y1 := Y1.set_ 1 (.int .i64 ((p : Int) + (n : Int)))
        have Y3 := Y3.far (p := ⟨w.heap.size, 1, none⟩) (by simp only; omega) (.int .i64 ((p : Int) + (n : Int)))
        have Y5 := Y5.setCell (p := ⟨w.heap.size, 1, none⟩) (Nat.le_refl _) (.int .i64 ((p : Int) + (n : Int)))
        simp only [List.setIfInBounds_toArray, List.set_cons_zero, List.set_cons_succ] at Y1
        generalize (World.setCell w5 ⟨w.heap.size, 1, none⟩ (Value.int .i64 ((p : Int) + (n : Int)))) = w6 at *
        clear k1 k4 f1 f4 y1 y2 y3 B5
        have Z1 : Block w6.drew w.heap.size 43 #[.slice (some ⟨b, off, none⟩) nL cL, .int .i64 ((p : Int) + (n : Int)), .slice Ao no co, .int .i64 most, .int .i64 0] := Block.drewN Y1 1
        have Z3 := Block.drewN Y3 1
        have Z5 : Below w.heap.size w w6.drew := below_draws Y5 1
        refine wp_region_held_drew (S := (fun W => Block W w.heap.size 43 #[.slice (some ⟨b, off, none⟩) nL cL, .int .i64 ((p : Int) + (n : Int)), .slice Ao no co, .int .i64 most, .int .i64 0])) (by kernel_rfl) Y1 (fun hS => ?_)
        refine wpAnyH_take (i := 0) (oi := ⟨some 47, _, _, _, _, _⟩) (v := .int .i64 (s)) rfl (by kernel_rfl) (by kernel_rfl) (by kernel_rfl) (fun _ _ _ h => h) (Or.inl ⟨by rfl, fun W hW => by go_simp⟩) hS ?_
        try simp only [Act.put, List.setIfInBounds_toArray, List.set_cons_zero, List.set_cons_succ]
        refine wpAnyH_take (i := 1) (oi := ⟨some 48, _, _, _, _, _⟩) (v := .agg #[.slice (some ⟨b, off, none⟩) nL cL, .int .i64 ((p : Int) + (n : Int)), .slice Ao no co, .int .i64 most, .int .i64 0]) rfl (by kernel_rfl) (by kernel_rfl) (by kernel_rfl) (fun _ _ _ h => h) (yieldsIf_load_mid (by rfl) _ _ rfl (w.heap.size) (0) rfl [.slice (some ⟨b, off, none⟩) nL cL, .int .i64 ((p : Int) + (n : Int)), .slice Ao no co, .int .i64 most, .int .i64 0] _ (fun W hW => block_range (L := [.slice (some ⟨b, off, none⟩) nL cL, .int .i64 ((p : Int) + (n : Int)), .slice Ao no co, .int .i64 most, .int .i64 0]) hW) Tryd.underlying43 rfl (by kernel_rfl)) hS ?_
        try simp only [Act.put, List.setIfInBounds_toArray, List.set_cons_zero, List.set_cons_succ]
        refine wpAnyH_ready (rs := [2]) (by kernel_rfl) (by simp) ?_
        refine AllReadyH.cons rfl (fun K hK => ?_) AllReadyH.nil
        go_simp
        refine hK.out _ _ Z1 (fun hS => ?_)
        clear hK K
        try simp only [Act.put, List.setIfInBounds_toArray, List.set_cons_zero, List.set_cons_succ]
        refine wpAnyH_ready (rs := [3]) (by kernel_rfl) (by simp) ?_
        refine AllReadyH.cons rfl (fun K hK => ?_) AllReadyH.nil
        refine step_store_blk rfl _ _ _ rfl (cs := #[.slice none 0 0, .int .i64 0, .slice none 0 0, .int .i64 0, .int .i64 0]) (ds := [.slice (some ⟨b, off, none⟩) nL cL, .int .i64 ((p : Int) + (n : Int)), .slice Ao no co, .int .i64 most, .int .i64 0]) (by exact Z3) rfl rfl rfl (by kernel_rfl) (by intro u hu; simp only [List.mem_cons, List.not_mem_nil, or_false] at hu; rcases hu with rfl | rfl | rfl | rfl | rfl <;> rfl) ?_
        intro w9 Z9 g9
        have B9 := below_of_grown g9 Z5.size (fun x hx => by injection hx with hx; omega)
        refine hK.out _ _ (Z1.grown g9 (by intro h; injection h with h; omega)) (fun hS => ?_)
        clear hK K
        try simp only [Act.put, List.setIfInBounds_toArray, List.set_cons_zero, List.set_cons_succ]
        refine wpAnyH_done (by kernel_rfl) ?_ _
        go_wp2_with fail
        exact bodyPost_ret (v := .tuple #[.int .i64 (s), .agg #[.slice (some ⟨b, off, none⟩) nL cL, .int .i64 ((p : Int) + (n : Int)), .slice Ao no co, .int .i64 most, .int .i64 0]]) (results_tmp_row rfl _ _ (w.heap.size + 1 + 1) 43 _ (0, 0) _ _ rfl rfl Z9 Tryd.underlying43 rfl (by kernel_rfl)) rfl ⟨rfl, Z5.trans B9⟩
    · have hA2 : ¬ (nL : Int) ≤ (p : Int) + 15 := by omega
      have hC2 : ¬ cL = p := by omega
      obtain rfl : m = 15 := by omega
      clear hm hmin hA
      go_enter Tryd.func40, Tryd.ntmps40
      go_wp2_with fail
      have X3 := blocks3 w #[.slice (some ⟨b, off, none⟩) nL cL, .int .i64 (p : Int), .slice Ao no co, .int .i64 most, .int .i64 0] 43 #[.slice A1 l.length c1, .slice A2 l.length c2] 65 #[.slice none 0 0, .int .i64 0, .slice none 0 0, .int .i64 0, .int .i64 0] 43
      have B3 := B2.out (.cells #[.slice (some ⟨b, off, none⟩) nL cL, .int .i64 (p : Int), .slice Ao no co, .int .i64 most, .int .i64 0] 43) (.cells #[.slice A1 l.length c1, .slice A2 l.length c2] 65) (.cells #[.slice none 0 0, .int .i64 0, .slice none 0 0, .int .i64 0, .int .i64 0] 43)
      generalize ((w.alloc (.cells #[.slice (some ⟨b, off, none⟩) nL cL, .int .i64 (p : Int), .slice Ao no co, .int .i64 most, .int .i64 0] 43)).alloc (.cells #[.slice A1 l.length c1, .slice A2 l.length c2] 65)).alloc (.cells #[.slice none 0 0, .int .i64 0, .slice none 0 0, .int .i64 0, .int .i64 0] 43) = W3 at *
      obtain ⟨x1, x2, x3⟩ := X3
      have B4 : Below w.heap.size w W3.drew := below_draws B3 1
      refine wp_region_held_drew (S := (fun W' : World => W'.cell? ⟨w.heap.size, 0, none⟩ = some (.slice (some ⟨b, off, none⟩) nL cL) ∧ W'.cell? ⟨w.heap.size, 1, none⟩ = some (.int .i64 (p : Int)) ∧ W'.cell? ⟨w.heap.size + 1, 0, none⟩ = some (.slice A1 l.length c1) ∧ W'.cell? ⟨w.heap.size + 1, 1, none⟩ = some (.slice A2 l.length c2))) (by kernel_rfl) ⟨x1.cell 0, x1.cell 1, x2.cell 0, x2.cell 1⟩ (fun hS => ?_)
      refine wpAnyH_take (i := 0) (oi := ⟨some 22, _, _, _, _, _⟩) (v := .pointer (some ⟨w.heap.size + 1, 0, none⟩)) rfl (by kernel_rfl) (by kernel_rfl) (by kernel_rfl) (fun _ _ _ h => h) (Or.inl ⟨by rfl, fun W hW => by go_simp⟩) hS ?_
      try simp only [Act.put, List.setIfInBounds_toArray, List.set_cons_zero, List.set_cons_succ]
      refine wpAnyH_take (i := 2) (oi := ⟨some 24, _, _, _, _, _⟩) (v := .pointer (some ⟨w.heap.size + 1, 1, none⟩)) rfl (by kernel_rfl) (by kernel_rfl) (by kernel_rfl) (fun _ _ _ h => h) (Or.inl ⟨by rfl, fun W hW => by go_simp⟩) hS ?_
      try simp only [Act.put, List.setIfInBounds_toArray, List.set_cons_zero, List.set_cons_succ]
      refine wpAnyH_take (i := 4) (oi := ⟨some 26, _, _, _, _, _⟩) (v := .pointer (some ⟨w.heap.size, 0, none⟩)) rfl (by kernel_rfl) (by kernel_rfl) (by kernel_rfl) (fun _ _ _ h => h) (Or.inl ⟨by rfl, fun W hW => by go_simp⟩) hS ?_
      try simp only [Act.put, List.setIfInBounds_toArray, List.set_cons_zero, List.set_cons_succ]
      refine wpAnyH_take (i := 6) (oi := ⟨some 28, _, _, _, _, _⟩) (v := .pointer (some ⟨w.heap.size, 1, none⟩)) rfl (by kernel_rfl) (by kernel_rfl) (by kernel_rfl) (fun _ _ _ h => h) (Or.inl ⟨by rfl, fun W hW => by go_simp⟩) hS ?_
      try simp only [Act.put, List.setIfInBounds_toArray, List.set_cons_zero, List.set_cons_succ]
      refine wpAnyH_take (i := 8) (oi := ⟨some 30, _, _, _, _, _⟩) (v := .int .i64 ((p : Int) + 15)) rfl (by kernel_rfl) (by kernel_rfl) (by kernel_rfl) (fun _ _ _ h => h) (Or.inl ⟨by rfl, fun W hW => by go_simp⟩) hS ?_
      try simp only [Act.put, List.setIfInBounds_toArray, List.set_cons_zero, List.set_cons_succ]
      refine wpAnyH_take (i := 1) (oi := ⟨some 23, _, _, _, _, _⟩) (v := .slice A1 l.length c1) rfl (by kernel_rfl) (by kernel_rfl) (by kernel_rfl) (fun _ _ _ h => h) (Or.inl ⟨by rfl, fun W hW => by have k1 := hW.2.2.1; go_simp⟩) hS ?_
      try simp only [Act.put, List.setIfInBounds_toArray, List.set_cons_zero, List.set_cons_succ]
      refine wpAnyH_take (i := 3) (oi := ⟨some 25, _, _, _, _, _⟩) (v := .slice A2 l.length c2) rfl (by kernel_rfl) (by kernel_rfl) (by kernel_rfl) (fun _ _ _ h => h) (Or.inl ⟨by rfl, fun W hW => by have k1 := hW.2.2.2; go_simp⟩) hS ?_
      try simp only [Act.put, List.setIfInBounds_toArray, List.set_cons_zero, List.set_cons_succ]
      refine wpAnyH_take (i := 5) (oi := ⟨some 27, _, _, _, _, _⟩) (v := .slice (some ⟨b, off, none⟩) nL cL) rfl (by kernel_rfl) (by kernel_rfl) (by kernel_rfl) (fun _ _ _ h => h) (Or.inl ⟨by rfl, fun W hW => by have k1 := hW.1; go_simp⟩) hS ?_
      try simp only [Act.put, List.setIfInBounds_toArray, List.set_cons_zero, List.set_cons_succ]
      refine wpAnyH_take (i := 7) (oi := ⟨some 29, _, _, _, _, _⟩) (v := .int .i64 (p : Int)) rfl (by kernel_rfl) (by kernel_rfl) (by kernel_rfl) (fun _ _ _ h => h) (Or.inl ⟨by rfl, fun W hW => by have k1 := hW.2.1; go_simp⟩) hS ?_
      try simp only [Act.put, List.setIfInBounds_toArray, List.set_cons_zero, List.set_cons_succ]
      refine wpAnyH_take (i := 9) (oi := ⟨some 31, _, _, _, _, _⟩) (v := .slice (some ⟨b, off + p, none⟩) (15) (cL - p)) rfl (by kernel_rfl) (by kernel_rfl) (by kernel_rfl) (fun _ _ _ h => h) (Or.inl ⟨by rfl, fun W hW => by go_simp; rw [if_pos (by omega), if_pos (by omega), show ((p : Int) + 15).toNat - p = 15 by omega]⟩) hS ?_
      try simp only [Act.put, List.setIfInBounds_toArray, List.set_cons_zero, List.set_cons_succ]
      refine wpAnyH_ready (rs := [10]) (by kernel_rfl) (by simp) ?_
      refine AllReadyH.cons rfl (fun K hK => ?_) AllReadyH.nil
      go_simp
      go_at_call 53
      with_reducible refine (GN.out _ _ B4).mono ?_
      rintro e w5 ⟨rfl, hb5⟩
      have y1 := (Block.drewN x1 1).below hb5 x1.lt
      have y2 := (Block.drewN x2 1).below hb5 x2.lt
      have y3 := (Block.drewN x3 1).below hb5 x3.lt
      have B5 := B4.trans (hb5.mono B4.size)
      clear x1 x2 x3 B3 B4 hb5
      refine hK.out _ _ ⟨y1.cell 0, y1.cell 1, y2.cell 0, y2.cell 1⟩ (fun hS => ?_)
      clear hK K
      try simp only [Act.put, List.setIfInBounds_toArray, List.set_cons_zero, List.set_cons_succ]
      refine wpAnyH_take (i := 11) (oi := ⟨some 21, _, _, _, _, _⟩) (v := .tuple #[.int .i64 (s), .int .i64 ((n : Int)), .int .i64 (0)]) rfl (by kernel_rfl) (by kernel_rfl) (by kernel_rfl) (fun _ _ _ h => h) (Or.inl ⟨by rfl, fun W hW => by go_simp⟩) hS ?_
      try simp only [Act.put, List.setIfInBounds_toArray, List.set_cons_zero, List.set_cons_succ]
      refine wpAnyH_take (i := 12) (oi := ⟨some 33, _, _, _, _, _⟩) (v := .int .i64 (s)) rfl (by kernel_rfl) (by kernel_rfl) (by kernel_rfl) (fun _ _ _ h => h) (Or.inl ⟨by rfl, fun W hW => by go_simp⟩) hS ?_
      try simp only [Act.put, List.setIfInBounds_toArray, List.set_cons_zero, List.set_cons_succ]
      refine wpAnyH_take (i := 13) (oi := ⟨some 34, _, _, _, _, _⟩) (v := .int .i64 ((n : Int))) rfl (by kernel_rfl) (by kernel_rfl) (by kernel_rfl) (fun _ _ _ h => h) (Or.inl ⟨by rfl, fun W hW => by go_simp⟩) hS ?_
      try simp only [Act.put, List.setIfInBounds_toArray, List.set_cons_zero, List.set_cons_succ]
      refine wpAnyH_take (i := 14) (oi := ⟨some 35, _, _, _, _, _⟩) (v := .int .i64 (0)) rfl (by kernel_rfl) (by kernel_rfl) (by kernel_rfl) (fun _ _ _ h => h) (Or.inl ⟨by rfl, fun W hW => by go_simp⟩) hS ?_
      try simp only [Act.put, List.setIfInBounds_toArray, List.set_cons_zero, List.set_cons_succ]
      refine wpAnyH_ready (rs := [15]) (by kernel_rfl) (by simp) ?_
      refine AllReadyH.cons rfl (fun K hK => ?_) AllReadyH.nil
      go_simp
      refine hK.out _ _ hS (fun hS => ?_)
      clear hK K
      try simp only [Act.put, List.setIfInBounds_toArray, List.set_cons_zero, List.set_cons_succ]
      refine wpAnyH_ready (rs := [16]) (by kernel_rfl) (by simp) ?_
      refine AllReadyH.cons rfl (fun K hK => ?_) AllReadyH.nil
      go_simp
      refine hK.out _ _ hS (fun hS => ?_)
      clear hK K
      try simp only [Act.put, List.setIfInBounds_toArray, List.set_cons_zero, List.set_cons_succ]
      refine wpAnyH_ready (rs := [17]) (by kernel_rfl) (by simp) ?_
      refine AllReadyH.cons rfl (fun K hK => ?_) AllReadyH.nil
      go_simp
      refine hK.out _ _ hS (fun hS => ?_)
      clear hK K
      try simp only [Act.put, List.setIfInBounds_toArray, List.set_cons_zero, List.set_cons_succ]
      refine wpAnyH_done (by kernel_rfl) ?_ _
      have k1 := y1.cell 1
      have k4 := y1.cell 4
      have f1 := y1.frozen 1
      have f4 := y1.frozen 4
      go_wp2_with fail
      have Y1 := y1
      have Y3 := y3
      have Y5 := B5
      have Y1 := Y1.set_ 1 (.int .i64 ((p : Int) + (n : Int)))
      have Y3 := Y3.far (p := ⟨w.heap.size, 1, none⟩) (by simp only; omega) (.int .i64 ((p : Int) + (n : Int)))
      have Y5 := Y5.setCell (p := ⟨w.heap.size, 1, none⟩) (Nat.le_refl _) (.int .i64 ((p : Int) + (n : Int)))
      simp only [List.setIfInBounds_toArray, List.set_cons_zero, List.set_cons_succ] at Y1
      generalize (World.setCell w5 ⟨w.heap.size, 1, none⟩ (Value.int .i64 ((p : Int) + (n : Int)))) = w6 at *
      clear k1 k4 f1 f4 y1 y2 y3 B5
      have Z1 : Block w6.drew w.heap.size 43 #[.slice (some ⟨b, off, none⟩) nL cL, .int .i64 ((p : Int) + (n : Int)), .slice Ao no co, .int .i64 most, .int .i64 0] := Block.drewN Y1 1
      have Z3 := Block.drewN Y3 1
      have Z5 : Below w.heap.size w w6.drew := below_draws Y5 1
      refine wp_region_held_drew (S := (fun W => Block W w.heap.size 43 #[.slice (some ⟨b, off, none⟩) nL cL, .int .i64 ((p : Int) + (n : Int)), .slice Ao no co, .int .i64 most, .int .i64 0])) (by kernel_rfl) Y1 (fun hS => ?_)
      refine wpAnyH_take (i := 0) (oi := ⟨some 47, _, _, _, _, _⟩) (v := .int .i64 (s)) rfl (by kernel_rfl) (by kernel_rfl) (by kernel_rfl) (fun _ _ _ h => h) (Or.inl ⟨by rfl, fun W hW => by go_simp⟩) hS ?_
      try simp only [Act.put, List.setIfInBounds_toArray, List.set_cons_zero, List.set_cons_succ]
      refine wpAnyH_take (i := 1) (oi := ⟨some 48, _, _, _, _, _⟩) (v := .agg #[.slice (some ⟨b, off, none⟩) nL cL, .int .i64 ((p : Int) + (n : Int)), .slice Ao no co, .int .i64 most, .int .i64 0]) rfl (by kernel_rfl) (by kernel_rfl) (by kernel_rfl) (fun _ _ _ h => h) (yieldsIf_load_mid (by rfl) _ _ rfl (w.heap.size) (0) rfl [.slice (some ⟨b, off, none⟩) nL cL, .int .i64 ((p : Int) + (n : Int)), .slice Ao no co, .int .i64 most, .int .i64 0] _ (fun W hW => block_range (L := [.slice (some ⟨b, off, none⟩) nL cL, .int .i64 ((p : Int) + (n : Int)), .slice Ao no co, .int .i64 most, .int .i64 0]) hW) Tryd.underlying43 rfl (by kernel_rfl)) hS ?_
      try simp only [Act.put, List.setIfInBounds_toArray, List.set_cons_zero, List.set_cons_succ]
      refine wpAnyH_ready (rs := [2]) (by kernel_rfl) (by simp) ?_
      refine AllReadyH.cons rfl (fun K hK => ?_) AllReadyH.nil
      go_simp
      refine hK.out _ _ Z1 (fun hS => ?_)
      clear hK K
      try simp only [Act.put, List.setIfInBounds_toArray, List.set_cons_zero, List.set_cons_succ]
      refine wpAnyH_ready (rs := [3]) (by kernel_rfl) (by simp) ?_
      refine AllReadyH.cons rfl (fun K hK => ?_) AllReadyH.nil
      refine step_store_blk rfl _ _ _ rfl (cs := #[.slice none 0 0, .int .i64 0, .slice none 0 0, .int .i64 0, .int .i64 0]) (ds := [.slice (some ⟨b, off, none⟩) nL cL, .int .i64 ((p : Int) + (n : Int)), .slice Ao no co, .int .i64 most, .int .i64 0]) (by exact Z3) rfl rfl rfl (by kernel_rfl) (by intro u hu; simp only [List.mem_cons, List.not_mem_nil, or_false] at hu; rcases hu with rfl | rfl | rfl | rfl | rfl <;> rfl) ?_
      intro w9 Z9 g9
      have B9 := below_of_grown g9 Z5.size (fun x hx => by injection hx with hx; omega)
      refine hK.out _ _ (Z1.grown g9 (by intro h; injection h with h; omega)) (fun hS => ?_)
      clear hK K
      try simp only [Act.put, List.setIfInBounds_toArray, List.set_cons_zero, List.set_cons_succ]
      refine wpAnyH_done (by kernel_rfl) ?_ _
      go_wp2_with fail
      exact bodyPost_ret (v := .tuple #[.int .i64 (s), .agg #[.slice (some ⟨b, off, none⟩) nL cL, .int .i64 ((p : Int) + (n : Int)), .slice Ao no co, .int .i64 most, .int .i64 0]]) (results_tmp_row rfl _ _ (w.heap.size + 1 + 1) 43 _ (0, 0) _ _ rfl rfl Z9 Tryd.underlying43 rfl (by kernel_rfl)) rfl ⟨rfl, Z5.trans B9⟩
  case short =>
    clear HD
    simp only [toldV] at GN GN0
    by_cases hA : nL ≤ p + 15
    · have hA2 : (nL : Int) ≤ (p : Int) + 15 := by omega
      by_cases hC : p = cL
      · obtain rfl : nL = p := by omega
        subst hC
        obtain rfl : m = 0 := by omega
        clear hA hm hmin hpm hpc
        go_enter Tryd.func40, Tryd.ntmps40
        go_wp2_with fail
        have X3 := blocks3 w #[.slice (some ⟨b, off, none⟩) nL nL, .int .i64 (nL : Int), .slice Ao no co, .int .i64 most, .int .i64 0] 43 #[.slice A1 l.length c1, .slice A2 l.length c2] 65 #[.slice none 0 0, .int .i64 0, .slice none 0 0, .int .i64 0, .int .i64 0] 43
        have B3 := B2.out (.cells #[.slice (some ⟨b, off, none⟩) nL nL, .int .i64 (nL : Int), .slice Ao no co, .int .i64 most, .int .i64 0] 43) (.cells #[.slice A1 l.length c1, .slice A2 l.length c2] 65) (.cells #[.slice none 0 0, .int .i64 0, .slice none 0 0, .int .i64 0, .int .i64 0] 43)
        generalize ((w.alloc (.cells #[.slice (some ⟨b, off, none⟩) nL nL, .int .i64 (nL : Int), .slice Ao no co, .int .i64 most, .int .i64 0] 43)).alloc (.cells #[.slice A1 l.length c1, .slice A2 l.length c2] 65)).alloc (.cells #[.slice none 0 0, .int .i64 0, .slice none 0 0, .int .i64 0, .int .i64 0] 43) = W3 at *
        obtain ⟨x1, x2, x3⟩ := X3
        have B4 : Below w.heap.size w W3.drew := below_draws B3 1
        refine wp_region_held_drew (S := (fun W' : World => W'.cell? ⟨w.heap.size, 0, none⟩ = some (.slice (some ⟨b, off, none⟩) nL nL) ∧ W'.cell? ⟨w.heap.size, 1, none⟩ = some (.int .i64 (nL : Int)) ∧ W'.cell? ⟨w.heap.size + 1, 0, none⟩ = some (.slice A1 l.length c1) ∧ W'.cell? ⟨w.heap.size + 1, 1, none⟩ = some (.slice A2 l.length c2))) (by kernel_rfl) ⟨x1.cell 0, x1.cell 1, x2.cell 0, x2.cell 1⟩ (fun hS => ?_)
        refine wpAnyH_take (i := 0) (oi := ⟨some 22, _, _, _, _, _⟩) (v := .pointer (some ⟨w.heap.size + 1, 0, none⟩)) rfl (by kernel_rfl) (by kernel_rfl) (by kernel_rfl) (fun _ _ _ h => h) (Or.inl ⟨by rfl, fun W hW => by go_simp⟩) hS ?_
        try simp only [Act.put, List.setIfInBounds_toArray, List.set_cons_zero, List.set_cons_succ]
        refine wpAnyH_take (i := 2) (oi := ⟨some 24, _, _, _, _, _⟩) (v := .pointer (some ⟨w.heap.size + 1, 1, none⟩)) rfl (by kernel_rfl) (by kernel_rfl) (by kernel_rfl) (fun _ _ _ h => h) (Or.inl ⟨by rfl, fun W hW => by go_simp⟩) hS ?_
        try simp only [Act.put, List.setIfInBounds_toArray, List.set_cons_zero, List.set_cons_succ]
        refine wpAnyH_take (i := 4) (oi := ⟨some 26, _, _, _, _, _⟩) (v := .pointer (some ⟨w.heap.size, 0, none⟩)) rfl (by kernel_rfl) (by kernel_rfl) (by kernel_rfl) (fun _ _ _ h => h) (Or.inl ⟨by rfl, fun W hW => by go_simp⟩) hS ?_
        try simp only [Act.put, List.setIfInBounds_toArray, List.set_cons_zero, List.set_cons_succ]
        refine wpAnyH_take (i := 6) (oi := ⟨some 28, _, _, _, _, _⟩) (v := .pointer (some ⟨w.heap.size, 1, none⟩)) rfl (by kernel_rfl) (by kernel_rfl) (by kernel_rfl) (fun _ _ _ h => h) (Or.inl ⟨by rfl, fun W hW => by go_simp⟩) hS ?_
        try simp only [Act.put, List.setIfInBounds_toArray, List.set_cons_zero, List.set_cons_succ]
        refine wpAnyH_take (i := 8) (oi := ⟨some 30, _, _, _, _, _⟩) (v := .int .i64 ((nL : Int))) rfl (by kernel_rfl) (by kernel_rfl) (by kernel_rfl) (fun _ _ _ h => h) (Or.inl ⟨by rfl, fun W hW => by go_simp⟩) hS ?_
        try simp only [Act.put, List.setIfInBounds_toArray, List.set_cons_zero, List.set_cons_succ]
        refine wpAnyH_take (i := 1) (oi := ⟨some 23, _, _, _, _, _⟩) (v := .slice A1 l.length c1) rfl (by kernel_rfl) (by kernel_rfl) (by kernel_rfl) (fun _ _ _ h => h) (Or.inl ⟨by rfl, fun W hW => by have k1 := hW.2.2.1; go_simp⟩) hS ?_
        try simp only [Act.put, List.setIfInBounds_toArray, List.set_cons_zero, List.set_cons_succ]
        refine wpAnyH_take (i := 3) (oi := ⟨some 25, _, _, _, _, _⟩) (v := .slice A2 l.length c2) rfl (by kernel_rfl) (by kernel_rfl) (by kernel_rfl) (fun _ _ _ h => h) (Or.inl ⟨by rfl, fun W hW => by have k1 := hW.2.2.2; go_simp⟩) hS ?_
        try simp only [Act.put, List.setIfInBounds_toArray, List.set_cons_zero, List.set_cons_succ]
        refine wpAnyH_take (i := 5) (oi := ⟨some 27, _, _, _, _, _⟩) (v := .slice (some ⟨b, off, none⟩) nL nL) rfl (by kernel_rfl) (by kernel_rfl) (by kernel_rfl) (fun _ _ _ h => h) (Or.inl ⟨by rfl, fun W hW => by have k1 := hW.1; go_simp⟩) hS ?_
        try simp only [Act.put, List.setIfInBounds_toArray, List.set_cons_zero, List.set_cons_succ]
        refine wpAnyH_take (i := 7) (oi := ⟨some 29, _, _, _, _, _⟩) (v := .int .i64 (nL : Int)) rfl (by kernel_rfl) (by kernel_rfl) (by kernel_rfl) (fun _ _ _ h => h) (Or.inl ⟨by rfl, fun W hW => by have k1 := hW.2.1; go_simp⟩) hS ?_
        try simp only [Act.put, List.setIfInBounds_toArray, List.set_cons_zero, List.set_cons_succ]
        refine wpAnyH_take (i := 9) (oi := ⟨some 31, _, _, _, _, _⟩) (v := .slice (some ⟨b, off, none⟩) (0) (0)) rfl (by kernel_rfl) (by kernel_rfl) (by kernel_rfl) (fun _ _ _ h => h) (Or.inl ⟨by rfl, fun W hW => by go_simp⟩) hS ?_
        try simp only [Act.put, List.setIfInBounds_toArray, List.set_cons_zero, List.set_cons_succ]
        refine wpAnyH_ready (rs := [10]) (by kernel_rfl) (by simp) ?_
        refine AllReadyH.cons rfl (fun K hK => ?_) AllReadyH.nil
        go_simp
        go_at_call 53
        with_reducible refine (GN0.out (Nat.le_refl _) _ _ B4).mono ?_
        rintro e w5 ⟨rfl, hb5⟩
        have y1 := (Block.drewN x1 1).below hb5 x1.lt
        have y2 := (Block.drewN x2 1).below hb5 x2.lt
        have y3 := (Block.drewN x3 1).below hb5 x3.lt
        have B5 := B4.trans (hb5.mono B4.size)
        clear x1 x2 x3 B3 B4 hb5
        refine hK.out _ _ ⟨y1.cell 0, y1.cell 1, y2.cell 0, y2.cell 1⟩ (fun hS => ?_)
        clear hK K
        try simp only [Act.put, List.setIfInBounds_toArray, List.set_cons_zero, List.set_cons_succ]
        refine wpAnyH_take (i := 11) (oi := ⟨some 21, _, _, _, _, _⟩) (v := .tuple #[.int .i64 (0), .int .i64 (0), .int .i64 (2)]) rfl (by kernel_rfl) (by kernel_rfl) (by kernel_rfl) (fun _ _ _ h => h) (Or.inl ⟨by rfl, fun W hW => by go_simp⟩) hS ?_
        try simp only [Act.put, List.setIfInBounds_toArray, List.set_cons_zero, List.set_cons_succ]
        refine wpAnyH_take (i := 12) (oi := ⟨some 33, _, _, _, _, _⟩) (v := .int .i64 (0)) rfl (by kernel_rfl) (by kernel_rfl) (by kernel_rfl) (fun _ _ _ h => h) (Or.inl ⟨by rfl, fun W hW => by go_simp⟩) hS ?_
        try simp only [Act.put, List.setIfInBounds_toArray, List.set_cons_zero, List.set_cons_succ]
        refine wpAnyH_take (i := 13) (oi := ⟨some 34, _, _, _, _, _⟩) (v := .int .i64 (0)) rfl (by kernel_rfl) (by kernel_rfl) (by kernel_rfl) (fun _ _ _ h => h) (Or.inl ⟨by rfl, fun W hW => by go_simp⟩) hS ?_
        try simp only [Act.put, List.setIfInBounds_toArray, List.set_cons_zero, List.set_cons_succ]
        refine wpAnyH_take (i := 14) (oi := ⟨some 35, _, _, _, _, _⟩) (v := .int .i64 (2)) rfl (by kernel_rfl) (by kernel_rfl) (by kernel_rfl) (fun _ _ _ h => h) (Or.inl ⟨by rfl, fun W hW => by go_simp⟩) hS ?_
        try simp only [Act.put, List.setIfInBounds_toArray, List.set_cons_zero, List.set_cons_succ]
        refine wpAnyH_ready (rs := [15]) (by kernel_rfl) (by simp) ?_
        refine AllReadyH.cons rfl (fun K hK => ?_) AllReadyH.nil
        go_simp
        refine hK.out _ _ hS (fun hS => ?_)
        clear hK K
        try simp only [Act.put, List.setIfInBounds_toArray, List.set_cons_zero, List.set_cons_succ]
        refine wpAnyH_ready (rs := [16]) (by kernel_rfl) (by simp) ?_
        refine AllReadyH.cons rfl (fun K hK => ?_) AllReadyH.nil
        go_simp
        refine hK.out _ _ hS (fun hS => ?_)
        clear hK K
        try simp only [Act.put, List.setIfInBounds_toArray, List.set_cons_zero, List.set_cons_succ]
        refine wpAnyH_ready (rs := [17]) (by kernel_rfl) (by simp) ?_
        refine AllReadyH.cons rfl (fun K hK => ?_) AllReadyH.nil
        go_simp
        refine hK.out _ _ hS (fun hS => ?_)
        clear hK K
        try simp only [Act.put, List.setIfInBounds_toArray, List.set_cons_zero, List.set_cons_succ]
        refine wpAnyH_done (by kernel_rfl) ?_ _
        have k1 := y1.cell 1
        have k4 := y1.cell 4
        have f1 := y1.frozen 1
        have f4 := y1.frozen 4
        go_wp2_with fail
        have Y1 := y1
        have Y3 := y3
        have Y5 := B5
        have Y1 := Y1.set_ 4 (.int .i64 (2))
        have Y3 := Y3.far (p := ⟨w.heap.size, 4, none⟩) (by simp only; omega) (.int .i64 (2))
        have Y5 := Y5.setCell (p := ⟨w.heap.size, 4, none⟩) (Nat.le_refl _) (.int .i64 (2))
        have Y1 := Y1.set_ 1 (.int .i64 ((nL : Int)))
        have Y3 := Y3.far (p := ⟨w.heap.size, 1, none⟩) (by simp only; omega) (.int .i64 ((nL : Int)))
        have Y5 := Y5.setCell (p := ⟨w.heap.size, 1, none⟩) (Nat.le_refl _) (.int .i64 ((nL : Int)))
        simp only [List.setIfInBounds_toArray, List.set_cons_zero, List.set_cons_succ] at Y1
        generalize (World.setCell (World.setCell w5 ⟨w.heap.size, 4, none⟩ (Value.int .i64 (2))) ⟨w.heap.size, 1, none⟩ (Value.int .i64 ((nL : Int)))) = w6 at *
        clear k1 k4 f1 f4 y1 y2 y3 B5
        have Z1 : Block w6.drew w.heap.size 43 #[.slice (some ⟨b, off, none⟩) nL nL, .int .i64 ((nL : Int)), .slice Ao no co, .int .i64 most, .int .i64 2] := Block.drewN Y1 1
        have Z3 := Block.drewN Y3 1
        have Z5 : Below w.heap.size w w6.drew := below_draws Y5 1
        refine wp_region_held_drew (S := (fun W => Block W w.heap.size 43 #[.slice (some ⟨b, off, none⟩) nL nL, .int .i64 ((nL : Int)), .slice Ao no co, .int .i64 most, .int .i64 2])) (by kernel_rfl) Y1 (fun hS => ?_)
        refine wpAnyH_take (i := 0) (oi := ⟨some 47, _, _, _, _, _⟩) (v := .int .i64 (0)) rfl (by kernel_rfl) (by kernel_rfl) (by kernel_rfl) (fun _ _ _ h => h) (Or.inl ⟨by rfl, fun W hW => by go_simp⟩) hS ?_
        try simp only [Act.put, List.setIfInBounds_toArray, List.set_cons_zero, List.set_cons_succ]
        refine wpAnyH_take (i := 1) (oi := ⟨some 48, _, _, _, _, _⟩) (v := .agg #[.slice (some ⟨b, off, none⟩) nL nL, .int .i64 ((nL : Int)), .slice Ao no co, .int .i64 most, .int .i64 2]) rfl (by kernel_rfl) (by kernel_rfl) (by kernel_rfl) (fun _ _ _ h => h) (yieldsIf_load_mid (by rfl) _ _ rfl (w.heap.size) (0) rfl [.slice (some ⟨b, off, none⟩) nL nL, .int .i64 ((nL : Int)), .slice Ao no co, .int .i64 most, .int .i64 2] _ (fun W hW => block_range (L := [.slice (some ⟨b, off, none⟩) nL nL, .int .i64 ((nL : Int)), .slice Ao no co, .int .i64 most, .int .i64 2]) hW) Tryd.underlying43 rfl (by kernel_rfl)) hS ?_
        try simp only [Act.put, List.setIfInBounds_toArray, List.set_cons_zero, List.set_cons_succ]
        refine wpAnyH_ready (rs := [2]) (by kernel_rfl) (by simp) ?_
        refine AllReadyH.cons rfl (fun K hK => ?_) AllReadyH.nil
        go_simp
        refine hK.out _ _ Z1 (fun hS => ?_)
        clear hK K
        try simp only [Act.put, List.setIfInBounds_toArray, List.set_cons_zero, List.set_cons_succ]
        refine wpAnyH_ready (rs := [3]) (by kernel_rfl) (by simp) ?_
        refine AllReadyH.cons rfl (fun K hK => ?_) AllReadyH.nil
        refine step_store_blk rfl _ _ _ rfl (cs := #[.slice none 0 0, .int .i64 0, .slice none 0 0, .int .i64 0, .int .i64 0]) (ds := [.slice (some ⟨b, off, none⟩) nL nL, .int .i64 ((nL : Int)), .slice Ao no co, .int .i64 most, .int .i64 2]) (by exact Z3) rfl rfl rfl (by kernel_rfl) (by intro u hu; simp only [List.mem_cons, List.not_mem_nil, or_false] at hu; rcases hu with rfl | rfl | rfl | rfl | rfl <;> rfl) ?_
        intro w9 Z9 g9
        have B9 := below_of_grown g9 Z5.size (fun x hx => by injection hx with hx; omega)
        refine hK.out _ _ (Z1.grown g9 (by intro h; injection h with h; omega)) (fun hS => ?_)
        clear hK K
        try simp only [Act.put, List.setIfInBounds_toArray, List.set_cons_zero, List.set_cons_succ]
        refine wpAnyH_done (by kernel_rfl) ?_ _
        go_wp2_with fail
        exact bodyPost_ret (v := .tuple #[.int .i64 (0), .agg #[.slice (some ⟨b, off, none⟩) nL nL, .int .i64 ((nL : Int)), .slice Ao no co, .int .i64 most, .int .i64 2]]) (results_tmp_row rfl _ _ (w.heap.size + 1 + 1) 43 _ (0, 0) _ _ rfl rfl Z9 Tryd.underlying43 rfl (by kernel_rfl)) rfl ⟨rfl, Z5.trans B9⟩
      · obtain rfl : m = nL - p := by omega
        have hC2 : ¬ cL = p := by omega
        clear hm hmin hA hC
        go_enter Tryd.func40, Tryd.ntmps40
        go_wp2_with fail
        have X3 := blocks3 w #[.slice (some ⟨b, off, none⟩) nL cL, .int .i64 (p : Int), .slice Ao no co, .int .i64 most, .int .i64 0] 43 #[.slice A1 l.length c1, .slice A2 l.length c2] 65 #[.slice none 0 0, .int .i64 0, .slice none 0 0, .int .i64 0, .int .i64 0] 43
        have B3 := B2.out (.cells #[.slice (some ⟨b, off, none⟩) nL cL, .int .i64 (p : Int), .slice Ao no co, .int .i64 most, .int .i64 0] 43) (.cells #[.slice A1 l.length c1, .slice A2 l.length c2] 65) (.cells #[.slice none 0 0, .int .i64 0, .slice none 0 0, .int .i64 0, .int .i64 0] 43)
        generalize ((w.alloc (.cells #[.slice (some ⟨b, off, none⟩) nL cL, .int .i64 (p : Int), .slice Ao no co, .int .i64 most, .int .i64 0] 43)).alloc (.cells #[.slice A1 l.length c1, .slice A2 l.length c2] 65)).alloc (.cells #[.slice none 0 0, .int .i64 0, .slice none 0 0, .int .i64 0, .int .i64 0] 43) = W3 at *
        obtain ⟨x1, x2, x3⟩ := X3
        have B4 : Below w.heap.size w W3.drew := below_draws B3 1
        refine wp_region_held_drew (S := (fun W' : World => W'.cell? ⟨w.heap.size, 0, none⟩ = some (.slice (some ⟨b, off, none⟩) nL cL) ∧ W'.cell? ⟨w.heap.size, 1, none⟩ = some (.int .i64 (p : Int)) ∧ W'.cell? ⟨w.heap.size + 1, 0, none⟩ = some (.slice A1 l.length c1) ∧ W'.cell? ⟨w.heap.size + 1, 1, none⟩ = some (.slice A2 l.length c2))) (by kernel_rfl) ⟨x1.cell 0, x1.cell 1, x2.cell 0, x2.cell 1⟩ (fun hS => ?_)
        refine wpAnyH_take (i := 0) (oi := ⟨some 22, _, _, _, _, _⟩) (v := .pointer (some ⟨w.heap.size + 1, 0, none⟩)) rfl (by kernel_rfl) (by kernel_rfl) (by kernel_rfl) (fun _ _ _ h => h) (Or.inl ⟨by rfl, fun W hW => by go_simp⟩) hS ?_
        try simp only [Act.put, List.setIfInBounds_toArray, List.set_cons_zero, List.set_cons_succ]
        refine wpAnyH_take (i := 2) (oi := ⟨some 24, _, _, _, _, _⟩) (v := .pointer (some ⟨w.heap.size + 1, 1, none⟩)) rfl (by kernel_rfl) (by kernel_rfl) (by kernel_rfl) (fun _ _ _ h => h) (Or.inl ⟨by rfl, fun W hW => by go_simp⟩) hS ?_
        try simp only [Act.put, List.setIfInBounds_toArray, List.set_cons_zero, List.set_cons_succ]
        refine wpAnyH_take (i := 4) (oi := ⟨some 26, _, _, _, _, _⟩) (v := .pointer (some ⟨w.heap.size, 0, none⟩)) rfl (by kernel_rfl) (by kernel_rfl) (by kernel_rfl) (fun _ _ _ h => h) (Or.inl ⟨by rfl, fun W hW => by go_simp⟩) hS ?_
        try simp only [Act.put, List.setIfInBounds_toArray, List.set_cons_zero, List.set_cons_succ]
        refine wpAnyH_take (i := 6) (oi := ⟨some 28, _, _, _, _, _⟩) (v := .pointer (some ⟨w.heap.size, 1, none⟩)) rfl (by kernel_rfl) (by kernel_rfl) (by kernel_rfl) (fun _ _ _ h => h) (Or.inl ⟨by rfl, fun W hW => by go_simp⟩) hS ?_
        try simp only [Act.put, List.setIfInBounds_toArray, List.set_cons_zero, List.set_cons_succ]
        refine wpAnyH_take (i := 8) (oi := ⟨some 30, _, _, _, _, _⟩) (v := .int .i64 ((nL : Int))) rfl (by kernel_rfl) (by kernel_rfl) (by kernel_rfl) (fun _ _ _ h => h) (Or.inl ⟨by rfl, fun W hW => by go_simp⟩) hS ?_
        try simp only [Act.put, List.setIfInBounds_toArray, List.set_cons_zero, List.set_cons_succ]
        refine wpAnyH_take (i := 1) (oi := ⟨some 23, _, _, _, _, _⟩) (v := .slice A1 l.length c1) rfl (by kernel_rfl) (by kernel_rfl) (by kernel_rfl) (fun _ _ _ h => h) (Or.inl ⟨by rfl, fun W hW => by have k1 := hW.2.2.1; go_simp⟩) hS ?_
        try simp only [Act.put, List.setIfInBounds_toArray, List.set_cons_zero, List.set_cons_succ]
        refine wpAnyH_take (i := 3) (oi := ⟨some 25, _, _, _, _, _⟩) (v := .slice A2 l.length c2) rfl (by kernel_rfl) (by kernel_rfl) (by kernel_rfl) (fun _ _ _ h => h) (Or.inl ⟨by rfl, fun W hW => by have k1 := hW.2.2.2; go_simp⟩) hS ?_
        try simp only [Act.put, List.setIfInBounds_toArray, List.set_cons_zero, List.set_cons_succ]
        refine wpAnyH_take (i := 5) (oi := ⟨some 27, _, _, _, _, _⟩) (v := .slice (some ⟨b, off, none⟩) nL cL) rfl (by kernel_rfl) (by kernel_rfl) (by kernel_rfl) (fun _ _ _ h => h) (Or.inl ⟨by rfl, fun W hW => by have k1 := hW.1; go_simp⟩) hS ?_
        try simp only [Act.put, List.setIfInBounds_toArray, List.set_cons_zero, List.set_cons_succ]
        refine wpAnyH_take (i := 7) (oi := ⟨some 29, _, _, _, _, _⟩) (v := .int .i64 (p : Int)) rfl (by kernel_rfl) (by kernel_rfl) (by kernel_rfl) (fun _ _ _ h => h) (Or.inl ⟨by rfl, fun W hW => by have k1 := hW.2.1; go_simp⟩) hS ?_
        try simp only [Act.put, List.setIfInBounds_toArray, List.set_cons_zero, List.set_cons_succ]
        refine wpAnyH_take (i := 9) (oi := ⟨some 31, _, _, _, _, _⟩) (v := .slice (some ⟨b, off + p, none⟩) (nL - p) (cL - p)) rfl (by kernel_rfl) (by kernel_rfl) (by kernel_rfl) (fun _ _ _ h => h) (Or.inl ⟨by rfl, fun W hW => by go_simp⟩) hS ?_
        try simp only [Act.put, List.setIfInBounds_toArray, List.set_cons_zero, List.set_cons_succ]
        refine wpAnyH_ready (rs := [10]) (by kernel_rfl) (by simp) ?_
        refine AllReadyH.cons rfl (fun K hK => ?_) AllReadyH.nil
        go_simp
        go_at_call 53
        with_reducible refine (GN.out _ _ B4).mono ?_
        rintro e w5 ⟨rfl, hb5⟩
        have y1 := (Block.drewN x1 1).below hb5 x1.lt
        have y2 := (Block.drewN x2 1).below hb5 x2.lt
        have y3 := (Block.drewN x3 1).below hb5 x3.lt
        have B5 := B4.trans (hb5.mono B4.size)
        clear x1 x2 x3 B3 B4 hb5
        refine hK.out _ _ ⟨y1.cell 0, y1.cell 1, y2.cell 0, y2.cell 1⟩ (fun hS => ?_)
        clear hK K
        try simp only [Act.put, List.setIfInBounds_toArray, List.set_cons_zero, List.set_cons_succ]
        refine wpAnyH_take (i := 11) (oi := ⟨some 21, _, _, _, _, _⟩) (v := .tuple #[.int .i64 (0), .int .i64 (0), .int .i64 (2)]) rfl (by kernel_rfl) (by kernel_rfl) (by kernel_rfl) (fun _ _ _ h => h) (Or.inl ⟨by rfl, fun W hW => by go_simp⟩) hS ?_
        try simp only [Act.put, List.setIfInBounds_toArray, List.set_cons_zero, List.set_cons_succ]
        refine wpAnyH_take (i := 12) (oi := ⟨some 33, _, _, _, _, _⟩) (v := .int .i64 (0)) rfl (by kernel_rfl) (by kernel_rfl) (by kernel_rfl) (fun _ _ _ h => h) (Or.inl ⟨by rfl, fun W hW => by go_simp⟩) hS ?_
        try simp only [Act.put, List.setIfInBounds_toArray, List.set_cons_zero, List.set_cons_succ]
        refine wpAnyH_take (i := 13) (oi := ⟨some 34, _, _, _, _, _⟩) (v := .int .i64 (0)) rfl (by kernel_rfl) (by kernel_rfl) (by kernel_rfl) (fun _ _ _ h => h) (Or.inl ⟨by rfl, fun W hW => by go_simp⟩) hS ?_
        try simp only [Act.put, List.setIfInBounds_toArray, List.set_cons_zero, List.set_cons_succ]
        refine wpAnyH_take (i := 14) (oi := ⟨some 35, _, _, _, _, _⟩) (v := .int .i64 (2)) rfl (by kernel_rfl) (by kernel_rfl) (by kernel_rfl) (fun _ _ _ h => h) (Or.inl ⟨by rfl, fun W hW => by go_simp⟩) hS ?_
        try simp only [Act.put, List.setIfInBounds_toArray, List.set_cons_zero, List.set_cons_succ]
        refine wpAnyH_ready (rs := [15]) (by kernel_rfl) (by simp) ?_
        refine AllReadyH.cons rfl (fun K hK => ?_) AllReadyH.nil
        go_simp
        refine hK.out _ _ hS (fun hS => ?_)
        clear hK K
        try simp only [Act.put, List.setIfInBounds_toArray, List.set_cons_zero, List.set_cons_succ]
        refine wpAnyH_ready (rs := [16]) (by kernel_rfl) (by simp) ?_
        refine AllReadyH.cons rfl (fun K hK => ?_) AllReadyH.nil
        go_simp
        refine hK.out _ _ hS (fun hS => ?_)
        clear hK K
        try simp only [Act.put, List.setIfInBounds_toArray, List.set_cons_zero, List.set_cons_succ]
        refine wpAnyH_ready (rs := [17]) (by kernel_rfl) (by simp) ?_
        refine AllReadyH.cons rfl (fun K hK => ?_) AllReadyH.nil
        go_simp
        refine hK.out _ _ hS (fun hS => ?_)
        clear hK K
        try simp only [Act.put, List.setIfInBounds_toArray, List.set_cons_zero, List.set_cons_succ]
        refine wpAnyH_done (by kernel_rfl) ?_ _
        have k1 := y1.cell 1
        have k4 := y1.cell 4
        have f1 := y1.frozen 1
        have f4 := y1.frozen 4
        go_wp2_with fail
        have Y1 := y1
        have Y3 := y3
        have Y5 := B5
        have Y1 := Y1.set_ 4 (.int .i64 (2))
        have Y3 := Y3.far (p := ⟨w.heap.size, 4, none⟩) (by simp only; omega) (.int .i64 (2))
        have Y5 := Y5.setCell (p := ⟨w.heap.size, 4, none⟩) (Nat.le_refl _) (.int .i64 (2))
        have Y1 := Y1.set_ 1 (.int .i64 ((p : Int)))
        have Y3 := Y3.far (p := ⟨w.heap.size, 1, none⟩) (by simp only; omega) (.int .i64 ((p : Int)))
        have Y5 := Y5.setCell (p := ⟨w.heap.size, 1, none⟩) (Nat.le_refl _) (.int .i64 ((p : Int)))
        simp only [List.setIfInBounds_toArray, List.set_cons_zero, List.set_cons_succ] at Y1
        generalize (World.setCell (World.setCell w5 ⟨w.heap.size, 4, none⟩ (Value.int .i64 (2))) ⟨w.heap.size, 1, none⟩ (Value.int .i64 ((p : Int)))) = w6 at *
        clear k1 k4 f1 f4 y1 y2 y3 B5
        have Z1 : Block w6.drew w.heap.size 43 #[.slice (some ⟨b, off, none⟩) nL cL, .int .i64 ((p : Int)), .slice Ao no co, .int .i64 most, .int .i64 2] := Block.drewN Y1 1
        have Z3 := Block.drewN Y3 1
        have Z5 : Below w.heap.size w w6.drew := below_draws Y5 1
        refine wp_region_held_drew (S := (fun W => Block W w.heap.size 43 #[.slice (some ⟨b, off, none⟩) nL cL, .int .i64 ((p : Int)), .slice Ao no co, .int .i64 most, .int .i64 2])) (by kernel_rfl) Y1 (fun hS => ?_)
        refine wpAnyH_take (i := 0) (oi := ⟨some 47, _, _, _, _, _⟩) (v := .int .i64 (0)) rfl (by kernel_rfl) (by kernel_rfl) (by kernel_rfl) (fun _ _ _ h => h) (Or.inl ⟨by rfl, fun W hW => by go_simp⟩) hS ?_
        try simp only [Act.put, List.setIfInBounds_toArray, List.set_cons_zero, List.set_cons_succ]
        refine wpAnyH_take (i := 1) (oi := ⟨some 48, _, _, _, _, _⟩) (v := .agg #[.slice (some ⟨b, off, none⟩) nL cL, .int .i64 ((p : Int)), .slice Ao no co, .int .i64 most, .int .i64 2]) rfl (by kernel_rfl) (by kernel_rfl) (by kernel_rfl) (fun _ _ _ h => h) (yieldsIf_load_mid (by rfl) _ _ rfl (w.heap.size) (0) rfl [.slice (some ⟨b, off, none⟩) nL cL, .int .i64 ((p : Int)), .slice Ao no co, .int .i64 most, .int .i64 2] _ (fun W hW => block_range (L := [.slice (some ⟨b, off, none⟩) nL cL, .int .i64 ((p : Int)), .slice Ao no co, .int .i64 most, .int .i64 2]) hW) Tryd.underlying43 rfl (by kernel_rfl)) hS ?_
        try simp only [Act.put, List.setIfInBounds_toArray, List.set_cons_zero, List.set_cons_succ]
        refine wpAnyH_ready (rs := [2]) (by kernel_rfl) (by simp) ?_
        refine AllReadyH.cons rfl (fun K hK => ?_) AllReadyH.nil
        go_simp
        refine hK.out _ _ Z1 (fun hS => ?_)
        clear hK K
        try simp only [Act.put, List.setIfInBounds_toArray, List.set_cons_zero, List.set_cons_succ]
        refine wpAnyH_ready (rs := [3]) (by kernel_rfl) (by simp) ?_
        refine AllReadyH.cons rfl (fun K hK => ?_) AllReadyH.nil
        refine step_store_blk rfl _ _ _ rfl (cs := #[.slice none 0 0, .int .i64 0, .slice none 0 0, .int .i64 0, .int .i64 0]) (ds := [.slice (some ⟨b, off, none⟩) nL cL, .int .i64 ((p : Int)), .slice Ao no co, .int .i64 most, .int .i64 2]) (by exact Z3) rfl rfl rfl (by kernel_rfl) (by intro u hu; simp only [List.mem_cons, List.not_mem_nil, or_false] at hu; rcases hu with rfl | rfl | rfl | rfl | rfl <;> rfl) ?_
        intro w9 Z9 g9
        have B9 := below_of_grown g9 Z5.size (fun x hx => by injection hx with hx; omega)
        refine hK.out _ _ (Z1.grown g9 (by intro h; injection h with h; omega)) (fun hS => ?_)
        clear hK K
        try simp only [Act.put, List.setIfInBounds_toArray, List.set_cons_zero, List.set_cons_succ]
        refine wpAnyH_done (by kernel_rfl) ?_ _
        go_wp2_with fail
        exact bodyPost_ret (v := .tuple #[.int .i64 (0), .agg #[.slice (some ⟨b, off, none⟩) nL cL, .int .i64 ((p : Int)), .slice Ao no co, .int .i64 most, .int .i64 2]]) (results_tmp_row rfl _ _ (w.heap.size + 1 + 1) 43 _ (0, 0) _ _ rfl rfl Z9 Tryd.underlying43 rfl (by kernel_rfl)) rfl ⟨rfl, Z5.trans B9⟩
    · have hA2 : ¬ (nL : Int) ≤ (p : Int) + 15 := by omega
      have hC2 : ¬ cL = p := by omega
      obtain rfl : m = 15 := by omega
      clear hm hmin hA
      go_enter Tryd.func40, Tryd.ntmps40
      go_wp2_with fail
      have X3 := blocks3 w #[.slice (some ⟨b, off, none⟩) nL cL, .int .i64 (p : Int), .slice Ao no co, .int .i64 most, .int .i64 0] 43 #[.slice A1 l.length c1, .slice A2 l.length c2] 65 #[.slice none 0 0, .int .i64 0, .slice none 0 0, .int .i64 0, .int .i64 0] 43
      have B3 := B2.out (.cells #[.slice (some ⟨b, off, none⟩) nL cL, .int .i64 (p : Int), .slice Ao no co, .int .i64 most, .int .i64 0] 43) (.cells #[.slice A1 l.length c1, .slice A2 l.length c2] 65) (.cells #[.slice none 0 0, .int .i64 0, .slice none 0 0, .int .i64 0, .int .i64 0] 43)
      generalize ((w.alloc (.cells #[.slice (some ⟨b, off, none⟩) nL cL, .int .i64 (p : Int), .slice Ao no co, .int .i64 most, .int .i64 0] 43)).alloc (.cells #[.slice A1 l.length c1, .slice A2 l.length c2] 65)).alloc (.cells #[.slice none 0 0, .int .i64 0, .slice none 0 0, .int .i64 0, .int .i64 0] 43) = W3 at *
      obtain ⟨x1, x2, x3⟩ := X3
      have B4 : Below w.heap.size w W3.drew := below_draws B3 1
      refine wp_region_held_drew (S := (fun W' : World => W'.cell? ⟨w.heap.size, 0, none⟩ = some (.slice (some ⟨b, off, none⟩) nL cL) ∧ W'.cell? ⟨w.heap.size, 1, none⟩ = some (.int .i64 (p : Int)) ∧ W'.cell? ⟨w.heap.size + 1, 0, none⟩ = some (.slice A1 l.length c1) ∧ W'.cell? ⟨w.heap.size + 1, 1, none⟩ = some (.slice A2 l.length c2))) (by kernel_rfl) ⟨x1.cell 0, x1.cell 1, x2.cell 0, x2.cell 1⟩ (fun hS => ?_)
      refine wpAnyH_take (i := 0) (oi := ⟨some 22, _, _, _, _, _⟩) (v := .pointer (some ⟨w.heap.size + 1, 0, none⟩)) rfl (by kernel_rfl) (by kernel_rfl) (by kernel_rfl) (fun _ _ _ h => h) (Or.inl ⟨by rfl, fun W hW => by go_simp⟩) hS ?_
      try simp only [Act.put, List.setIfInBounds_toArray, List.set_cons_zero, List.set_cons_succ]
      refine wpAnyH_take (i := 2) (oi := ⟨some 24, _, _, _, _, _⟩) (v := .pointer (some ⟨w.heap.size + 1, 1, none⟩)) rfl (by kernel_rfl) (by kernel_rfl) (by kernel_rfl) (fun _ _ _ h => h) (Or.inl ⟨by rfl, fun W hW => by go_simp⟩) hS ?_
      try simp only [Act.put, List.setIfInBounds_toArray, List.set_cons_zero, List.set_cons_succ]
      refine wpAnyH_take (i := 4) (oi := ⟨some 26, _, _, _, _, _⟩) (v := .pointer (some ⟨w.heap.size, 0, none⟩)) rfl (by kernel_rfl) (by kernel_rfl) (by kernel_rfl) (fun _ _ _ h => h) (Or.inl ⟨by rfl, fun W hW => by go_simp⟩) hS ?_
      try simp only [Act.put, List.setIfInBounds_toArray, List.set_cons_zero, List.set_cons_succ]
      refine wpAnyH_take (i := 6) (oi := ⟨some 28, _, _, _, _, _⟩) (v := .pointer (some ⟨w.heap.size, 1, none⟩)) rfl (by kernel_rfl) (by kernel_rfl) (by kernel_rfl) (fun _ _ _ h => h) (Or.inl ⟨by rfl, fun W hW => by go_simp⟩) hS ?_
      try simp only [Act.put, List.setIfInBounds_toArray, List.set_cons_zero, List.set_cons_succ]
      refine wpAnyH_take (i := 8) (oi := ⟨some 30, _, _, _, _, _⟩) (v := .int .i64 ((p : Int) + 15)) rfl (by kernel_rfl) (by kernel_rfl) (by kernel_rfl) (fun _ _ _ h => h) (Or.inl ⟨by rfl, fun W hW => by go_simp⟩) hS ?_
      try simp only [Act.put, List.setIfInBounds_toArray, List.set_cons_zero, List.set_cons_succ]
      refine wpAnyH_take (i := 1) (oi := ⟨some 23, _, _, _, _, _⟩) (v := .slice A1 l.length c1) rfl (by kernel_rfl) (by kernel_rfl) (by kernel_rfl) (fun _ _ _ h => h) (Or.inl ⟨by rfl, fun W hW => by have k1 := hW.2.2.1; go_simp⟩) hS ?_
      try simp only [Act.put, List.setIfInBounds_toArray, List.set_cons_zero, List.set_cons_succ]
      refine wpAnyH_take (i := 3) (oi := ⟨some 25, _, _, _, _, _⟩) (v := .slice A2 l.length c2) rfl (by kernel_rfl) (by kernel_rfl) (by kernel_rfl) (fun _ _ _ h => h) (Or.inl ⟨by rfl, fun W hW => by have k1 := hW.2.2.2; go_simp⟩) hS ?_
      try simp only [Act.put, List.setIfInBounds_toArray, List.set_cons_zero, List.set_cons_succ]
      refine wpAnyH_take (i := 5) (oi := ⟨some 27, _, _, _, _, _⟩) (v := .slice (some ⟨b, off, none⟩) nL cL) rfl (by kernel_rfl) (by kernel_rfl) (by kernel_rfl) (fun _ _ _ h => h) (Or.inl ⟨by rfl, fun W hW => by have k1 := hW.1; go_simp⟩) hS ?_
      try simp only [Act.put, List.setIfInBounds_toArray, List.set_cons_zero, List.set_cons_succ]
      refine wpAnyH_take (i := 7) (oi := ⟨some 29, _, _, _, _, _⟩) (v := .int .i64 (p : Int)) rfl (by kernel_rfl) (by kernel_rfl) (by kernel_rfl) (fun _ _ _ h => h) (Or.inl ⟨by rfl, fun W hW => by have k1 := hW.2.1; go_simp⟩) hS ?_
      try simp only [Act.put, List.setIfInBounds_toArray, List.set_cons_zero, List.set_cons_succ]
      refine wpAnyH_take (i := 9) (oi := ⟨some 31, _, _, _, _, _⟩) (v := .slice (some ⟨b, off + p, none⟩) (15) (cL - p)) rfl (by kernel_rfl) (by kernel_rfl) (by kernel_rfl) (fun _ _ _ h => h) (Or.inl ⟨by rfl, fun W hW => by go_simp; rw [if_pos (by omega), if_pos (by omega), show ((p : Int) + 15).toNat - p = 15 by omega]⟩) hS ?_
      try simp only [Act.put, List.setIfInBounds_toArray, List.set_cons_zero, List.set_cons_succ]
      refine wpAnyH_ready (rs := [10]) (by kernel_rfl) (by simp) ?_
      refine AllReadyH.cons rfl (fun K hK => ?_) AllReadyH.nil
      go_simp
      go_at_call 53
      with_reducible refine (GN.out _ _ B4).mono ?_
      rintro e w5 ⟨rfl, hb5⟩
      have y1 := (Block.drewN x1 1).below hb5 x1.lt
      have y2 := (Block.drewN x2 1).below hb5 x2.lt
      have y3 := (Block.drewN x3 1).below hb5 x3.lt
      have B5 := B4.trans (hb5.mono B4.size)
      clear x1 x2 x3 B3 B4 hb5
      refine hK.out _ _ ⟨y1.cell 0, y1.cell 1, y2.cell 0, y2.cell 1⟩ (fun hS => ?_)
      clear hK K
      try simp only [Act.put, List.setIfInBounds_toArray, List.set_cons_zero, List.set_cons_succ]
      refine wpAnyH_take (i := 11) (oi := ⟨some 21, _, _, _, _, _⟩) (v := .tuple #[.int .i64 (0), .int .i64 (0), .int .i64 (2)]) rfl (by kernel_rfl) (by kernel_rfl) (by kernel_rfl) (fun _ _ _ h => h) (Or.inl ⟨by rfl, fun W hW => by go_simp⟩) hS ?_
      try simp only [Act.put, List.setIfInBounds_toArray, List.set_cons_zero, List.set_cons_succ]
      refine wpAnyH_take (i := 12) (oi := ⟨some 33, _, _, _, _, _⟩) (v := .int .i64 (0)) rfl (by kernel_rfl) (by kernel_rfl) (by kernel_rfl) (fun _ _ _ h => h) (Or.inl ⟨by rfl, fun W hW => by go_simp⟩) hS ?_
      try simp only [Act.put, List.setIfInBounds_toArray, List.set_cons_zero, List.set_cons_succ]
      refine wpAnyH_take (i := 13) (oi := ⟨some 34, _, _, _, _, _⟩) (v := .int .i64 (0)) rfl (by kernel_rfl) (by kernel_rfl) (by kernel_rfl) (fun _ _ _ h => h) (Or.inl ⟨by rfl, fun W hW => by go_simp⟩) hS ?_
      try simp only [Act.put, List.setIfInBounds_toArray, List.set_cons_zero, List.set_cons_succ]
      refine wpAnyH_take (i := 14) (oi := ⟨some 35, _, _, _, _, _⟩) (v := .int .i64 (2)) rfl (by kernel_rfl) (by kernel_rfl) (by kernel_rfl) (fun _ _ _ h => h) (Or.inl ⟨by rfl, fun W hW => by go_simp⟩) hS ?_
      try simp only [Act.put, List.setIfInBounds_toArray, List.set_cons_zero, List.set_cons_succ]
      refine wpAnyH_ready (rs := [15]) (by kernel_rfl) (by simp) ?_
      refine AllReadyH.cons rfl (fun K hK => ?_) AllReadyH.nil
      go_simp
      refine hK.out _ _ hS (fun hS => ?_)
      clear hK K
      try simp only [Act.put, List.setIfInBounds_toArray, List.set_cons_zero, List.set_cons_succ]
      refine wpAnyH_ready (rs := [16]) (by kernel_rfl) (by simp) ?_
      refine AllReadyH.cons rfl (fun K hK => ?_) AllReadyH.nil
      go_simp
      refine hK.out _ _ hS (fun hS => ?_)
      clear hK K
      try simp only [Act.put, List.setIfInBounds_toArray, List.set_cons_zero, List.set_cons_succ]
      refine wpAnyH_ready (rs := [17]) (by kernel_rfl) (by simp) ?_
      refine AllReadyH.cons rfl (fun K hK => ?_) AllReadyH.nil
      go_simp
      refine hK.out _ _ hS (fun hS => ?_)
      clear hK K
      try simp only [Act.put, List.setIfInBounds_toArray, List.set_cons_zero, List.set_cons_succ]
      refine wpAnyH_done (by kernel_rfl) ?_ _
      have k1 := y1.cell 1
      have k4 := y1.cell 4
      have f1 := y1.frozen 1
      have f4 := y1.frozen 4
      go_wp2_with fail
      have Y1 := y1
      have Y3 := y3
      have Y5 := B5
      have Y1 := Y1.set_ 4 (.int .i64 (2))
      have Y3 := Y3.far (p := ⟨w.heap.size, 4, none⟩) (by simp only; omega) (.int .i64 (2))
      have Y5 := Y5.setCell (p := ⟨w.heap.size, 4, none⟩) (Nat.le_refl _) (.int .i64 (2))
      have Y1 := Y1.set_ 1 (.int .i64 ((p : Int)))
      have Y3 := Y3.far (p := ⟨w.heap.size, 1, none⟩) (by simp only; omega) (.int .i64 ((p : Int)))
      have Y5 := Y5.setCell (p := ⟨w.heap.size, 1, none⟩) (Nat.le_refl _) (.int .i64 ((p : Int)))
      simp only [List.setIfInBounds_toArray, List.set_cons_zero, List.set_cons_succ] at Y1
      generalize (World.setCell (World.setCell w5 ⟨w.heap.size, 4, none⟩ (Value.int .i64 (2))) ⟨w.heap.size, 1, none⟩ (Value.int .i64 ((p : Int)))) = w6 at *
      clear k1 k4 f1 f4 y1 y2 y3 B5
      have Z1 : Block w6.drew w.heap.size 43 #[.slice (some ⟨b, off, none⟩) nL cL, .int .i64 ((p : Int)), .slice Ao no co, .int .i64 most, .int .i64 2] := Block.drewN Y1 1
      have Z3 := Block.drewN Y3 1
      have Z5 : Below w.heap.size w w6.drew := below_draws Y5 1
      refine wp_region_held_drew (S := (fun W => Block W w.heap.size 43 #[.slice (some ⟨b, off, none⟩) nL cL, .int .i64 ((p : Int)), .slice Ao no co, .int .i64 most, .int .i64 2])) (by kernel_rfl) Y1 (fun hS => ?_)
      refine wpAnyH_take (i := 0) (oi := ⟨some 47, _, _, _, _, _⟩) (v := .int .i64 (0)) rfl (by kernel_rfl) (by kernel_rfl) (by kernel_rfl) (fun _ _ _ h => h) (Or.inl ⟨by rfl, fun W hW => by go_simp⟩) hS ?_
      try simp only [Act.put, List.setIfInBounds_toArray, List.set_cons_zero, List.set_cons_succ]
      refine wpAnyH_take (i := 1) (oi := ⟨some 48, _, _, _, _, _⟩) (v := .agg #[.slice (some ⟨b, off, none⟩) nL cL, .int .i64 ((p : Int)), .slice Ao no co, .int .i64 most, .int .i64 2]) rfl (by kernel_rfl) (by kernel_rfl) (by kernel_rfl) (fun _ _ _ h => h) (yieldsIf_load_mid (by rfl) _ _ rfl (w.heap.size) (0) rfl [.slice (some ⟨b, off, none⟩) nL cL, .int .i64 ((p : Int)), .slice Ao no co, .int .i64 most, .int .i64 2] _ (fun W hW => block_range (L := [.slice (some ⟨b, off, none⟩) nL cL, .int .i64 ((p : Int)), .slice Ao no co, .int .i64 most, .int .i64 2]) hW) Tryd.underlying43 rfl (by kernel_rfl)) hS ?_
      try simp only [Act.put, List.setIfInBounds_toArray, List.set_cons_zero, List.set_cons_succ]
      refine wpAnyH_ready (rs := [2]) (by kernel_rfl) (by simp) ?_
      refine AllReadyH.cons rfl (fun K hK => ?_) AllReadyH.nil
      go_simp
      refine hK.out _ _ Z1 (fun hS => ?_)
      clear hK K
      try simp only [Act.put, List.setIfInBounds_toArray, List.set_cons_zero, List.set_cons_succ]
      refine wpAnyH_ready (rs := [3]) (by kernel_rfl) (by simp) ?_
      refine AllReadyH.cons rfl (fun K hK => ?_) AllReadyH.nil
      refine step_store_blk rfl _ _ _ rfl (cs := #[.slice none 0 0, .int .i64 0, .slice none 0 0, .int .i64 0, .int .i64 0]) (ds := [.slice (some ⟨b, off, none⟩) nL cL, .int .i64 ((p : Int)), .slice Ao no co, .int .i64 most, .int .i64 2]) (by exact Z3) rfl rfl rfl (by kernel_rfl) (by intro u hu; simp only [List.mem_cons, List.not_mem_nil, or_false] at hu; rcases hu with rfl | rfl | rfl | rfl | rfl <;> rfl) ?_
      intro w9 Z9 g9
      have B9 := below_of_grown g9 Z5.size (fun x hx => by injection hx with hx; omega)
      refine hK.out _ _ (Z1.grown g9 (by intro h; injection h with h; omega)) (fun hS => ?_)
      clear hK K
      try simp only [Act.put, List.setIfInBounds_toArray, List.set_cons_zero, List.set_cons_succ]
      refine wpAnyH_done (by kernel_rfl) ?_ _
      go_wp2_with fail
      exact bodyPost_ret (v := .tuple #[.int .i64 (0), .agg #[.slice (some ⟨b, off, none⟩) nL cL, .int .i64 ((p : Int)), .slice Ao no co, .int .i64 most, .int .i64 2]]) (results_tmp_row rfl _ _ (w.heap.size + 1 + 1) 43 _ (0, 0) _ _ rfl rfl Z9 Tryd.underlying43 rfl (by kernel_rfl)) rfl ⟨rfl, Z5.trans B9⟩
  case form =>
    clear HD
    simp only [toldV] at GN GN0
    by_cases hA : nL ≤ p + 15
    · have hA2 : (nL : Int) ≤ (p : Int) + 15 := by omega
      by_cases hC : p = cL
      · obtain rfl : nL = p := by omega
        subst hC
        obtain rfl : m = 0 := by omega
        clear hA hm hmin hpm hpc
        go_enter Tryd.func40, Tryd.ntmps40
        go_wp2_with fail
        have X3 := blocks3 w #[.slice (some ⟨b, off, none⟩) nL nL, .int .i64 (nL : Int), .slice Ao no co, .int .i64 most, .int .i64 0] 43 #[.slice A1 l.length c1, .slice A2 l.length c2] 65 #[.slice none 0 0, .int .i64 0, .slice none 0 0, .int .i64 0, .int .i64 0] 43
        have B3 := B2.out (.cells #[.slice (some ⟨b, off, none⟩) nL nL, .int .i64 (nL : Int), .slice Ao no co, .int .i64 most, .int .i64 0] 43) (.cells #[.slice A1 l.length c1, .slice A2 l.length c2] 65) (.cells #[.slice none 0 0, .int .i64 0, .slice none 0 0, .int .i64 0, .int .i64 0] 43)
        generalize ((w.alloc (.cells #[.slice (some ⟨b, off, none⟩) nL nL, .int .i64 (nL : Int), .slice Ao no co, .int .i64 most, .int .i64 0] 43)).alloc (.cells #[.slice A1 l.length c1, .slice A2 l.length c2] 65)).alloc (.cells #[.slice none 0 0, .int .i64 0, .slice none 0 0, .int .i64 0, .int .i64 0] 43) = W3 at *
        obtain ⟨x1, x2, x3⟩ := X3
        have B4 : Below w.heap.size w W3.drew := below_draws B3 1
        refine wp_region_held_drew (S := (fun W' : World => W'.cell? ⟨w.heap.size, 0, none⟩ = some (.slice (some ⟨b, off, none⟩) nL nL) ∧ W'.cell? ⟨w.heap.size, 1, none⟩ = some (.int .i64 (nL : Int)) ∧ W'.cell? ⟨w.heap.size + 1, 0, none⟩ = some (.slice A1 l.length c1) ∧ W'.cell? ⟨w.heap.size + 1, 1, none⟩ = some (.slice A2 l.length c2))) (by kernel_rfl) ⟨x1.cell 0, x1.cell 1, x2.cell 0, x2.cell 1⟩ (fun hS => ?_)
        refine wpAnyH_take (i := 0) (oi := ⟨some 22, _, _, _, _, _⟩) (v := .pointer (some ⟨w.heap.size + 1, 0, none⟩)) rfl (by kernel_rfl) (by kernel_rfl) (by kernel_rfl) (fun _ _ _ h => h) (Or.inl ⟨by rfl, fun W hW => by go_simp⟩) hS ?_
        try simp only [Act.put, List.setIfInBounds_toArray, List.set_cons_zero, List.set_cons_succ]
        refine wpAnyH_take (i := 2) (oi := ⟨some 24, _, _, _, _, _⟩) (v := .pointer (some ⟨w.heap.size + 1, 1, none⟩)) rfl (by kernel_rfl) (by kernel_rfl) (by kernel_rfl) (fun _ _ _ h => h) (Or.inl ⟨by rfl, fun W hW => by go_simp⟩) hS ?_
        try simp only [Act.put, List.setIfInBounds_toArray, List.set_cons_zero, List.set_cons_succ]
        refine wpAnyH_take (i := 4) (oi := ⟨some 26, _, _, _, _, _⟩) (v := .pointer (some ⟨w.heap.size, 0, none⟩)) rfl (by kernel_rfl) (by kernel_rfl) (by kernel_rfl) (fun _ _ _ h => h) (Or.inl ⟨by rfl, fun W hW => by go_simp⟩) hS ?_
        try simp only [Act.put, List.setIfInBounds_toArray, List.set_cons_zero, List.set_cons_succ]
        refine wpAnyH_take (i := 6) (oi := ⟨some 28, _, _, _, _, _⟩) (v := .pointer (some ⟨w.heap.size, 1, none⟩)) rfl (by kernel_rfl) (by kernel_rfl) (by kernel_rfl) (fun _ _ _ h => h) (Or.inl ⟨by rfl, fun W hW => by go_simp⟩) hS ?_
        try simp only [Act.put, List.setIfInBounds_toArray, List.set_cons_zero, List.set_cons_succ]
        refine wpAnyH_take (i := 8) (oi := ⟨some 30, _, _, _, _, _⟩) (v := .int .i64 ((nL : Int))) rfl (by kernel_rfl) (by kernel_rfl) (by kernel_rfl) (fun _ _ _ h => h) (Or.inl ⟨by rfl, fun W hW => by go_simp⟩) hS ?_
        try simp only [Act.put, List.setIfInBounds_toArray, List.set_cons_zero, List.set_cons_succ]
        refine wpAnyH_take (i := 1) (oi := ⟨some 23, _, _, _, _, _⟩) (v := .slice A1 l.length c1) rfl (by kernel_rfl) (by kernel_rfl) (by kernel_rfl) (fun _ _ _ h => h) (Or.inl ⟨by rfl, fun W hW => by have k1 := hW.2.2.1; go_simp⟩) hS ?_
        try simp only [Act.put, List.setIfInBounds_toArray, List.set_cons_zero, List.set_cons_succ]
        refine wpAnyH_take (i := 3) (oi := ⟨some 25, _, _, _, _, _⟩) (v := .slice A2 l.length c2) rfl (by kernel_rfl) (by kernel_rfl) (by kernel_rfl) (fun _ _ _ h => h) (Or.inl ⟨by rfl, fun W hW => by have k1 := hW.2.2.2; go_simp⟩) hS ?_
        try simp only [Act.put, List.setIfInBounds_toArray, List.set_cons_zero, List.set_cons_succ]
        refine wpAnyH_take (i := 5) (oi := ⟨some 27, _, _, _, _, _⟩) (v := .slice (some ⟨b, off, none⟩) nL nL) rfl (by kernel_rfl) (by kernel_rfl) (by kernel_rfl) (fun _ _ _ h => h) (Or.inl ⟨by rfl, fun W hW => by have k1 := hW.1; go_simp⟩) hS ?_
        try simp only [Act.put, List.setIfInBounds_toArray, List.set_cons_zero, List.set_cons_succ]
        refine wpAnyH_take (i := 7) (oi := ⟨some 29, _, _, _, _, _⟩) (v := .int .i64 (nL : Int)) rfl (by kernel_rfl) (by kernel_rfl) (by kernel_rfl) (fun _ _ _ h => h) (Or.inl ⟨by rfl, fun W hW => by have k1 := hW.2.1; go_simp⟩) hS ?_
        try simp only [Act.put, List.setIfInBounds_toArray, List.set_cons_zero, List.set_cons_succ]
        refine wpAnyH_take (i := 9) (oi := ⟨some 31, _, _, _, _, _⟩) (v := .slice (some ⟨b, off, none⟩) (0) (0)) rfl (by kernel_rfl) (by kernel_rfl) (by kernel_rfl) (fun _ _ _ h => h) (Or.inl ⟨by rfl, fun W hW => by go_simp⟩) hS ?_
        try simp only [Act.put, List.setIfInBounds_toArray, List.set_cons_zero, List.set_cons_succ]
        refine wpAnyH_ready (rs := [10]) (by kernel_rfl) (by simp) ?_
        refine AllReadyH.cons rfl (fun K hK => ?_) AllReadyH.nil
        go_simp
        go_at_call 53
        with_reducible refine (GN0.out (Nat.le_refl _) _ _ B4).mono ?_
        rintro e w5 ⟨rfl, hb5⟩
        have y1 := (Block.drewN x1 1).below hb5 x1.lt
        have y2 := (Block.drewN x2 1).below hb5 x2.lt
        have y3 := (Block.drewN x3 1).below hb5 x3.lt
        have B5 := B4.trans (hb5.mono B4.size)
        clear x1 x2 x3 B3 B4 hb5
        refine hK.out _ _ ⟨y1.cell 0, y1.cell 1, y2.cell 0, y2.cell 1⟩ (fun hS => ?_)
        clear hK K
        try simp only [Act.put, List.setIfInBounds_toArray, List.set_cons_zero, List.set_cons_succ]
        refine wpAnyH_take (i := 11) (oi := ⟨some 21, _, _, _, _, _⟩) (v := .tuple #[.int .i64 (0), .int .i64 (0), .int .i64 (3)]) rfl (by kernel_rfl) (by kernel_rfl) (by kernel_rfl) (fun _ _ _ h => h) (Or.inl ⟨by rfl, fun W hW => by go_simp⟩) hS ?_
        try simp only [Act.put, List.setIfInBounds_toArray, List.set_cons_zero, List.set_cons_succ]
        refine wpAnyH_take (i := 12) (oi := ⟨some 33, _, _, _, _, _⟩) (v := .int .i64 (0)) rfl (by kernel_rfl) (by kernel_rfl) (by kernel_rfl) (fun _ _ _ h => h) (Or.inl ⟨by rfl, fun W hW => by go_simp⟩) hS ?_
        try simp only [Act.put, List.setIfInBounds_toArray, List.set_cons_zero, List.set_cons_succ]
        refine wpAnyH_take (i := 13) (oi := ⟨some 34, _, _, _, _, _⟩) (v := .int .i64 (0)) rfl (by kernel_rfl) (by kernel_rfl) (by kernel_rfl) (fun _ _ _ h => h) (Or.inl ⟨by rfl, fun W hW => by go_simp⟩) hS ?_
        try simp only [Act.put, List.setIfInBounds_toArray, List.set_cons_zero, List.set_cons_succ]
        refine wpAnyH_take (i := 14) (oi := ⟨some 35, _, _, _, _, _⟩) (v := .int .i64 (3)) rfl (by kernel_rfl) (by kernel_rfl) (by kernel_rfl) (fun _ _ _ h => h) (Or.inl ⟨by rfl, fun W hW => by go_simp⟩) hS ?_
        try simp only [Act.put, List.setIfInBounds_toArray, List.set_cons_zero, List.set_cons_succ]
        refine wpAnyH_ready (rs := [15]) (by kernel_rfl) (by simp) ?_
        refine AllReadyH.cons rfl (fun K hK => ?_) AllReadyH.nil
        go_simp
        refine hK.out _ _ hS (fun hS => ?_)
        clear hK K
        try simp only [Act.put, List.setIfInBounds_toArray, List.set_cons_zero, List.set_cons_succ]
        refine wpAnyH_ready (rs := [16]) (by kernel_rfl) (by simp) ?_
        refine AllReadyH.cons rfl (fun K hK => ?_) AllReadyH.nil
        go_simp
        refine hK.out _ _ hS (fun hS => ?_)
        clear hK K
        try simp only [Act.put, List.setIfInBounds_toArray, List.set_cons_zero, List.set_cons_succ]
        refine wpAnyH_ready (rs := [17]) (by kernel_rfl) (by simp) ?_
        refine AllReadyH.cons rfl (fun K hK => ?_) AllReadyH.nil
        go_simp
        refine hK.out _ _ hS (fun hS => ?_)
        clear hK K
        try simp only [Act.put, List.setIfInBounds_toArray, List.set_cons_zero, List.set_cons_succ]
        refine wpAnyH_done (by kernel_rfl) ?_ _
        have k1 := y1.cell 1
        have k4 := y1.cell 4
        have f1 := y1.frozen 1
        have f4 := y1.frozen 4
        go_wp2_with fail
        have Y1 := y1
        have Y3 := y3
        have Y5 := B5
        have Y1 := Y1.set_ 4 (.int .i64 (11))
        have Y3 := Y3.far (p := ⟨w.heap.size, 4, none⟩) (by simp only; omega) (.int .i64 (11))
        have Y5 := Y5.setCell (p := ⟨w.heap.size, 4, none⟩) (Nat.le_refl _) (.int .i64 (11))
        have Y1 := Y1.set_ 1 (.int .i64 ((nL : Int)))
        have Y3 := Y3.far (p := ⟨w.heap.size, 1, none⟩) (by simp only; omega) (.int .i64 ((nL : Int)))
        have Y5 := Y5.setCell (p := ⟨w.heap.size, 1, none⟩) (Nat.le_refl _) (.int .i64 ((nL : Int)))
        simp only [List.setIfInBounds_toArray, List.set_cons_zero, List.set_cons_succ] at Y1
        generalize (World.setCell (World.setCell w5 ⟨w.heap.size, 4, none⟩ (Value.int .i64 (11))) ⟨w.heap.size, 1, none⟩ (Value.int .i64 ((nL : Int)))) = w6 at *
        clear k1 k4 f1 f4 y1 y2 y3 B5
        have Z1 : Block w6.drew w.heap.size 43 #[.slice (some ⟨b, off, none⟩) nL nL, .int .i64 ((nL : Int)), .slice Ao no co, .int .i64 most, .int .i64 11] := Block.drewN Y1 1
        have Z3 := Block.drewN Y3 1
        have Z5 : Below w.heap.size w w6.drew := below_draws Y5 1
        refine wp_region_held_drew (S := (fun W => Block W w.heap.size 43 #[.slice (some ⟨b, off, none⟩) nL nL, .int .i64 ((nL : Int)), .slice Ao no co, .int .i64 most, .int .i64 11])) (by kernel_rfl) Y1 (fun hS => ?_)
        refine wpAnyH_take (i := 0) (oi := ⟨some 47, _, _, _, _, _⟩) (v := .int .i64 (0)) rfl (by kernel_rfl) (by kernel_rfl) (by kernel_rfl) (fun _ _ _ h => h) (Or.inl ⟨by rfl, fun W hW => by go_simp⟩) hS ?_
        try simp only [Act.put, List.setIfInBounds_toArray, List.set_cons_zero, List.set_cons_succ]
        refine wpAnyH_take (i := 1) (oi := ⟨some 48, _, _, _, _, _⟩) (v := .agg #[.slice (some ⟨b, off, none⟩) nL nL, .int .i64 ((nL : Int)), .slice Ao no co, .int .i64 most, .int .i64 11]) rfl (by kernel_rfl) (by kernel_rfl) (by kernel_rfl) (fun _ _ _ h => h) (yieldsIf_load_mid (by rfl) _ _ rfl (w.heap.size) (0) rfl [.slice (some ⟨b, off, none⟩) nL nL, .int .i64 ((nL : Int)), .slice Ao no co, .int .i64 most, .int .i64 11] _ (fun W hW => block_range (L := [.slice (some ⟨b, off, none⟩) nL nL, .int .i64 ((nL : Int)), .slice Ao no co, .int .i64 most, .int .i64 11]) hW) Tryd.underlying43 rfl (by kernel_rfl)) hS ?_
        try simp only [Act.put, List.setIfInBounds_toArray, List.set_cons_zero, List.set_cons_succ]
        refine wpAnyH_ready (rs := [2]) (by kernel_rfl) (by simp) ?_
        refine AllReadyH.cons rfl (fun K hK => ?_) AllReadyH.nil
        go_simp
        refine hK.out _ _ Z1 (fun hS => ?_)
        clear hK K
        try simp only [Act.put, List.setIfInBounds_toArray, List.set_cons_zero, List.set_cons_succ]
        refine wpAnyH_ready (rs := [3]) (by kernel_rfl) (by simp) ?_
        refine AllReadyH.cons rfl (fun K hK => ?_) AllReadyH.nil
        refine step_store_blk rfl _ _ _ rfl (cs := #[.slice none 0 0, .int .i64 0, .slice none 0 0, .int .i64 0, .int .i64 0]) (ds := [.slice (some ⟨b, off, none⟩) nL nL, .int .i64 ((nL : Int)), .slice Ao no co, .int .i64 most, .int .i64 11]) (by exact Z3) rfl rfl rfl (by kernel_rfl) (by intro u hu; simp only [List.mem_cons, List.not_mem_nil, or_false] at hu; rcases hu with rfl | rfl | rfl | rfl | rfl <;> rfl) ?_
        intro w9 Z9 g9
        have B9 := below_of_grown g9 Z5.size (fun x hx => by injection hx with hx; omega)
        refine hK.out _ _ (Z1.grown g9 (by intro h; injection h with h; omega)) (fun hS => ?_)
        clear hK K
        try simp only [Act.put, List.setIfInBounds_toArray, List.set_cons_zero, List.set_cons_succ]
        refine wpAnyH_done (by kernel_rfl) ?_ _
        go_wp2_with fail
        exact bodyPost_ret (v := .tuple #[.int .i64 (0), .agg #[.slice (some ⟨b, off, none⟩) nL nL, .int .i64 ((nL : Int)), .slice Ao no co, .int .i64 most, .int .i64 11]]) (results_tmp_row rfl _ _ (w.heap.size + 1 + 1) 43 _ (0, 0) _ _ rfl rfl Z9 Tryd.underlying43 rfl (by kernel_rfl)) rfl ⟨rfl, Z5.trans B9⟩
      · obtain rfl : m = nL - p := by omega
        have hC2 : ¬ cL = p := by omega
        clear hm hmin hA hC
        go_enter Tryd.func40, Tryd.ntmps40
        go_wp2_with fail
        have X3 := blocks3 w #[.slice (some ⟨b, off, none⟩) nL cL, .int .i64 (p : Int), .slice Ao no co, .int .i64 most, .int .i64 0] 43 #[.slice A1 l.length c1, .slice A2 l.length c2] 65 #[.slice none 0 0, .int .i64 0, .slice none 0 0, .int .i64 0, .int .i64 0] 43
        have B3 := B2.out (.cells #[.slice (some ⟨b, off, none⟩) nL cL, .int .i64 (p : Int), .slice Ao no co, .int .i64 most, .int .i64 0] 43) (.cells #[.slice A1 l.length c1, .slice A2 l.length c2] 65) (.cells #[.slice none 0 0, .int .i64 0, .slice none 0 0, .int .i64 0, .int .i64 0] 43)
        generalize ((w.alloc (.cells #[.slice (some ⟨b, off, none⟩) nL cL, .int .i64 (p : Int), .slice Ao no co, .int .i64 most, .int .i64 0] 43)).alloc (.cells #[.slice A1 l.length c1, .slice A2 l.length c2] 65)).alloc (.cells #[.slice none 0 0, .int .i64 0, .slice none 0 0, .int .i64 0, .int .i64 0] 43) = W3 at *
        obtain ⟨x1, x2, x3⟩ := X3
        have B4 : Below w.heap.size w W3.drew := below_draws B3 1
        refine wp_region_held_drew (S := (fun W' : World => W'.cell? ⟨w.heap.size, 0, none⟩ = some (.slice (some ⟨b, off, none⟩) nL cL) ∧ W'.cell? ⟨w.heap.size, 1, none⟩ = some (.int .i64 (p : Int)) ∧ W'.cell? ⟨w.heap.size + 1, 0, none⟩ = some (.slice A1 l.length c1) ∧ W'.cell? ⟨w.heap.size + 1, 1, none⟩ = some (.slice A2 l.length c2))) (by kernel_rfl) ⟨x1.cell 0, x1.cell 1, x2.cell 0, x2.cell 1⟩ (fun hS => ?_)
        refine wpAnyH_take (i := 0) (oi := ⟨some 22, _, _, _, _, _⟩) (v := .pointer (some ⟨w.heap.size + 1, 0, none⟩)) rfl (by kernel_rfl) (by kernel_rfl) (by kernel_rfl) (fun _ _ _ h => h) (Or.inl ⟨by rfl, fun W hW => by go_simp⟩) hS ?_
        try simp only [Act.put, List.setIfInBounds_toArray, List.set_cons_zero, List.set_cons_succ]
        refine wpAnyH_take (i := 2) (oi := ⟨some 24, _, _, _, _, _⟩) (v := .pointer (some ⟨w.heap.size + 1, 1, none⟩)) rfl (by kernel_rfl) (by kernel_rfl) (by kernel_rfl) (fun _ _ _ h => h) (Or.inl ⟨by rfl, fun W hW => by go_simp⟩) hS ?_
        try simp only [Act.put, List.setIfInBounds_toArray, List.set_cons_zero, List.set_cons_succ]
        refine wpAnyH_take (i := 4) (oi := ⟨some 26, _, _, _, _, _⟩) (v := .pointer (some ⟨w.heap.size, 0, none⟩)) rfl (by kernel_rfl) (by kernel_rfl) (by kernel_rfl) (fun _ _ _ h => h) (Or.inl ⟨by rfl, fun W hW => by go_simp⟩) hS ?_
        try simp only [Act.put, List.setIfInBounds_toArray, List.set_cons_zero, List.set_cons_succ]
        refine wpAnyH_take (i := 6) (oi := ⟨some 28, _, _, _, _, _⟩) (v := .pointer (some ⟨w.heap.size, 1, none⟩)) rfl (by kernel_rfl) (by kernel_rfl) (by kernel_rfl) (fun _ _ _ h => h) (Or.inl ⟨by rfl, fun W hW => by go_simp⟩) hS ?_
        try simp only [Act.put, List.setIfInBounds_toArray, List.set_cons_zero, List.set_cons_succ]
        refine wpAnyH_take (i := 8) (oi := ⟨some 30, _, _, _, _, _⟩) (v := .int .i64 ((nL : Int))) rfl (by kernel_rfl) (by kernel_rfl) (by kernel_rfl) (fun _ _ _ h => h) (Or.inl ⟨by rfl, fun W hW => by go_simp⟩) hS ?_
        try simp only [Act.put, List.setIfInBounds_toArray, List.set_cons_zero, List.set_cons_succ]
        refine wpAnyH_take (i := 1) (oi := ⟨some 23, _, _, _, _, _⟩) (v := .slice A1 l.length c1) rfl (by kernel_rfl) (by kernel_rfl) (by kernel_rfl) (fun _ _ _ h => h) (Or.inl ⟨by rfl, fun W hW => by have k1 := hW.2.2.1; go_simp⟩) hS ?_
        try simp only [Act.put, List.setIfInBounds_toArray, List.set_cons_zero, List.set_cons_succ]
        refine wpAnyH_take (i := 3) (oi := ⟨some 25, _, _, _, _, _⟩) (v := .slice A2 l.length c2) rfl (by kernel_rfl) (by kernel_rfl) (by kernel_rfl) (fun _ _ _ h => h) (Or.inl ⟨by rfl, fun W hW => by have k1 := hW.2.2.2; go_simp⟩) hS ?_
        try simp only [Act.put, List.setIfInBounds_toArray, List.set_cons_zero, List.set_cons_succ]
        refine wpAnyH_take (i := 5) (oi := ⟨some 27, _, _, _, _, _⟩) (v := .slice (some ⟨b, off, none⟩) nL cL) rfl (by kernel_rfl) (by kernel_rfl) (by kernel_rfl) (fun _ _ _ h => h) (Or.inl ⟨by rfl, fun W hW => by have k1 := hW.1; go_simp⟩) hS ?_
        try simp only [Act.put, List.setIfInBounds_toArray, List.set_cons_zero, List.set_cons_succ]
        refine wpAnyH_take (i := 7) (oi := ⟨some 29, _, _, _, _, _⟩) (v := .int .i64 (p : Int)) rfl (by kernel_rfl) (by kernel_rfl) (by kernel_rfl) (fun _ _ _ h => h) (Or.inl ⟨by rfl, fun W hW => by have k1 := hW.2.1; go_simp⟩) hS ?_
        try simp only [Act.put, List.setIfInBounds_toArray, List.set_cons_zero, List.set_cons_succ]
        refine wpAnyH_take (i := 9) (oi := ⟨some 31, _, _, _, _, _⟩) (v := .slice (some ⟨b, off + p, none⟩) (nL - p) (cL - p)) rfl (by kernel_rfl) (by kernel_rfl) (by kernel_rfl) (fun _ _ _ h => h) (Or.inl ⟨by rfl, fun W hW => by go_simp⟩) hS ?_
        try simp only [Act.put, List.setIfInBounds_toArray, List.set_cons_zero, List.set_cons_succ]
        refine wpAnyH_ready (rs := [10]) (by kernel_rfl) (by simp) ?_
        refine AllReadyH.cons rfl (fun K hK => ?_) AllReadyH.nil
        go_simp
        go_at_call 53
        with_reducible refine (GN.out _ _ B4).mono ?_
        rintro e w5 ⟨rfl, hb5⟩
        have y1 := (Block.drewN x1 1).below hb5 x1.lt
        have y2 := (Block.drewN x2 1).below hb5 x2.lt
        have y3 := (Block.drewN x3 1).below hb5 x3.lt
        have B5 := B4.trans (hb5.mono B4.size)
        clear x1 x2 x3 B3 B4 hb5
        refine hK.out _ _ ⟨y1.cell 0, y1.cell 1, y2.cell 0, y2.cell 1⟩ (fun hS => ?_)
        clear hK K
        try simp only [Act.put, List.setIfInBounds_toArray, List.set_cons_zero, List.set_cons_succ]
        refine wpAnyH_take (i := 11) (oi := ⟨some 21, _, _, _, _, _⟩) (v := .tuple #[.int .i64 (0), .int .i64 (0), .int .i64 (3)]) rfl (by kernel_rfl) (by kernel_rfl) (by kernel_rfl) (fun _ _ _ h => h) (Or.inl ⟨by rfl, fun W hW => by go_simp⟩) hS ?_
        try simp only [Act.put, List.setIfInBounds_toArray, List.set_cons_zero, List.set_cons_succ]
        refine wpAnyH_take (i := 12) (oi := ⟨some 33, _, _, _, _, _⟩) (v := .int .i64 (0)) rfl (by kernel_rfl) (by kernel_rfl) (by kernel_rfl) (fun _ _ _ h => h) (Or.inl ⟨by rfl, fun W hW => by go_simp⟩) hS ?_
        try simp only [Act.put, List.setIfInBounds_toArray, List.set_cons_zero, List.set_cons_succ]
        refine wpAnyH_take (i := 13) (oi := ⟨some 34, _, _, _, _, _⟩) (v := .int .i64 (0)) rfl (by kernel_rfl) (by kernel_rfl) (by kernel_rfl) (fun _ _ _ h => h) (Or.inl ⟨by rfl, fun W hW => by go_simp⟩) hS ?_
        try simp only [Act.put, List.setIfInBounds_toArray, List.set_cons_zero, List.set_cons_succ]
        refine wpAnyH_take (i := 14) (oi := ⟨some 35, _, _, _, _, _⟩) (v := .int .i64 (3)) rfl (by kernel_rfl) (by kernel_rfl) (by kernel_rfl) (fun _ _ _ h => h) (Or.inl ⟨by rfl, fun W hW => by go_simp⟩) hS ?_
        try simp only [Act.put, List.setIfInBounds_toArray, List.set_cons_zero, List.set_cons_succ]
        refine wpAnyH_ready (rs := [15]) (by kernel_rfl) (by simp) ?_
        refine AllReadyH.cons rfl (fun K hK => ?_) AllReadyH.nil
        go_simp
        refine hK.out _ _ hS (fun hS => ?_)
        clear hK K
        try simp only [Act.put, List.setIfInBounds_toArray, List.set_cons_zero, List.set_cons_succ]
        refine wpAnyH_ready (rs := [16]) (by kernel_rfl) (by simp) ?_
        refine AllReadyH.cons rfl (fun K hK => ?_) AllReadyH.nil
        go_simp
        refine hK.out _ _ hS (fun hS => ?_)
        clear hK K
        try simp only [Act.put, List.setIfInBounds_toArray, List.set_cons_zero, List.set_cons_succ]
        refine wpAnyH_ready (rs := [17]) (by kernel_rfl) (by simp) ?_
        refine AllReadyH.cons rfl (fun K hK => ?_) AllReadyH.nil
        go_simp
        refine hK.out _ _ hS (fun hS => ?_)
        clear hK K
        try simp only [Act.put, List.setIfInBounds_toArray, List.set_cons_zero, List.set_cons_succ]
        refine wpAnyH_done (by kernel_rfl) ?_ _
        have k1 := y1.cell 1
        have k4 := y1.cell 4
        have f1 := y1.frozen 1
        have f4 := y1.frozen 4
        go_wp2_with fail
        have Y1 := y1
        have Y3 := y3
        have Y5 := B5
        have Y1 := Y1.set_ 4 (.int .i64 (11))
        have Y3 := Y3.far (p := ⟨w.heap.size, 4, none⟩) (by simp only; omega) (.int .i64 (11))
        have Y5 := Y5.setCell (p := ⟨w.heap.size, 4, none⟩) (Nat.le_refl _) (.int .i64 (11))
        have Y1 := Y1.set_ 1 (.int .i64 ((p : Int)))
        have Y3 := Y3.far (p := ⟨w.heap.size, 1, none⟩) (by simp only; omega) (.int .i64 ((p : Int)))
        have Y5 := Y5.setCell (p := ⟨w.heap.size, 1, none⟩) (Nat.le_refl _) (.int .i64 ((p : Int)))
        simp only [List.setIfInBounds_toArray, List.set_cons_zero, List.set_cons_succ] at Y1
        generalize (World.setCell (World.setCell w5 ⟨w.heap.size, 4, none⟩ (Value.int .i64 (11))) ⟨w.heap.size, 1, none⟩ (Value.int .i64 ((p : Int)))) = w6 at *
        clear k1 k4 f1 f4 y1 y2 y3 B5
        have Z1 : Block w6.drew w.heap.size 43 #[.slice (some ⟨b, off, none⟩) nL cL, .int .i64 ((p : Int)), .slice Ao no co, .int .i64 most, .int .i64 11] := Block.drewN Y1 1
        have Z3 := Block.drewN Y3 1
        have Z5 : Below w.heap.size w w6.drew := below_draws Y5 1
        refine wp_region_held_drew (S := (fun W => Block W w.heap.size 43 #[.slice (some ⟨b, off, none⟩) nL cL, .int .i64 ((p : Int)), .slice Ao no co, .int .i64 most, .int .i64 11])) (by kernel_rfl) Y1 (fun hS => ?_)
        refine wpAnyH_take (i := 0) (oi := ⟨some 47, _, _, _, _, _⟩) (v := .int .i64 (0)) rfl (by kernel_rfl) (by kernel_rfl) (by kernel_rfl) (fun _ _ _ h => h) (Or.inl ⟨by rfl, fun W hW => by go_simp⟩) hS ?_
        try simp only [Act.put, List.setIfInBounds_toArray, List.set_cons_zero, List.set_cons_succ]
        refine wpAnyH_take (i := 1) (oi := ⟨some 48, _, _, _, _, _⟩) (v := .agg #[.slice (some ⟨b, off, none⟩) nL cL, .int .i64 ((p : Int)), .slice Ao no co, .int .i64 most, .int .i64 11]) rfl (by kernel_rfl) (by kernel_rfl) (by kernel_rfl) (fun _ _ _ h => h) (yieldsIf_load_mid (by rfl) _ _ rfl (w.heap.size) (0) rfl [.slice (some ⟨b, off, none⟩) nL cL, .int .i64 ((p : Int)), .slice Ao no co, .int .i64 most, .int .i64 11] _ (fun W hW => block_range (L := [.slice (some ⟨b, off, none⟩) nL cL, .int .i64 ((p : Int)), .slice Ao no co, .int .i64 most, .int .i64 11]) hW) Tryd.underlying43 rfl (by kernel_rfl)) hS ?_
        try simp only [Act.put, List.setIfInBounds_toArray, List.set_cons_zero, List.set_cons_succ]
        refine wpAnyH_ready (rs := [2]) (by kernel_rfl) (by simp) ?_
        refine AllReadyH.cons rfl (fun K hK => ?_) AllReadyH.nil
        go_simp
        refine hK.out _ _ Z1 (fun hS => ?_)
        clear hK K
        try simp only [Act.put, List.setIfInBounds_toArray, List.set_cons_zero, List.set_cons_succ]
        refine wpAnyH_ready (rs := [3]) (by kernel_rfl) (by simp) ?_
        refine AllReadyH.cons rfl (fun K hK => ?_) AllReadyH.nil
        refine step_store_blk rfl _ _ _ rfl (cs := #[.slice none 0 0, .int .i64 0, .slice none 0 0, .int .i64 0, .int .i64 0]) (ds := [.slice (some ⟨b, off, none⟩) nL cL, .int .i64 ((p : Int)), .slice Ao no co, .int .i64 most, .int .i64 11]) (by exact Z3) rfl rfl rfl (by kernel_rfl) (by intro u hu; simp only [List.mem_cons, List.not_mem_nil, or_false] at hu; rcases hu with rfl | rfl | rfl | rfl | rfl <;> rfl) ?_
        intro w9 Z9 g9
        have B9 := below_of_grown g9 Z5.size (fun x hx => by injection hx with hx; omega)
        refine hK.out _ _ (Z1.grown g9 (by intro h; injection h with h; omega)) (fun hS => ?_)
        clear hK K
        try simp only [Act.put, List.setIfInBounds_toArray, List.set_cons_zero, List.set_cons_succ]
        refine wpAnyH_done (by kernel_rfl) ?_ _
        go_wp2_with fail
        exact bodyPost_ret (v := .tuple #[.int .i64 (0), .agg #[.slice (some ⟨b, off, none⟩) nL cL, .int .i64 ((p : Int)), .slice Ao no co, .int .i64 most, .int .i64 11]]) (results_tmp_row rfl _ _ (w.heap.size + 1 + 1) 43 _ (0, 0) _ _ rfl rfl Z9 Tryd.underlying43 rfl (by kernel_rfl)) rfl ⟨rfl, Z5.trans B9⟩
    · have hA2 : ¬ (nL : Int) ≤ (p : Int) + 15 := by omega
      have hC2 : ¬ cL = p := by omega
      obtain rfl : m = 15 := by omega
      clear hm hmin hA
      go_enter Tryd.func40, Tryd.ntmps40
      go_wp2_with fail
      have X3 := blocks3 w #[.slice (some ⟨b, off, none⟩) nL cL, .int .i64 (p : Int), .slice Ao no co, .int .i64 most, .int .i64 0] 43 #[.slice A1 l.length c1, .slice A2 l.length c2] 65 #[.slice none 0 0, .int .i64 0, .slice none 0 0, .int .i64 0, .int .i64 0] 43
      have B3 := B2.out (.cells #[.slice (some ⟨b, off, none⟩) nL cL, .int .i64 (p : Int), .slice Ao no co, .int .i64 most, .int .i64 0] 43) (.cells #[.slice A1 l.length c1, .slice A2 l.length c2] 65) (.cells #[.slice none 0 0, .int .i64 0, .slice none 0 0, .int .i64 0, .int .i64 0] 43)
      generalize ((w.alloc (.cells #[.slice (some ⟨b, off, none⟩) nL cL, .int .i64 (p : Int), .slice Ao no co, .int .i64 most, .int .i64 0] 43)).alloc (.cells #[.slice A1 l.length c1, .slice A2 l.length c2] 65)).alloc (.cells #[.slice none 0 0, .int .i64 0, .slice none 0 0, .int .i64 0, .int .i64 0] 43) = W3 at *
      obtain ⟨x1, x2, x3⟩ := X3
      have B4 : Below w.heap.size w W3.drew := below_draws B3 1
      refine wp_region_held_drew (S := (fun W' : World => W'.cell? ⟨w.heap.size, 0, none⟩ = some (.slice (some ⟨b, off, none⟩) nL cL) ∧ W'.cell? ⟨w.heap.size, 1, none⟩ = some (.int .i64 (p : Int)) ∧ W'.cell? ⟨w.heap.size + 1, 0, none⟩ = some (.slice A1 l.length c1) ∧ W'.cell? ⟨w.heap.size + 1, 1, none⟩ = some (.slice A2 l.length c2))) (by kernel_rfl) ⟨x1.cell 0, x1.cell 1, x2.cell 0, x2.cell 1⟩ (fun hS => ?_)
      refine wpAnyH_take (i := 0) (oi := ⟨some 22, _, _, _, _, _⟩) (v := .pointer (some ⟨w.heap.size + 1, 0, none⟩)) rfl (by kernel_rfl) (by kernel_rfl) (by kernel_rfl) (fun _ _ _ h => h) (Or.inl ⟨by rfl, fun W hW => by go_simp⟩) hS ?_
      try simp only [Act.put, List.setIfInBounds_toArray, List.set_cons_zero, List.set_cons_succ]
      refine wpAnyH_take (i := 2) (oi := ⟨some 24, _, _, _, _, _⟩) (v := .pointer (some ⟨w.heap.size + 1, 1, none⟩)) rfl (by kernel_rfl) (by kernel_rfl) (by kernel_rfl) (fun _ _ _ h => h) (Or.inl ⟨by rfl, fun W hW => by go_simp⟩) hS ?_
      try simp only [Act.put, List.setIfInBounds_toArray, List.set_cons_zero, List.set_cons_succ]
      refine wpAnyH_take (i := 4) (oi := ⟨some 26, _, _, _, _, _⟩) (v := .pointer (some ⟨w.heap.size, 0, none⟩)) rfl (by kernel_rfl) (by kernel_rfl) (by kernel_rfl) (fun _ _ _ h => h) (Or.inl ⟨by rfl, fun W hW => by go_simp⟩) hS ?_
      try simp only [Act.put, List.setIfInBounds_toArray, List.set_cons_zero, List.set_cons_succ]
      refine wpAnyH_take (i := 6) (oi := ⟨some 28, _, _, _, _, _⟩) (v := .pointer (some ⟨w.heap.size, 1, none⟩)) rfl (by kernel_rfl) (by kernel_rfl) (by kernel_rfl) (fun _ _ _ h => h) (Or.inl ⟨by rfl, fun W hW => by go_simp⟩) hS ?_
      try simp only [Act.put, List.setIfInBounds_toArray, List.set_cons_zero, List.set_cons_succ]
      refine wpAnyH_take (i := 8) (oi := ⟨some 30, _, _, _, _, _⟩) (v := .int .i64 ((p : Int) + 15)) rfl (by kernel_rfl) (by kernel_rfl) (by kernel_rfl) (fun _ _ _ h => h) (Or.inl ⟨by rfl, fun W hW => by go_simp⟩) hS ?_
      try simp only [Act.put, List.setIfInBounds_toArray, List.set_cons_zero, List.set_cons_succ]
      refine wpAnyH_take (i := 1) (oi := ⟨some 23, _, _, _, _, _⟩) (v := .slice A1 l.length c1) rfl (by kernel_rfl) (by kernel_rfl) (by kernel_rfl) (fun _ _ _ h => h) (Or.inl ⟨by rfl, fun W hW => by have k1 := hW.2.2.1; go_simp⟩) hS ?_
      try simp only [Act.put, List.setIfInBounds_toArray, List.set_cons_zero, List.set_cons_succ]
      refine wpAnyH_take (i := 3) (oi := ⟨some 25, _, _, _, _, _⟩) (v := .slice A2 l.length c2) rfl (by kernel_rfl) (by kernel_rfl) (by kernel_rfl) (fun _ _ _ h => h) (Or.inl ⟨by rfl, fun W hW => by have k1 := hW.2.2.2; go_simp⟩) hS ?_
      try simp only [Act.put, List.setIfInBounds_toArray, List.set_cons_zero, List.set_cons_succ]
      refine wpAnyH_take (i := 5) (oi := ⟨some 27, _, _, _, _, _⟩) (v := .slice (some ⟨b, off, none⟩) nL cL) rfl (by kernel_rfl) (by kernel_rfl) (by kernel_rfl) (fun _ _ _ h => h) (Or.inl ⟨by rfl, fun W hW => by have k1 := hW.1; go_simp⟩) hS ?_
      try simp only [Act.put, List.setIfInBounds_toArray, List.set_cons_zero, List.set_cons_succ]
      refine wpAnyH_take (i := 7) (oi := ⟨some 29, _, _, _, _, _⟩) (v := .int .i64 (p : Int)) rfl (by kernel_rfl) (by kernel_rfl) (by kernel_rfl) (fun _ _ _ h => h) (Or.inl ⟨by rfl, fun W hW => by have k1 := hW.2.1; go_simp⟩) hS ?_
      try simp only [Act.put, List.setIfInBounds_toArray, List.set_cons_zero, List.set_cons_succ]
      refine wpAnyH_take (i := 9) (oi := ⟨some 31, _, _, _, _, _⟩) (v := .slice (some ⟨b, off + p, none⟩) (15) (cL - p)) rfl (by kernel_rfl) (by kernel_rfl) (by kernel_rfl) (fun _ _ _ h => h) (Or.inl ⟨by rfl, fun W hW => by go_simp; rw [if_pos (by omega), if_pos (by omega), show ((p : Int) + 15).toNat - p = 15 by omega]⟩) hS ?_
      try simp only [Act.put, List.setIfInBounds_toArray, List.set_cons_zero, List.set_cons_succ]
      refine wpAnyH_ready (rs := [10]) (by kernel_rfl) (by simp) ?_
      refine AllReadyH.cons rfl (fun K hK => ?_) AllReadyH.nil
      go_simp
      go_at_call 53
      with_reducible refine (GN.out _ _ B4).mono ?_
      rintro e w5 ⟨rfl, hb5⟩
      have y1 := (Block.drewN x1 1).below hb5 x1.lt
      have y2 := (Block.drewN x2 1).below hb5 x2.lt
      have y3 := (Block.drewN x3 1).below hb5 x3.lt
      have B5 := B4.trans (hb5.mono B4.size)
      clear x1 x2 x3 B3 B4 hb5
      refine hK.out _ _ ⟨y1.cell 0, y1.cell 1, y2.cell 0, y2.cell 1⟩ (fun hS => ?_)
      clear hK K
      try simp only [Act.put, List.setIfInBounds_toArray, List.set_cons_zero, List.set_cons_succ]
      refine wpAnyH_take (i := 11) (oi := ⟨some 21, _, _, _, _, _⟩) (v := .tuple #[.int .i64 (0), .int .i64 (0), .int .i64 (3)]) rfl (by kernel_rfl) (by kernel_rfl) (by kernel_rfl) (fun _ _ _ h => h) (Or.inl ⟨by rfl, fun W hW => by go_simp⟩) hS ?_
      try simp only [Act.put, List.setIfInBounds_toArray, List.set_cons_zero, List.set_cons_succ]
      refine wpAnyH_take (i := 12) (oi := ⟨some 33, _, _, _, _, _⟩) (v := .int .i64 (0)) rfl (by kernel_rfl) (by kernel_rfl) (by kernel_rfl) (fun _ _ _ h => h) (Or.inl ⟨by rfl, fun W hW => by go_simp⟩) hS ?_
      try simp only [Act.put, List.setIfInBounds_toArray, List.set_cons_zero, List.set_cons_succ]
      refine wpAnyH_take (i := 13) (oi := ⟨some 34, _, _, _, _, _⟩) (v := .int .i64 (0)) rfl (by kernel_rfl) (by kernel_rfl) (by kernel_rfl) (fun _ _ _ h => h) (Or.inl ⟨by rfl, fun W hW => by go_simp⟩) hS ?_
      try simp only [Act.put, List.setIfInBounds_toArray, List.set_cons_zero, List.set_cons_succ]
      refine wpAnyH_take (i := 14) (oi := ⟨some 35, _, _, _, _, _⟩) (v := .int .i64 (3)) rfl (by kernel_rfl) (by kernel_rfl) (by kernel_rfl) (fun _ _ _ h => h) (Or.inl ⟨by rfl, fun W hW => by go_simp⟩) hS ?_
      try simp only [Act.put, List.setIfInBounds_toArray, List.set_cons_zero, List.set_cons_succ]
      refine wpAnyH_ready (rs := [15]) (by kernel_rfl) (by simp) ?_
      refine AllReadyH.cons rfl (fun K hK => ?_) AllReadyH.nil
      go_simp
      refine hK.out _ _ hS (fun hS => ?_)
      clear hK K
      try simp only [Act.put, List.setIfInBounds_toArray, List.set_cons_zero, List.set_cons_succ]
      refine wpAnyH_ready (rs := [16]) (by kernel_rfl) (by simp) ?_
      refine AllReadyH.cons rfl (fun K hK => ?_) AllReadyH.nil
      go_simp
      refine hK.out _ _ hS (fun hS => ?_)
      clear hK K
      try simp only [Act.put, List.setIfInBounds_toArray, List.set_cons_zero, List.set_cons_succ]
      refine wpAnyH_ready (rs := [17]) (by kernel_rfl) (by simp) ?_
      refine AllReadyH.cons rfl (fun K hK => ?_) AllReadyH.nil
      go_simp
      refine hK.out _ _ hS (fun hS => ?_)
      clear hK K
      try simp only [Act.put, List.setIfInBounds_toArray, List.set_cons_zero, List.set_cons_succ]
      refine wpAnyH_done (by kernel_rfl) ?_ _
      have k1 := y1.cell 1
      have k4 := y1.cell 4
      have f1 := y1.frozen 1
      have f4 := y1.frozen 4
      go_wp2_with fail
      have Y1 := y1
      have Y3 := y3
      have Y5 := B5
      have Y1 := Y1.set_ 4 (.int .i64 (11))
      have Y3 := Y3.far (p := ⟨w.heap.size, 4, none⟩) (by simp only; omega) (.int .i64 (11))
      have Y5 := Y5.setCell (p := ⟨w.heap.size, 4, none⟩) (Nat.le_refl _) (.int .i64 (11))
      have Y1 := Y1.set_ 1 (.int .i64 ((p : Int)))
      have Y3 := Y3.far (p := ⟨w.heap.size, 1, none⟩) (by simp only; omega) (.int .i64 ((p : Int)))
      have Y5 := Y5.setCell (p := ⟨w.heap.size, 1, none⟩) (Nat.le_refl _) (.int .i64 ((p : Int)))
      simp only [List.setIfInBounds_toArray, List.set_cons_zero, List.set_cons_succ] at Y1
      generalize (World.setCell (World.setCell w5 ⟨w.heap.size, 4, none⟩ (Value.int .i64 (11))) ⟨w.heap.size, 1, none⟩ (Value.int .i64 ((p : Int)))) = w6 at *
      clear k1 k4 f1 f4 y1 y2 y3 B5
      have Z1 : Block w6.drew w.heap.size 43 #[.slice (some ⟨b, off, none⟩) nL cL, .int .i64 ((p : Int)), .slice Ao no co, .int .i64 most, .int .i64 11] := Block.drewN Y1 1
      have Z3 := Block.drewN Y3 1
      have Z5 : Below w.heap.size w w6.drew := below_draws Y5 1
      refine wp_region_held_drew (S := (fun W => Block W w.heap.size 43 #[.slice (some ⟨b, off, none⟩) nL cL, .int .i64 ((p : Int)), .slice Ao no co, .int .i64 most, .int .i64 11])) (by kernel_rfl) Y1 (fun hS => ?_)
      refine wpAnyH_take (i := 0) (oi := ⟨some 47, _, _, _, _, _⟩) (v := .int .i64 (0)) rfl (by kernel_rfl) (by kernel_rfl) (by kernel_rfl) (fun _ _ _ h => h) (Or.inl ⟨by rfl, fun W hW => by go_simp⟩) hS ?_
      try simp only [Act.put, List.setIfInBounds_toArray, List.set_cons_zero, List.set_cons_succ]
      refine wpAnyH_take (i := 1) (oi := ⟨some 48, _, _, _, _, _⟩) (v := .agg #[.slice (some ⟨b, off, none⟩) nL cL, .int .i64 ((p : Int)), .slice Ao no co, .int .i64 most, .int .i64 11]) rfl (by kernel_rfl) (by kernel_rfl) (by kernel_rfl) (fun _ _ _ h => h) (yieldsIf_load_mid (by rfl) _ _ rfl (w.heap.size) (0) rfl [.slice (some ⟨b, off, none⟩) nL cL, .int .i64 ((p : Int)), .slice Ao no co, .int .i64 most, .int .i64 11] _ (fun W hW => block_range (L := [.slice (some ⟨b, off, none⟩) nL cL, .int .i64 ((p : Int)), .slice Ao no co, .int .i64 most, .int .i64 11]) hW) Tryd.underlying43 rfl (by kernel_rfl)) hS ?_
      try simp only [Act.put, List.setIfInBounds_toArray, List.set_cons_zero, List.set_cons_succ]
      refine wpAnyH_ready (rs := [2]) (by kernel_rfl) (by simp) ?_
      refine AllReadyH.cons rfl (fun K hK => ?_) AllReadyH.nil
      go_simp
      refine hK.out _ _ Z1 (fun hS => ?_)
      clear hK K
      try simp only [Act.put, List.setIfInBounds_toArray, List.set_cons_zero, List.set_cons_succ]
      refine wpAnyH_ready (rs := [3]) (by kernel_rfl) (by simp) ?_
      refine AllReadyH.cons rfl (fun K hK => ?_) AllReadyH.nil
      refine step_store_blk rfl _ _ _ rfl (cs := #[.slice none 0 0, .int .i64 0, .slice none 0 0, .int .i64 0, .int .i64 0]) (ds := [.slice (some ⟨b, off, none⟩) nL cL, .int .i64 ((p : Int)), .slice Ao no co, .int .i64 most, .int .i64 11]) (by exact Z3) rfl rfl rfl (by kernel_rfl) (by intro u hu; simp only [List.mem_cons, List.not_mem_nil, or_false] at hu; rcases hu with rfl | rfl | rfl | rfl | rfl <;> rfl) ?_
      intro w9 Z9 g9
      have B9 := below_of_grown g9 Z5.size (fun x hx => by injection hx with hx; omega)
      refine hK.out _ _ (Z1.grown g9 (by intro h; injection h with h; omega)) (fun hS => ?_)
      clear hK K
      try simp only [Act.put, List.setIfInBounds_toArray, List.set_cons_zero, List.set_cons_succ]
      refine wpAnyH_done (by kernel_rfl) ?_ _
      go_wp2_with fail
      exact bodyPost_ret (v := .tuple #[.int .i64 (0), .agg #[.slice (some ⟨b, off, none⟩) nL cL, .int .i64 ((p : Int)), .slice Ao no co, .int .i64 most, .int .i64 11]]) (results_tmp_row rfl _ _ (w.heap.size + 1 + 1) 43 _ (0, 0) _ _ rfl rfl Z9 Tryd.underlying43 rfl (by kernel_rfl)) rfl ⟨rfl, Z5.trans B9⟩
end Go.Proofs.YthflefdchgpbdaaDoor.Inf
