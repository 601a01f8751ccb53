/-
  Layer 13, inflate: the document's matches: a contract. Conditions: as each theorem names.
-/
import Derived.Test.YthflefdchgpbdaaDoorMIrF
import Derived.Test.YthflefdchgpbdaaDoorMDfS
import Derived.Test.YthflefdchgpbdaaDoorMInD
namespace Go.Proofs.YthflefdchgpbdaaDoor.Inf
open Go.ChangeShapes Go.WideShapes Go.ChangeAt Go.RowKit Go.Proofs.YthflefdchgpbdaaDoor.Kit Go.Proofs.YthflefdchgpbdaaDoor.Bits Go.Proofs.YthflefdchgpbdaaDoor.Huf Go.Proofs.YthflefdchgpbdaaDoor.Df

/-- How the document reads a match. -/
structure MatchD (ds b : List Int) (most : Int) (d d1 d2 d3 d4 d5 d6 d7 : DS) (x k dd j : Int) : Prop where
  h1 : failD (decide (28 < x)) 11 d = d1
  h2 : numD (lmore x).toNat b d1 = (k, d2)
  h3 : symD ds b d2 = (dd, d3)
  h4 : failD (decide (29 < dd)) 11 d3 = d4
  h5 : numD (dmore dd).toNat b d4 = (j, d5)
  h6 : failD (decide ((d.out.length : Int) < dists.getD dd.toNat 0 + j)) 11 d5 = d6
  h7 : failD (decide (most - d.out.length < lens.getD x.toNat 0 + k)) 12 d6 = d7
theorem MatchD.early {ds b : List Int} {most : Int} {d d1 d2 d3 d4 d5 d6 d7 : DS} {x k dd j : Int} (h : MatchD ds b most d d1 d2 d3 d4 d5 d6 d7 x k dd j) : (d1.e ≠ 0 → d7 = d1) ∧ (d4.e ≠ 0 → d7 = d4) := by
  have e4 : d4.e ≠ 0 → d7 = d4 := fun e => by
    have e5 := (num_err h.h5 e).2
    have h6 := h.h6
    have h7 := h.h7
    rw [e5] at h6
    rw [fail_err h6 e] at h7
    exact fail_err h7 e
  refine ⟨fun e => ?_, e4⟩
  have e2 := (num_err h.h2 e).2
  have h3 := h.h3
  rw [e2] at h3
  have e3 := (sym_err h3 e).2
  have h4 := h.h4
  rw [e3] at h4
  have e44 := fail_err h4 e
  rw [e44] at e4
  exact e4 e
theorem lens_bd : ∀ k, k < 29 → 3 ≤ lens.getD k 0 ∧ lens.getD k 0 ≤ 258 ∧ 0 ≤ lmore (k : Int) ∧ lmore (k : Int) ≤ 5 := by decide
theorem dists_bd : ∀ k, k < 30 → 1 ≤ dists.getD k 0 ∧ dists.getD k 0 ≤ 24577 ∧ 0 ≤ dmore (k : Int) ∧ dmore (k : Int) ≤ 13 := by decide
def matchEnd (d7 : DS) (out : List Int) (n far : Int) : DS := if d7.e ≠ 0 then d7 else { d7 with out := rep out n.toNat far.toNat }
set_option maxRecDepth 100000 in
set_option maxHeartbeats 6400000 in
theorem rmatch_any (A1 A2 : Option Addr) (l : List Int) (c1 c2 : Nat) (AL : Option Addr) (bits : List Int) (cL : Nat) (Ao : Option Addr) (co : Nat) (most : Int) (d d1 d2 d3 d4 d5 d6 d7 : DS) (kx : Nat) (k dd j : Int) (w : World) (hh : MatchD l bits most d d1 d2 d3 d4 d5 d6 d7 (kx : Int) k dd j) (he : d.e = 0) (hp : d.p ≤ bits.length)
    (hx : kx ≤ 1000) (hol : d.out.length ≤ 1000000) (hmo : 0 ≤ most ∧ most ≤ 1000000) (o : Own w 0 5 .u8 (.slice Ao d.out.length co) d.out) (r : Rx w AL bits cL) (f : ∀ a, AL = some a → (Value.slice Ao d.out.length co).ownBlock ≠ some a.block)
    (T : Cx9 w A1 l A2) (tf : 0 < l.length → (∀ a, A1 = some a → (Value.slice Ao d.out.length co).ownBlock ≠ some a.block) ∧ (∀ a, A2 = some a → (Value.slice Ao d.out.length co).ownBlock ≠ some a.block)) :
    Calls Tryd.prog 41 #[.agg #[.slice AL bits.length cL, .int .i64 (d.p : Int), .slice Ao d.out.length co, .int .i64 most, .int .i64 d.e], .int .i64 (257 + (kx : Int)), .agg #[.slice A1 l.length c1, .slice A2 l.length c2]] w
      (SOut AL bits cL most (.slice Ao d.out.length co) (matchEnd d7 d.out (lens.getD kx 0 + k) (dists.getD dd.toNat 0 + j)) w) := by
  have hE := hh.early
  obtain ⟨h1, h2, h3, h4, h5, h6, h7⟩ := hh
  rw [Int.toNat_natCast] at h7
  obtain ⟨LN, hLN⟩ : ∃ LN, lens.getD kx 0 = LN := ⟨_, rfl⟩
  obtain ⟨DN, hDN⟩ : ∃ DN, dists.getD dd.toNat 0 = DN := ⟨_, rfl⟩
  rw [hLN] at h7 ⊢
  rw [hDN] at h6 ⊢
  have HLN := Lib.hid hLN
  have HDN := Lib.hid hDN
  clear hLN hDN
  have hM := r.m
  have hB := r.b
  have q1 := failD_le (decide (28 < (kx : Int))) 11 d
  rw [h1] at q1
  have hp1 : d1.p ≤ bits.length := by rw [q1.1]; exact hp
  have q2 := numD_le (k := (lmore (kx : Int)).toNat) (b := bits) hp1
  have b2 := numD_bd (k := (lmore (kx : Int)).toNat) hB hp1
  rw [h2] at q2 b2
  simp only at q2 b2
  have q3 := symD_le (l := l) (b := bits) q2.1
  rw [h3] at q3
  simp only at q3
  have q4 := failD_le (decide (29 < dd)) 11 d3
  rw [h4] at q4
  have hp4 : d4.p ≤ bits.length := by rw [q4.1]; exact q3.1
  have q5 := numD_le (k := (dmore dd).toNat) (b := bits) hp4
  have b5 := numD_bd (k := (dmore dd).toNat) hB hp4
  rw [h5] at q5 b5
  simp only at q5 b5
  have q6 := failD_le (decide ((d.out.length : Int) < DN + j)) 11 d5
  rw [h6] at q6
  have q7 := failD_le (decide (most - d.out.length < LN + k)) 12 d6
  rw [h7] at q7
  have G1 := Lib.hid (fun W => by
    have := refuse_lit AL bits cL Ao d.out.length co most d W (decide (285 < 257 + (kx : Int))) 11
    have e1 : failD (decide (285 < 257 + (kx : Int))) 11 d = d1 := by rw [show decide (285 < 257 + (kx : Int)) = decide (28 < (kx : Int)) from decide_eq_decide.2 (by omega)]; exact h1
    rw [e1] at this
    exact this)
  have G2 := Lib.hid (fun W R (M : Nat) (hm : lmore (kx : Int) = (M : Int)) (h32 : M ≤ 32) => by
    have := get_lit AL bits cL Ao d.out.length co most d1 W M R h32 hp1
    have h2' := h2
    rw [hm, Int.toNat_natCast] at h2'
    rw [h2'] at this
    exact this)
  have G3 := Lib.hid (fun W R T => by have := next_lit AL bits cL Ao d.out.length co most d2 W A1 A2 l c1 c2 R T q2.1; rw [h3] at this; exact this)
  have G4 := Lib.hid (fun W => by have := refuse_lit AL bits cL Ao d.out.length co most d3 W (decide (29 < dd)) 11; rw [h4] at this; exact this)
  have G5 := Lib.hid (fun W R (M : Nat) (hm : dmore dd = (M : Int)) (h32 : M ≤ 32) => by
    have := get_lit AL bits cL Ao d.out.length co most d4 W M R h32 hp4
    have h5' := h5
    rw [hm, Int.toNat_natCast] at h5'
    rw [h5'] at this
    exact this)
  have G6 := Lib.hid (fun W => by have := refuse_lit AL bits cL Ao d.out.length co most d5 W (decide ((d.out.length : Int) < DN + j)) 11; rw [h6] at this; exact this)
  have G7 := Lib.hid (fun W => by have := refuse_lit AL bits cL Ao d.out.length co most d6 W (decide (most - d.out.length < LN + k)) 12; rw [h7] at this; exact this)
  have HT := Lib.hid (fun W (t : TurnsIn (fun b => (Value.slice Ao d.out.length co).ownBlock = some b) w W) => T.turn t (fun hl => ⟨(tf hl).1, (tf hl).2⟩))
  have E1 : Hid ({ d1 with out := d.out } = d1) := Lib.hid (by rw [← q1.2])
  have E4 : Hid ({ d4 with out := d.out } = d4) := Lib.hid (by rw [show d.out = d4.out by rw [q4.2, q3.2, q2.2, q1.2]])
  have E7 : Hid ({ d7 with out := d.out } = d7) := Lib.hid (by rw [show d.out = d7.out by rw [q7.2, q6.2, q5.2, q4.2, q3.2, q2.2, q1.2]])
  have HE := Lib.hid hE
  have HB := Lib.hid (And.intro b2 b5)
  have J0 := So.start3 (most := most) (A1 := A1) (n1 := l.length) (c1 := c1) (A2 := A2) (c2 := c2) o r f
  have HX1 : Hid (d1.e = 0 → kx ≤ 28) := Lib.hid (fun e => by
    by_cases c : 28 < kx
    · rw [decide_eq_true (by omega : 28 < (kx : Int))] at h1
      unfold failD at h1
      rw [if_pos ⟨rfl, he⟩] at h1
      subst h1
      exact absurd e (by simp)
    · omega)
  have HX4 : Hid (d4.e = 0 → dd ≤ 29 ∧ 0 ≤ dd) := Lib.hid (fun e => by
    have e3 : d3.e = 0 := by
      by_cases c : d3.e = 0
      · exact c
      · rw [fail_err h4 c] at e
        exact absurd e c
    refine ⟨?_, ?_⟩
    · by_cases c : 29 < dd
      · rw [decide_eq_true c] at h4
        unfold failD at h4
        rw [if_pos ⟨rfl, e3⟩] at h4
        subst h4
        exact absurd e (by simp)
      · omega
    · unfold symD at h3
      split at h3
      · injection h3 with a b
        omega
      · split at h3
        · rename_i ht
          injection h3 with a b
          have := told_lt T.m T.o (fun y hy => hB y (List.mem_of_mem_drop hy)) ht
          omega
        · injection h3 with a b
          omega
        · injection h3 with a b
          omega)
  have HX7 : Hid (d7.e = 0 → DN + j ≤ (d.out.length : Int)) := Lib.hid (fun e => by
    have e6 : d6.e = 0 := by
      by_cases c : d6.e = 0
      · exact c
      · rw [fail_err h7 c] at e
        exact absurd e c
    have e5 : d5.e = 0 := by
      by_cases c : d5.e = 0
      · exact c
      · rw [fail_err h6 c] at e6
        exact absurd e6 c
    by_cases c : (d.out.length : Int) < DN + j
    · rw [decide_eq_true c] at h6
      unfold failD at h6
      rw [if_pos ⟨rfl, e5⟩] at h6
      subst h6
      exact absurd e6 (by simp)
    · omega)
  obtain ⟨D, hD⟩ : ∃ D, matchEnd d7 d.out (LN + k) (DN + j) = D := ⟨_, rfl⟩
  rw [hD]
  have HDD := Lib.hid hD
  clear hD
  clear he h1 h2 h3 h4 h5 h6 h7 q1 q2 q3 q4 q5 q6 q7 b2 b5 hp1 hp4 hE o r f T tf
  go_enter Tryd.func41, Tryd.ntmps41
  go_upto_region 1 with fail
  generalize (World.alloc (World.alloc (World.alloc w (Obj.cells #[.slice AL bits.length cL, .int .i64 (d.p : Int), .slice Ao d.out.length co, .int .i64 most, .int .i64 d.e] 43)) (Obj.cells #[.slice A1 l.length c1, .slice A2 l.length c2] 65)) (Obj.cells #[.slice none 0 0, .int .i64 0, .slice none 0 0, .int .i64 0, .int .i64 0] 43)) = w0 at *
  obtain ⟨J0, B0⟩ := J0
  go_upto_region 2 with (first
    | (have _t := J0; refine wpList_load_midV (o := ⟨some 16, _, _, _, _, _⟩) (by rfl) _ _ rfl (w.heap.size) 0 rfl [.slice AL bits.length cL, .int .i64 (d.p : Int), .slice Ao d.out.length co, .int .i64 most, .int .i64 d.e] (block_range (L := [.slice AL bits.length cL, .int .i64 (d.p : Int), .slice Ao d.out.length co, .int .i64 most, .int .i64 d.e]) J0.x) Tryd.underlying43 rfl (by kernel_rfl) ?_; clear _t)
    | (have _t := J0; go_at_call 17; refine (G1.out _).mono ?_; rintro e w1x ⟨rfl, hbx⟩; have J0x := J0.below hbx; have B0x := B0.below hbx B0.lt; clear _t J0 B0 hbx)
    | (have _t := J0x; refine wpList_store_blk rfl _ _ _ rfl (ds := [.slice AL bits.length cL, .int .i64 (d1.p : Int), .slice Ao d.out.length co, .int .i64 most, .int .i64 d1.e]) J0x.x rfl rfl rfl (by kernel_rfl) (by intro u hu; simp only [List.mem_cons, List.not_mem_nil, or_false] at hu; rcases hu with rfl | rfl | rfl | rfl | rfl <;> rfl) ?_; clear _t; intro w1 X9 g9; have Jd1 := J0x.set (d' := { d1 with out := d.out }) g9 rfl X9; have Bd1 := B0x.grown g9 (by intro h; injection h with h; omega); clear X9 g9))
  clear J0x B0x
  try simp only [Act.put]
  have k4 : w1.cell? ⟨w.heap.size, 4, none⟩ = some (.int .i64 d1.e) := Jd1.x.cell 4
  by_cases he1 : d1.e = 0
  · have hk28 := HX1.out he1
    obtain ⟨l3, l258, m0, m5⟩ := lens_bd kx (by omega)
    obtain ⟨M, hMx⟩ := Int.eq_ofNat_of_zero_le m0
    have hM5 : M ≤ 5 := by omega
    have GM := Lib.hid (fun W => by have := more_any kx (by omega) W; rw [hMx] at this; exact this)
    have G2 := Lib.hid (fun W R => G2.out W R M hMx (by omega))
    have b2 := HB.out.1
    rw [hMx, Int.toNat_natCast] at b2
    have p25 : (2 : Int) ^ M ≤ 2 ^ 5 := p2_le hM5
    rw [show (2 : Int) ^ 5 = 32 by decide] at p25
    have bk : 0 ≤ k ∧ k < 32 := ⟨b2.1, by omega⟩
    clear b2 p25 hMx m0 m5
    have k5 : w1.cell? ⟨w.heap.size, 4, none⟩ = some (.int .i64 0) := by rw [k4, he1]
    have HE1 := Lib.hid he1
    clear k4 he1
    go_upto_region 5 with fail
    rw [show (257 : Int) + (kx : Int) - 257 = (kx : Int) by omega]
    have JD := Jd1.drew
    have BD := Block.drewN Bd1 1
    refine wp_region_held_drew (S := (fun _ : World => True)) (by kernel_rfl) trivial (fun hS => ?_)
    refine wpAnyH_take (i := 1) (oi := ⟨some 28, _, _, _, _, _⟩) (v := .int .i64 (kx : Int)) rfl (by kernel_rfl) (by kernel_rfl) (by kernel_rfl) (fun _ _ _ h => h) (Or.inl ⟨by rfl, fun W hW => by go_simp⟩) hS ?_
    try simp only [Act.put, List.setIfInBounds_toArray, List.set_cons_zero, List.set_cons_succ]
    refine wpAnyH_ready (rs := [0, 2]) (by kernel_rfl) (by simp) ?_
    refine AllReadyH.cons rfl (fun K hK => ?_) (AllReadyH.cons rfl (fun K hK => ?_) AllReadyH.nil)
    case' refine_1 =>
      refine step_of_list (by simp [Region.wanted]) fun Q9 hn9 => ?_
      refine wpList_load_midV (o := ⟨some 27, _, _, _, _, _⟩) (by rfl) _ _ rfl (w.heap.size) 0 rfl [.slice AL bits.length cL, .int .i64 (d1.p : Int), .slice Ao d.out.length co, .int .i64 most, .int .i64 d1.e] (block_range (L := [.slice AL bits.length cL, .int .i64 (d1.p : Int), .slice Ao d.out.length co, .int .i64 most, .int .i64 d1.e]) JD.x) Tryd.underlying43 rfl (by kernel_rfl) ?_
      refine hn9 _ _ ?_
      clear hn9 Q9
      change K (Act.put _ (some 27) _) _
      refine hK.out _ _ trivial (fun hS => ?_)
      clear hK K
      try simp only [Act.put, List.setIfInBounds_toArray, List.set_cons_zero, List.set_cons_succ]
      refine wpAnyH_ready (rs := [2]) (by kernel_rfl) (by simp) ?_
      refine AllReadyH.cons rfl (fun K hK => ?_) AllReadyH.nil
      go_simp
      go_at_call 54
      refine (GM.out _).mono ?_
      rintro e wq ⟨rfl, rfl⟩
      refine hK.out _ _ trivial (fun hS => ?_)
      clear hK K
      try simp only [Act.put, List.setIfInBounds_toArray, List.set_cons_zero, List.set_cons_succ]
    case' refine_2 =>
      go_simp
      go_at_call 54
      refine (GM.out _).mono ?_
      rintro e wq ⟨rfl, rfl⟩
      refine hK.out _ _ trivial (fun hS => ?_)
      clear hK K
      try simp only [Act.put, List.setIfInBounds_toArray, List.set_cons_zero, List.set_cons_succ]
      refine wpAnyH_ready (rs := [0]) (by kernel_rfl) (by simp) ?_
      refine AllReadyH.cons rfl (fun K hK => ?_) AllReadyH.nil
      refine step_of_list (by simp [Region.wanted]) fun Q9 hn9 => ?_
      refine wpList_load_midV (o := ⟨some 27, _, _, _, _, _⟩) (by rfl) _ _ rfl (w.heap.size) 0 rfl [.slice AL bits.length cL, .int .i64 (d1.p : Int), .slice Ao d.out.length co, .int .i64 most, .int .i64 d1.e] (block_range (L := [.slice AL bits.length cL, .int .i64 (d1.p : Int), .slice Ao d.out.length co, .int .i64 most, .int .i64 d1.e]) JD.x) Tryd.underlying43 rfl (by kernel_rfl) ?_
      refine hn9 _ _ ?_
      clear hn9 Q9
      change K (Act.put _ (some 27) _) _
      refine hK.out _ _ trivial (fun hS => ?_)
      clear hK K
      try simp only [Act.put, List.setIfInBounds_toArray, List.set_cons_zero, List.set_cons_succ]
    all_goals
      refine wpAnyH_ready (rs := [3]) (by kernel_rfl) (by simp) ?_
      refine AllReadyH.cons rfl (fun K hK => ?_) AllReadyH.nil
      go_simp
      go_at_call 24
      refine (G2.out _ JD.r).mono ?_
      rintro e w2x ⟨rfl, hbx⟩
      have J2x := JD.below hbx
      have B2x := BD.below hbx BD.lt
      clear hbx JD BD
      refine hK.out _ _ trivial (fun hS => ?_)
      clear hK K
      try simp only [Act.put, List.setIfInBounds_toArray, List.set_cons_zero, List.set_cons_succ]
      refine wpAnyH_take (i := 4) (oi := ⟨some 26, _, _, _, _, _⟩) (v := .tuple #[.int .i64 k, .agg #[.slice AL bits.length cL, .int .i64 (d2.p : Int), .slice Ao d.out.length co, .int .i64 most, .int .i64 d2.e]]) rfl (by kernel_rfl) (by kernel_rfl) (by kernel_rfl) (fun _ _ _ h => h) (Or.inl ⟨by rfl, fun W hW => by go_simp⟩) hS ?_
      try simp only [Act.put, List.setIfInBounds_toArray, List.set_cons_zero, List.set_cons_succ]
      refine wpAnyH_take (i := 5) (oi := ⟨some 31, _, _, _, _, _⟩) (v := .int .i64 k) rfl (by kernel_rfl) (by kernel_rfl) (by kernel_rfl) (fun _ _ _ h => h) (Or.inl ⟨by rfl, fun W hW => by go_simp⟩) hS ?_
      try simp only [Act.put, List.setIfInBounds_toArray, List.set_cons_zero, List.set_cons_succ]
      refine wpAnyH_take (i := 6) (oi := ⟨some 32, _, _, _, _, _⟩) (v := .agg #[.slice AL bits.length cL, .int .i64 (d2.p : Int), .slice Ao d.out.length co, .int .i64 most, .int .i64 d2.e]) rfl (by kernel_rfl) (by kernel_rfl) (by kernel_rfl) (fun _ _ _ h => h) (Or.inl ⟨by rfl, fun W hW => by go_simp⟩) hS ?_
      try simp only [Act.put, List.setIfInBounds_toArray, List.set_cons_zero, List.set_cons_succ]
      refine wpAnyH_ready (rs := [7]) (by kernel_rfl) (by simp) ?_
      refine AllReadyH.cons rfl (fun K hK => ?_) AllReadyH.nil
      go_simp
      refine hK.out _ _ trivial (fun hS => ?_)
      clear hK K
      try simp only [Act.put, List.setIfInBounds_toArray, List.set_cons_zero, List.set_cons_succ]
      refine wpAnyH_ready (rs := [8]) (by kernel_rfl) (by simp) ?_
      refine AllReadyH.cons rfl (fun K hK => ?_) AllReadyH.nil
      refine step_store_blk rfl _ _ _ rfl (ds := [.slice AL bits.length cL, .int .i64 (d2.p : Int), .slice Ao d.out.length co, .int .i64 most, .int .i64 d2.e]) J2x.x rfl rfl rfl (by kernel_rfl) (by intro u hu; simp only [List.mem_cons, List.not_mem_nil, or_false] at hu; rcases hu with rfl | rfl | rfl | rfl | rfl <;> rfl) ?_
      intro w2 X9 g9
      have Jd2 := J2x.set (d' := { d2 with out := d.out }) g9 rfl X9
      have Bd2 := B2x.grown g9 (by intro h; injection h with h; omega)
      clear X9 g9 J2x B2x
      refine hK.out _ _ trivial (fun hS => ?_)
      clear hK K
      try simp only [Act.put, List.setIfInBounds_toArray, List.set_cons_zero, List.set_cons_succ]
      refine wpAnyH_done (by kernel_rfl) ?_ _
      try simp only [Act.put]
      rw [HLN.out] at l3 l258
      have hk29 : (kx : Int) < 29 := by omega
      go_upto_region 7 with (have _t := Jd2; go_at_call 55; refine (least_any _).mono ?_; rintro e w3 ⟨rfl, hl, hbl, hsz⟩; have hci := hl kx (by show kx < 29; omega); rw [HLN.out] at hci; have J3 := Jd2.below hbl; have B3 := Bd2.below hbl Bd2.lt; clear _t Jd2 Bd2 hl hbl hsz)
      clear hci
      go_upto_region 8 with (first
        | (have _t := J3; refine wpList_load_midV (o := ⟨some 40, _, _, _, _, _⟩) (by rfl) _ _ rfl (w.heap.size) 0 rfl [.slice AL bits.length cL, .int .i64 (d2.p : Int), .slice Ao d.out.length co, .int .i64 most, .int .i64 d2.e] (block_range (L := [.slice AL bits.length cL, .int .i64 (d2.p : Int), .slice Ao d.out.length co, .int .i64 most, .int .i64 d2.e]) J3.x) Tryd.underlying43 rfl (by kernel_rfl) ?_; clear _t)
        | (have _t := J3; refine wpList_load_midV (o := ⟨some 41, _, _, _, _, _⟩) (by rfl) _ _ rfl (w.heap.size + 1) 0 rfl [.slice A1 l.length c1, .slice A2 l.length c2] (block_range (L := [.slice A1 l.length c1, .slice A2 l.length c2]) B3) Tryd.underlying65 rfl (by kernel_rfl) ?_; clear _t)
        | (have _t := J3; go_at_call 40; refine (G3.out _ J3.r (HT.out _ J3.t)).mono ?_; rintro e w4x ⟨rfl, hbx⟩; have J3x := J3.below hbx; have B3x := B3.below hbx B3.lt; clear _t J3 B3 hbx)
        | (have _t := J3x; refine wpList_store_blk rfl _ _ _ rfl (ds := [.slice AL bits.length cL, .int .i64 (d3.p : Int), .slice Ao d.out.length co, .int .i64 most, .int .i64 d3.e]) J3x.x rfl rfl rfl (by kernel_rfl) (by intro u hu; simp only [List.mem_cons, List.not_mem_nil, or_false] at hu; rcases hu with rfl | rfl | rfl | rfl | rfl <;> rfl) ?_; clear _t; intro w4 X9 g9; have Jd3 := J3x.set (d' := { d3 with out := d.out }) g9 rfl X9; have Bd3 := B3x.grown g9 (by intro h; injection h with h; omega); clear X9 g9))
      clear J3x B3x
      try simp only [Act.put]
      go_upto_region 9 with (first
        | (have _t := Jd3; refine wpList_load_midV (o := ⟨some 45, _, _, _, _, _⟩) (by rfl) _ _ rfl (w.heap.size) 0 rfl [.slice AL bits.length cL, .int .i64 (d3.p : Int), .slice Ao d.out.length co, .int .i64 most, .int .i64 d3.e] (block_range (L := [.slice AL bits.length cL, .int .i64 (d3.p : Int), .slice Ao d.out.length co, .int .i64 most, .int .i64 d3.e]) Jd3.x) Tryd.underlying43 rfl (by kernel_rfl) ?_; clear _t)
        | (have _t := Jd3; go_at_call 17; refine (G4.out _).mono ?_; rintro e w5x ⟨rfl, hbx⟩; have Jd3x := Jd3.below hbx; have Bd3x := Bd3.below hbx Bd3.lt; clear _t Jd3 Bd3 hbx)
        | (have _t := Jd3x; refine wpList_store_blk rfl _ _ _ rfl (ds := [.slice AL bits.length cL, .int .i64 (d4.p : Int), .slice Ao d.out.length co, .int .i64 most, .int .i64 d4.e]) Jd3x.x rfl rfl rfl (by kernel_rfl) (by intro u hu; simp only [List.mem_cons, List.not_mem_nil, or_false] at hu; rcases hu with rfl | rfl | rfl | rfl | rfl <;> rfl) ?_; clear _t; intro w5 X9 g9; have Jd4 := Jd3x.set (d' := { d4 with out := d.out }) g9 rfl X9; have Bd4 := Bd3x.grown g9 (by intro h; injection h with h; omega); clear X9 g9))
      clear Jd3x Bd3x
      try simp only [Act.put]
      have k4 : w5.cell? ⟨w.heap.size, 4, none⟩ = some (.int .i64 d4.e) := Jd4.x.cell 4
      by_cases he4 : d4.e = 0
      · have hdd := HX4.out he4
        obtain ⟨kd, hkd⟩ := Int.eq_ofNat_of_zero_le hdd.2
        subst hkd
        obtain ⟨t1, t2, m0, m13⟩ := dists_bd kd (by omega)
        have hdn := HDN.out
        rw [Int.toNat_natCast] at hdn
        rw [hdn] at t1 t2
        obtain ⟨M2, hM2⟩ := Int.eq_ofNat_of_zero_le m0
        have hM13 : M2 ≤ 13 := by omega
        have GL := Lib.hid (fun W => by have := least_dist_any kd (by omega) W; rw [hM2, hdn] at this; exact this)
        have G5b := Lib.hid (fun W R => G5.out W R M2 hM2 (by omega))
        have b5 := HB.out.2
        rw [hM2, Int.toNat_natCast] at b5
        have p13 : (2 : Int) ^ M2 ≤ 2 ^ 13 := p2_le hM13
        rw [show (2 : Int) ^ 13 = 8192 by decide] at p13
        have bj : 0 ≤ j ∧ j < 8192 := ⟨b5.1, by omega⟩
        clear b5 p13 m0 m13 hM2 G5 HB hdn HDN
        obtain ⟨NN, hNN⟩ := Int.eq_ofNat_of_zero_le (show 0 ≤ LN + k by omega)
        obtain ⟨FR, hFR⟩ := Int.eq_ofNat_of_zero_le (show 0 ≤ DN + j by omega)
        have hFR1 : 1 ≤ FR := by omega
        have hNN3 : NN ≤ 300 := by omega
        have HN := Lib.hid hNN
        have HF := Lib.hid hFR
        have k6 : w5.cell? ⟨w.heap.size, 4, none⟩ = some (.int .i64 0) := by rw [k4, he4]
        clear k4 he4 hdd hNN hFR
        go_upto_region 12 with (have _t := Jd4; go_at_call 56; refine (GL.out _).mono ?_; rintro e wq ⟨rfl, rfl⟩; clear _t)
        clear k6
        go_upto_region 13 with (first
          | (have _t := Jd4; refine wpList_load_midV (o := ⟨some 59, _, _, _, _, _⟩) (by rfl) _ _ rfl (w.heap.size) 0 rfl [.slice AL bits.length cL, .int .i64 (d4.p : Int), .slice Ao d.out.length co, .int .i64 most, .int .i64 d4.e] (block_range (L := [.slice AL bits.length cL, .int .i64 (d4.p : Int), .slice Ao d.out.length co, .int .i64 most, .int .i64 d4.e]) Jd4.x) Tryd.underlying43 rfl (by kernel_rfl) ?_; clear _t)
          | (have _t := Jd4; go_at_call 24; refine (G5b.out _ Jd4.r).mono ?_; rintro e w6x ⟨rfl, hbx⟩; have Jd4x := Jd4.below hbx; have Bd4x := Bd4.below hbx Bd4.lt; clear _t Jd4 Bd4 hbx)
          | (have _t := Jd4x; refine wpList_store_blk rfl _ _ _ rfl (ds := [.slice AL bits.length cL, .int .i64 (d5.p : Int), .slice Ao d.out.length co, .int .i64 most, .int .i64 d5.e]) Jd4x.x rfl rfl rfl (by kernel_rfl) (by intro u hu; simp only [List.mem_cons, List.not_mem_nil, or_false] at hu; rcases hu with rfl | rfl | rfl | rfl | rfl <;> rfl) ?_; clear _t; intro w6 X9 g9; have Jd5 := Jd4x.set (d' := { d5 with out := d.out }) g9 rfl X9; have Bd5 := Bd4x.grown g9 (by intro h; injection h with h; omega); clear X9 g9))
        clear Jd4x Bd4x
        try simp only [Act.put]
        have k2 : w6.cell? ⟨w.heap.size, 2, none⟩ = some (.slice Ao d.out.length co) := Jd5.x.cell 2
        go_upto_region 15 with (first
          | (have _t := Jd5; refine wpList_load_midV (o := ⟨some 67, _, _, _, _, _⟩) (by rfl) _ _ rfl (w.heap.size) 0 rfl [.slice AL bits.length cL, .int .i64 (d5.p : Int), .slice Ao d.out.length co, .int .i64 most, .int .i64 d5.e] (block_range (L := [.slice AL bits.length cL, .int .i64 (d5.p : Int), .slice Ao d.out.length co, .int .i64 most, .int .i64 d5.e]) Jd5.x) Tryd.underlying43 rfl (by kernel_rfl) ?_; clear _t)
          | (have _t := Jd5; go_at_call 17; refine (G6.out _).mono ?_; rintro e w7x ⟨rfl, hbx⟩; have Jd5x := Jd5.below hbx; have Bd5x := Bd5.below hbx Bd5.lt; clear _t Jd5 Bd5 hbx)
          | (have _t := Jd5x; refine wpList_store_blk rfl _ _ _ rfl (ds := [.slice AL bits.length cL, .int .i64 (d6.p : Int), .slice Ao d.out.length co, .int .i64 most, .int .i64 d6.e]) Jd5x.x rfl rfl rfl (by kernel_rfl) (by intro u hu; simp only [List.mem_cons, List.not_mem_nil, or_false] at hu; rcases hu with rfl | rfl | rfl | rfl | rfl <;> rfl) ?_; clear _t; intro w7 X9 g9; have Jd6 := Jd5x.set (d' := { d6 with out := d.out }) g9 rfl X9; have Bd6 := Bd5x.grown g9 (by intro h; injection h with h; omega); clear X9 g9))
        clear Jd5x Bd5x
        try simp only [Act.put]
        clear k2
        have k2 : w7.cell? ⟨w.heap.size, 2, none⟩ = some (.slice Ao d.out.length co) := Jd6.x.cell 2
        have k3 : w7.cell? ⟨w.heap.size, 3, none⟩ = some (.int .i64 most) := Jd6.x.cell 3
        go_upto_region 16 with (first
          | (have _t := Jd6; refine wpList_load_midV (o := ⟨some 74, _, _, _, _, _⟩) (by rfl) _ _ rfl (w.heap.size) 0 rfl [.slice AL bits.length cL, .int .i64 (d6.p : Int), .slice Ao d.out.length co, .int .i64 most, .int .i64 d6.e] (block_range (L := [.slice AL bits.length cL, .int .i64 (d6.p : Int), .slice Ao d.out.length co, .int .i64 most, .int .i64 d6.e]) Jd6.x) Tryd.underlying43 rfl (by kernel_rfl) ?_; clear _t)
          | (have _t := Jd6; go_at_call 17; refine (G7.out _).mono ?_; rintro e w8x ⟨rfl, hbx⟩; have Jd6x := Jd6.below hbx; have Bd6x := Bd6.below hbx Bd6.lt; clear _t Jd6 Bd6 hbx)
          | (have _t := Jd6x; refine wpList_store_blk rfl _ _ _ rfl (ds := [.slice AL bits.length cL, .int .i64 (d7.p : Int), .slice Ao d.out.length co, .int .i64 most, .int .i64 d7.e]) Jd6x.x rfl rfl rfl (by kernel_rfl) (by intro u hu; simp only [List.mem_cons, List.not_mem_nil, or_false] at hu; rcases hu with rfl | rfl | rfl | rfl | rfl <;> rfl) ?_; clear _t; intro w8 X9 g9; have Jd7 := Jd6x.set (d' := { d7 with out := d.out }) g9 rfl X9; have Bd7 := Bd6x.grown g9 (by intro h; injection h with h; omega); clear X9 g9))
        clear Jd6x Bd6x
        try simp only [Act.put]
        clear k2 k3 Bd7
        rw [HN.out, HF.out]
        try generalize decide (285 < 257 + (kx : Int)) = bb1
        try generalize decide (29 < (kd : Int)) = bb2
        try generalize decide ((d.out.length : Int) < (FR : Int)) = bb3
        try generalize decide (most - (d.out.length : Int) < (NN : Int)) = bb4
        go_wp2_with fail
        go_loopw [14] (fun s wr => ∃ (i : Nat) (A9 : Option Addr) (c9 : Nat), s = .int .i64 i ∧ i ≤ NN ∧ (d7.e ≠ 0 → i = 0) ∧ So w wr AL bits cL most (.slice Ao d.out.length co) (w.heap.size + 1 + 1) { d7 with out := rep d.out i FR } A9 c9) (fun s _ => NN - (intOf s).toNat)
        case atStart => exact ⟨0, Ao, co, rfl, Nat.zero_le _, fun _ => rfl, Jd7⟩
        case round =>
          clear Jd7
          obtain ⟨i, A9, c9, rfl, hi, h0, J⟩ := hrel
          have k4 : wr.cell? ⟨w.heap.size, 4, none⟩ = some (.int .i64 d7.e) := J.x.cell 4
          have hrl := rep_length d.out i FR
          have hnext : rep d.out (i + 1) FR = rep d.out i FR ++ [(rep d.out i FR)[(rep d.out i FR).length - FR]?.getD 0] := rfl
          have hfin : (d7.e ≠ 0 ∨ i = NN) → D = { d7 with out := rep d.out i FR } := fun c => by
            rw [← HDD.out]
            unfold matchEnd
            by_cases e : d7.e ≠ 0
            · rw [if_pos e, h0 e]; exact E7.out.symm
            · rw [if_neg e, HN.out, HF.out, Int.toNat_natCast, Int.toNat_natCast, (by rcases c with c | c; exact absurd c e; exact c : i = NN)]
          obtain ⟨xs, hxs⟩ : ∃ xs, rep d.out i FR = xs := ⟨_, rfl⟩
          rw [hxs] at J hrl hnext hfin
          have HNX := Lib.hid hnext
          have HFI := Lib.hid hfin
          have H0 := Lib.hid h0
          clear hnext hfin h0 hxs
          by_cases hlt : i < NN
          · have jlt : (i : Int) < (NN : Int) := by omega
            by_cases he : d7.e = 0
            · have hx7 := HX7.out he
              rw [HF.out] at hx7
              obtain ⟨q, hq⟩ : ∃ q, xs.length = q + FR := ⟨xs.length - FR, by omega⟩
              have hnx := HNX.out
              rw [show xs.length - FR = q by omega] at hnx
              obtain ⟨g, cap, eqv, _, _, _, _⟩ := J.o.form (by show 0 < xs.length; omega)
              injection eqv with e1 e2 e3
              subst e1 e3
              clear e2
              have hc : wr.cell? ⟨g, q, none⟩ = some (.int .u8 (xs[q]?.getD 0)) := J.o.cellAt rfl (i := q) (by show q < xs.length; omega)
              obtain ⟨z, hz⟩ : ∃ z, xs[q]?.getD 0 = z := ⟨_, rfl⟩
              rw [hz] at hc hnx
              have i0 : (0 : Int) ≤ (xs.length : Int) - (FR : Int) := by omega
              have i1 : (xs.length : Int) - (FR : Int) < (xs.length : Int) := by omega
              have i2 : ((xs.length : Int) - (FR : Int)).toNat = q := by omega
              have i3 : xs.length ≤ 1001000 := by omega
              have HNY := Lib.hid hnx
              have HE7 := Lib.hid he
              have k2 : wr.cell? ⟨w.heap.size, 2, none⟩ = some (.slice (some ⟨g, 0, none⟩) xs.length c9) := J.x.cell 2
              have k5 : wr.cell? ⟨w.heap.size, 4, none⟩ = some (.int .i64 0) := by rw [k4, he]
              have f2 := J.x.frozen 2
              have kz := J.lt
              clear hnx he k4 hz hq hrl hx7 HNX
              go_upto_region 20 with fail
              clear k5
              go_wp2_with (at_builtin; refine wpList_append_ints (ys := [z]) _ rfl _ _ _ rfl elem8 (J.o.alloc _) rfl rfl (Holds.new wr .u8 z _) (by simp only [List.length_cons, List.length_nil]; omega) (Nat.zero_le _) ?_; intro v5 w5 own5 hg5 hb5 hv5; have own6 : Own w5 0 5 .u8 v5 (xs ++ [z]) := own5; obtain ⟨ys, hys⟩ : ∃ ys, xs ++ [z] = ys := ⟨_, rfl⟩; rw [hys] at own6; obtain ⟨A5, c5, rfl, _, _, _⟩ := own6.opened; have nw := Newer.ofApp hv5; have x5 := ((J.alloc _).grow hg5 nw).2.1; have k7 := x5.cell 2; have f7 := x5.frozen 2; have J5 := (J.alloc _).told hg5 own6 nw; have HY := Lib.hid hys; clear own5 own6 hg5 hb5 hv5 hys nw x5 J k2 hc)
              go_roundw
              case rel => exact ⟨i + 1, A5, c5, by go_num, by omega, fun c => absurd HE7.out c, by rw [HNY.out, HY.out]; exact J5⟩
              case measure => simp [intOf] <;> omega
            · have z : (d7.e == 0) = false := by rw [beq_eq_false_iff_ne]; exact he
              have HFX := Lib.hid (HFI.out (.inl he))
              clear he
              go_wp2_with (first
                | (have _t := J; refine wpList_load_midV (o := ⟨some 109, _, _, _, _, _⟩) (by rfl) _ _ rfl (w.heap.size) 0 rfl [.slice AL bits.length cL, .int .i64 (d7.p : Int), .slice A9 xs.length c9, .int .i64 most, .int .i64 d7.e] (block_range (L := [.slice AL bits.length cL, .int .i64 (d7.p : Int), .slice A9 xs.length c9, .int .i64 most, .int .i64 d7.e]) J.x) Tryd.underlying43 rfl (by kernel_rfl) ?_; clear _t)
                | (have _t := J; refine wpList_store_blk rfl _ _ _ rfl (ds := [.slice AL bits.length cL, .int .i64 (d7.p : Int), .slice A9 xs.length c9, .int .i64 most, .int .i64 d7.e]) J.z rfl rfl rfl (by kernel_rfl) (by intro u hu; simp only [List.mem_cons, List.not_mem_nil, or_false] at hu; rcases hu with rfl | rfl | rfl | rfl | rfl <;> rfl) ?_; clear _t; intro w99 X9 g9))
              try simp only [Act.put]
              exact bodyPost_ret (v := .agg #[.slice AL bits.length cL, .int .i64 (d7.p : Int), .slice A9 xs.length c9, .int .i64 most, .int .i64 d7.e]) (results_cell_row rfl _ _ (w.heap.size + 1 + 1) 43 _ (0, 0) _ rfl X9 Tryd.underlying43 rfl (by kernel_rfl)) rfl (by rw [HFX.out]; exact J.done g9)
          · have jlt : ¬ (i : Int) < (NN : Int) := by omega
            have HFX := Lib.hid (HFI.out (.inr (by omega)))
            go_wp2_with (first
              | (have _t := J; refine wpList_load_midV (o := ⟨some 109, _, _, _, _, _⟩) (by rfl) _ _ rfl (w.heap.size) 0 rfl [.slice AL bits.length cL, .int .i64 (d7.p : Int), .slice A9 xs.length c9, .int .i64 most, .int .i64 d7.e] (block_range (L := [.slice AL bits.length cL, .int .i64 (d7.p : Int), .slice A9 xs.length c9, .int .i64 most, .int .i64 d7.e]) J.x) Tryd.underlying43 rfl (by kernel_rfl) ?_; clear _t)
              | (have _t := J; refine wpList_store_blk rfl _ _ _ rfl (ds := [.slice AL bits.length cL, .int .i64 (d7.p : Int), .slice A9 xs.length c9, .int .i64 most, .int .i64 d7.e]) J.z rfl rfl rfl (by kernel_rfl) (by intro u hu; simp only [List.mem_cons, List.not_mem_nil, or_false] at hu; rcases hu with rfl | rfl | rfl | rfl | rfl <;> rfl) ?_; clear _t; intro w99 X9 g9))
            try simp only [Act.put]
            exact bodyPost_ret (v := .agg #[.slice AL bits.length cL, .int .i64 (d7.p : Int), .slice A9 xs.length c9, .int .i64 most, .int .i64 d7.e]) (results_cell_row rfl _ _ (w.heap.size + 1 + 1) 43 _ (0, 0) _ rfl X9 Tryd.underlying43 rfl (by kernel_rfl)) rfl (by rw [HFX.out]; exact J.done g9)
      · have z : (d4.e == 0) = false := by rw [beq_eq_false_iff_ne]; exact he4
        have hd : D = d4 := by rw [← HDD.out]; unfold matchEnd; rw [HE.out.2 he4, if_pos he4]
        have HD := Lib.hid hd
        clear hd he4
        go_wp2_with (first
          | (have _t := Jd4; refine wpList_load_midV (o := ⟨some 52, _, _, _, _, _⟩) (by rfl) _ _ rfl (w.heap.size) 0 rfl [.slice AL bits.length cL, .int .i64 (d4.p : Int), .slice Ao d.out.length co, .int .i64 most, .int .i64 d4.e] (block_range (L := [.slice AL bits.length cL, .int .i64 (d4.p : Int), .slice Ao d.out.length co, .int .i64 most, .int .i64 d4.e]) Jd4.x) Tryd.underlying43 rfl (by kernel_rfl) ?_; clear _t)
          | (have _t := Jd4; refine wpList_store_blk rfl _ _ _ rfl (ds := [.slice AL bits.length cL, .int .i64 (d4.p : Int), .slice Ao d.out.length co, .int .i64 most, .int .i64 d4.e]) Jd4.z rfl rfl rfl (by kernel_rfl) (by intro u hu; simp only [List.mem_cons, List.not_mem_nil, or_false] at hu; rcases hu with rfl | rfl | rfl | rfl | rfl <;> rfl) ?_; clear _t; intro w99 X9 g9))
        try simp only [Act.put]
        exact bodyPost_ret (v := .agg #[.slice AL bits.length cL, .int .i64 (d4.p : Int), .slice Ao d.out.length co, .int .i64 most, .int .i64 d4.e]) (results_cell_row rfl _ _ (w.heap.size + 1 + 1) 43 _ (0, 0) _ rfl X9 Tryd.underlying43 rfl (by kernel_rfl)) rfl (by rw [HD.out, ← E4.out]; exact Jd4.done g9)
  · have z : (d1.e == 0) = false := by rw [beq_eq_false_iff_ne]; exact he1
    have hd : D = d1 := by rw [← HDD.out]; unfold matchEnd; rw [HE.out.1 he1, if_pos he1]
    have HD := Lib.hid hd
    clear hd he1
    go_wp2_with (first
      | (have _t := Jd1; refine wpList_load_midV (o := ⟨some 23, _, _, _, _, _⟩) (by rfl) _ _ rfl (w.heap.size) 0 rfl [.slice AL bits.length cL, .int .i64 (d1.p : Int), .slice Ao d.out.length co, .int .i64 most, .int .i64 d1.e] (block_range (L := [.slice AL bits.length cL, .int .i64 (d1.p : Int), .slice Ao d.out.length co, .int .i64 most, .int .i64 d1.e]) Jd1.x) Tryd.underlying43 rfl (by kernel_rfl) ?_; clear _t)
      | (have _t := Jd1; refine wpList_store_blk rfl _ _ _ rfl (ds := [.slice AL bits.length cL, .int .i64 (d1.p : Int), .slice Ao d.out.length co, .int .i64 most, .int .i64 d1.e]) Jd1.z rfl rfl rfl (by kernel_rfl) (by intro u hu; simp only [List.mem_cons, List.not_mem_nil, or_false] at hu; rcases hu with rfl | rfl | rfl | rfl | rfl <;> rfl) ?_; clear _t; intro w99 X9 g9))
    try simp only [Act.put]
    exact bodyPost_ret (v := .agg #[.slice AL bits.length cL, .int .i64 (d1.p : Int), .slice Ao d.out.length co, .int .i64 most, .int .i64 d1.e]) (results_cell_row rfl _ _ (w.heap.size + 1 + 1) 43 _ (0, 0) _ rfl X9 Tryd.underlying43 rfl (by kernel_rfl)) rfl (by rw [HD.out, ← E1.out]; exact Jd1.done g9)
end Go.Proofs.YthflefdchgpbdaaDoor.Inf
