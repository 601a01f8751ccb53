/-
  Layer 7, the document's Write: contract. Conditions: as each theorem names.
-/
import Derived.Test.YtchbgmpkdkecgaaPaE
import Derived.Test.YtchbgmpkdkecgaaPaK
import Derived.Test.YtchbgmpkdkecgaaSfG
import Derived.Test.YtchbgmpkdkecgaaStB
import Derived.Deep.RegionHeld
namespace Go.Proofs.Ytchbgmpkdkecgaa.Pt
open Go.ChangeShapes Go.WideShapes Go.ChangeAt Go.RowKit Go.Proofs.Ytchbgmpkdkecgaa.Kit Go.Proofs.Ytchbgmpkdkecgaa.Sec

theorem write_ok {s : Dv} (h : s.Ok) (i : Int) (xs : List Int) : (s.write i xs).2.Ok := by
  unfold Dv.write
  split
  · exact h
  split
  · exact h
  split
  · exact h
  rename_i hr _
  have ht := (h.writes (xs := xs) (by omega : 0 ≤ i) (by omega)).tick
  split
  · exact ht
  · exact ⟨ht.s1, ht.s2, ht.c1, ht.c2, ht.ku, ht.wu, ht.kr, ht.wr_, ht.wn, ht.f1, ht.f2, ht.o1, by have := h.w1; show 0 ≤ s.wr + 1; omega⟩
theorem wrS_ok {s : Dv} (h : s.Ok) (i : Int) (bs : List Int) : ∀ k, (wrS s i bs k).Ok
  | 0 => h
  | k + 1 => write_ok (wrS_ok h i bs k) _ _
theorem back_ok {s : Dv} (h : s.Ok) (picks : List Int) : (s.back picks).Ok := by
  have hd := h.down
  obtain ⟨h1, h2⟩ := backK_ok hd picks s.down.waits.length (Nat.le_refl _)
  rw [back_form]
  exact ⟨hd.s1, hd.s2, hd.c1, hd.c2, h1, up_nil, h2, fun _ h => (List.not_mem_nil h).elim, fun _ h => (List.not_mem_nil h).elim, Int.le_refl _, by show (-1 : Int) ≤ _; omega, hd.o1, hd.w1⟩
theorem below_three (w : World) (o p q : Obj) : Below w.heap.size w (((w.alloc o).alloc p).alloc q) := (below_two w o p).alloc (by simp; omega) q
theorem block_three (w : World) (o p : Obj) (t : TypeId) (cs : Array Value) : Block (((w.alloc o).alloc p).alloc (.cells cs t)) (w.heap.size + 1 + 1) t cs := by
  have := Block.new ((w.alloc o).alloc p) t cs
  rwa [show ((w.alloc o).alloc p).heap.size = w.heap.size + 1 + 1 by simp] at this

/-- Behind k writes of the document's. -/
structure DGoing (w wr : World) (g : Nat) (F C i : Int) (s : Dv) (bs : List Int) (k : Nat) (cs : Array Value) : Prop where
  x : Block wr g 49 cs
  r : Block wr (g + 1) 25 #[.int .i64 F, .int .i64 C]
  z : Block wr (g + 1 + 1) 49 zD
  v : RDv wr (.agg cs) (wrS s i bs k)
  b : Below w.heap.size w wr
  ok : OkW s i bs k
  g : w.heap.size ≤ g
theorem DGoing.below {w wr w' : World} {g : Nat} {F C i : Int} {s : Dv} {bs : List Int} {k : Nat} {cs : Array Value} (h : DGoing w wr g F C i s bs k cs) (hb : Below wr.heap.size wr w') : DGoing w w' g F C i s bs k cs :=
  ⟨h.x.below hb h.x.lt, h.r.below hb h.r.lt, h.z.below hb h.z.lt, h.v.below hb, h.b.trans (hb.mono h.b.size), h.ok, h.g⟩
/-- Behind a write: the next device lies in a block beside. -/
def Mid7 (w wx : World) (g : Nat) (F C : Int) (s : Dv) (v : Value) : Prop :=
  ∃ (g2 : Nat) (cs cs2 : Array Value), v = .pointer (some ⟨g2, 0, none⟩) ∧ (cs.size = 8 ∧ NoText cs) ∧ Block wx g 49 cs ∧ Block wx (g + 1) 25 #[.int .i64 F, .int .i64 C] ∧ Block wx (g + 1 + 1) 49 zD ∧ Block wx g2 49 cs2 ∧ RDv wx (.agg cs2) s ∧ Below w.heap.size w wx ∧ g + 1 + 1 < g2
theorem step_store_blk {P : Program} {ops : Array Oper} {o : Oper} {a : Act} {w : World} {K : Act → World → Prop} {Q : Exit → Act → World → Prop} {E : Prop} (hgd : o.guard = none) (ty : TypeId) (x y : Operand) (ho : o.op = .store ty x y)
    {g : Nat} {t : TypeId} {cs : Array Value} {ds : List Value} (h : Block w g t cs) (hx : a.eval x = .pointer (some ⟨g, 0, none⟩)) (hy : a.eval y = .agg ds.toArray) (hl : ds.length = cs.size) (hi : (P.info? ty).map (·.size) = some ds.length) (hone : ∀ u ∈ ds, u.oneCell' = true)
    (hK : ∀ w', Block w' g t ds.toArray → w.grownBy w' (some g) → K (a.put o.dst undef) w') : if Region.wanted o (yielded ops a.tmps) = true then Oper.wp P o a w K Q else E :=
  step_of_list (by simp [Region.wanted, hgd]) fun Q' hn => wpList_store_blk hgd ty x y ho h hx hy hl hi hone fun w' h1 h2 => hn _ _ (hK w' h1 h2)

set_option maxRecDepth 100000 in
set_option maxHeartbeats 6400000 in
theorem rpwrite_yes (v : Value) (s : Dv) (F C : Int) (T b : Nat) (bs : List Int) (w : World) (h : RDv w v s) (hok : s.Ok) (hl : Lies s F C T) (hbl : bs.length ≤ 1000000) (hof : s.offs ≤ 100000000) (hwr : s.wr ≤ 100000000)
    (hm : b % s.size = 0) (hin : b ≤ T ∧ bs.length ≤ T - b) :
    Calls Try.prog 19 #[v, .agg #[.int .i64 F, .int .i64 C], .int .i64 (b : Int), .string (strOfNums bs)] w fun e w' => ∃ r, WritesP s (F + (b / s.size : Nat)) bs r ∧ GivesED r.1 r.2 w e w' := by
  have hT := hl.most hok
  have hs1 := hok.s1
  have hs2 := hok.s2
  have hc1 := hl.c1
  have hf0 := hl.f0
  have hfc := hl.fc
  have hct := hok.c2
  have hCS := hl.t
  have HSz := Lib.hid (strOfNums_size bs)
  have hrem : (b : Int).tmod (s.size : Int) = 0 := by rw [← Int.ofNat_tmod, hm]; rfl
  obtain ⟨i0, hi0⟩ : ∃ i0, F + ((b / s.size : Nat) : Int) = i0 := ⟨_, rfl⟩
  rw [hi0]
  have HNear := Lib.hid (fun k => wrS_near s i0 bs k)
  have HOkW := Lib.hid (fun k => wrS_ok hok i0 bs k)
  have HCut := Lib.hid (fun k => chunk_cut bs s.size k)
  have HFill := Lib.hid (fun k => chunk_fill bs s.size k)
  have HMany := Lib.hid (manyP_iff (n := s.size) (by omega) bs)
  have HV := Lib.hid h
  obtain ⟨Ak, ck, Aw, cw, rfl, hr0⟩ := h
  have G0 : Hid (DGoing w (((w.alloc (.cells (dCells Ak ck Aw cw s) 49)).alloc (.cells #[.int .i64 F, .int .i64 C] 25)).alloc (.cells zD 49)) w.heap.size F C i0 s bs 0 (dCells Ak ck Aw cw s)) := Lib.hid
    ⟨((Block.new w _ _).alloc _).alloc _, (block_two w _ _ _).alloc _, block_three w _ _ _ _, RDv.below ⟨Ak, ck, Aw, cw, rfl, hr0⟩ (below_three w _ _ _), below_three w _ _ _, fun j hj => absurd hj (by omega), Nat.le_refl _⟩
  obtain ⟨z, hz⟩ : ∃ z, s.size = z := ⟨_, rfl⟩
  have HZ := Lib.hid hz
  rw [hz] at hs1 hs2 hCS hrem HCut HFill HMany HNear
  obtain ⟨S, hS⟩ : ∃ S, strOfNums bs = S := ⟨_, rfl⟩
  rw [hS] at HCut HSz ⊢
  obtain ⟨L, hL⟩ : ∃ L, bs.length = L := ⟨_, rfl⟩
  rw [hL] at HCut HSz hin hbl HMany
  have hsz : S.size = L := HSz.out
  have HI0 := Lib.hid hi0
  have HL := Lib.hid hL
  have d1 : decide ((b : Int) < 0) = false := decide_eq_false (by omega)
  have d2 : decide (T < b) = false := decide_eq_false (by omega)
  have d3 : decide ((T : Int) - (b : Int) < (L : Int)) = false := decide_eq_false (by omega)
  have HOK := Lib.hid hok
  have hzz : ¬ z = 0 := by omega
  unfold zD at G0
  unfold dCells at G0 ⊢
  rw [hz] at G0 ⊢
  clear hr0 hS hL hi0 hl hok HV hm
  go_enter Try.func19, Try.ntmps19
  go_wp2_with fail
  generalize hW3 : ((w.alloc _).alloc _).alloc _ = w3 at *
  have hg0 : w.heap.size ≤ w.heap.size := Nat.le_refl _
  generalize hg : w.heap.size = g at hg0 G0 ⊢
  have HG := Lib.hid hg
  clear hW3 hg d1 d2 d3 hrem
  go_loopw [11] (fun q wr => ∃ (k : Nat) (cs : Array Value), k ≤ manyP z bs ∧ q = .int .i64 k ∧ DGoing w wr g F C i0 s bs k cs) (fun q _ => manyP z bs - (intOf q).toNat)
  case atStart => exact ⟨0, _, Nat.zero_le _, rfl, G0.out⟩
  case round =>
    clear G0
    obtain ⟨k, cs, hk, rfl, G⟩ := hrel
    obtain ⟨Ak, ck, Aw, cw, hce, hrv⟩ := G.v
    injection hce with hce
    subst hce
    obtain ⟨K, hK⟩ : ∃ K : Nat, k * z = K := ⟨_, rfl⟩
    have hKz : (k : Int) * (z : Int) = (K : Int) := by rw [← hK, Int.natCast_mul]
    have hKz1 : ((k : Int) + 1) * (z : Int) = (K : Int) + (z : Int) := by rw [Int.add_mul, hKz, Int.one_mul]
    have hKb : K ≤ 1004096 := by
      have h1 : k * z ≤ manyP z bs * z := Nat.mul_le_mul_right z hk
      have h2 : manyP z bs * z ≤ bs.length + z - 1 := Nat.div_mul_le_self _ _
      rw [hK] at h1
      rw [HL.out] at h2
      omega
    have hmany := HMany.out k
    rw [hK] at hmany
    obtain ⟨n1, n2, n3, n4⟩ := HNear.out k
    have ok1 := HOkW.out k
    generalize hsk : wrS s i0 bs k = sk at *
    have hzk : sk.size = z := n3
    have x0 : wr.cell? ⟨g, 0, none⟩ = some (.int .i64 (z : Int)) := by rw [G.x.cell 0]; unfold dCells; rw [hzk]; rfl
    have r0 : wr.cell? ⟨g + 1, 0, none⟩ = some (.int .i64 F) := G.r.cell 0
    have XG := Lib.hid (show DGoing w wr g F C i0 s bs k (dCells Ak ck Aw cw sk) from G)
    have HSK := Lib.hid hsk
    have HN := Lib.hid (⟨n1, n2, n3, n4⟩ : _ ∧ _ ∧ _ ∧ _)
    have HOK1 := Lib.hid ok1
    have HZK := Lib.hid hzk
    have HMK := Lib.hid hmany
    have HRV := Lib.hid hrv
    have HKK := Lib.hid hK
    clear n1 n2 n3 n4 ok1 hzk hsk G hmany hrv hK
    by_cases hlt : K < L
    · have d0 : decide (K < L) = true := decide_eq_true hlt
      have hkb : k ≤ 1000000 := by
        have h1 : k * 1 ≤ k * z := Nat.mul_le_mul_left k (by omega)
        have := HKK.out
        omega
      obtain ⟨M, hM⟩ : ∃ M : Nat, min L (K + z) = M := ⟨_, rfl⟩
      have hmin : min (L : Int) ((K : Int) + (z : Int)) = (M : Int) := by omega
      have hM1 : M ≤ L := by omega
      have hM2 : K ≤ M := by omega
      have hcut0 := HCut.out k
      have hfill0 := HFill.out k
      have hKS : (k + 1) * z = K + z := by rw [Nat.add_mul, HKK.out, Nat.one_mul]
      rw [hKS, HKK.out, hM] at hcut0
      rw [HKK.out] at hfill0
      obtain ⟨ch, hch⟩ : ∃ ch, (bs.drop K).take z = ch := ⟨_, rfl⟩
      rw [hch] at hcut0 hfill0
      have hcl : ch.length = M - K := by rw [← hch, List.length_take, List.length_drop, HL.out]; omega
      obtain ⟨S1, hS1⟩ : ∃ S1, strOfNums ch = S1 := ⟨_, rfl⟩
      have hs1z : S1.size = M - K := by rw [← hS1, strOfNums_size, hcl]
      rw [hS1] at hcut0 hfill0
      rw [hcl] at hfill0
      obtain ⟨n, hn⟩ : ∃ n : Nat, z - (M - K) = n := ⟨_, rfl⟩
      have hzn : (z : Int) - ((M - K : Nat) : Int) = (n : Int) := by omega
      have hn1 : n ≤ z := by omega
      rw [hn] at hfill0
      obtain ⟨Z1, hZ1⟩ : ∃ Z1, strOfNums (List.replicate n 0) = Z1 := ⟨_, rfl⟩
      have hz1z : Z1.size = n := by rw [← hZ1, strOfNums_size, List.length_replicate]
      rw [hZ1] at hfill0
      have HZ1 := Lib.hid hZ1
      have HCH := Lib.hid hfill0
      have hadd : ∀ W, (Op.stringOp .add S1 Z1).run Try.prog W = .ok (.string (strOfNums (chunkP z bs k))) W := fun W => by
        rw [← HCH.out]
        exact run_string_add W S1 Z1 (by omega) (by omega)
      have HM := Lib.hid (⟨hM, hn, hlt⟩ : _ ∧ _ ∧ _)
      have HKM : Hid (k < manyP z bs) := Lib.hid (HMK.out.2 hlt)
      clear hM hS1 hn hZ1 hch hKS hfill0 hcl hlt hz1z
      go_wp2_with (at_make; refine wpList_make_ints _ rfl _ _ _ rfl elem8 n n rfl rfl rfl rfl (Nat.le_refl _) (by omega) ?_; intro w5 own5 hb5 hl5; obtain ⟨A5, c5, he5, _, _, hh5⟩ := own5.opened; have kc := conv_bytes (P := Try.prog) Try.underlying51 Try.underlying5 Try.underlying9 w5 A5 (List.replicate n 0) c5 _ hh5; rw [← he5, HZ1.out] at kc; clear he5 hh5 own5)
      have G5 := XG.out.below hb5
      have P0 := Lib.hid G5.ok
      obtain ⟨Q, hQ⟩ : ∃ Q : Nat, b / z = Q := ⟨_, rfl⟩
      have HQ : Hid ((b : Int).tdiv (z : Int) = (Q : Int)) := Lib.hid (by rw [← hQ]; exact (Int.ofNat_tdiv b z).symm)
      have HQ3 : Hid ((b : Int) / (z : Int) = (Q : Int)) := Lib.hid (by rw [← hQ]; exact (Int.natCast_ediv b z).symm)
      have HI2 : Hid (F + (Q : Int) = i0) := Lib.hid (by rw [← hQ, ← HZ.out]; exact HI0.out)
      have hQb : Q ≤ b := by rw [← hQ]; exact Nat.div_le_self _ _
      have hi0b : -1000000 ≤ i0 ∧ i0 ≤ 8589934592 := by have := HI2.out; omega
      obtain ⟨n1, n2, n3, n4⟩ := HN.out
      obtain ⟨E, hE⟩ : ∃ E, errS s i0 bs k = E := ⟨_, rfl⟩
      obtain ⟨s1, hs1⟩ : ∃ s1, wrS s i0 bs (k + 1) = s1 := ⟨_, rfl⟩
      have GW : Hid (∀ W, RDv W (.agg (dCells Ak ck Aw cw sk)) (wrS s i0 bs k) → Calls Try.prog 33 #[.agg (dCells Ak ck Aw cw sk), .int .i64 (i0 + (k : Int)), .string (strOfNums (chunkP z bs k))] W (GivesED E s1 W)) := Lib.hid (fun W hv => by
        rw [HSK.out] at hv
        have := rwrite_any _ sk (i0 + (k : Int)) (chunkP z bs k) W hv HOK1.out (by omega) (by rw [chunkP_length]; omega) (by omega) (by omega)
        have e : sk.write (i0 + (k : Int)) (chunkP z bs k) = (E, s1) := by
          rw [← hE, ← hs1, ← HSK.out, ← HZ.out]
          rfl
        rwa [e] at this)
      have HE := Lib.hid hE
      have HS1 := Lib.hid hs1
      have RV5 : RDv w5 (.agg (dCells Ak ck Aw cw sk)) sk := by have := G5.v; rwa [HSK.out] at this
      clear n1 n2 n3 n4 hE hs1 kc hadd hcut0 hs1z hmin hzn hQ XG
      go_cut [13, 14] (fun v13 v14 wx => v13 = .int .i64 E ∧ Mid7 w wx g F C s1 v14)
      case first =>
        have P : DGoing w w5.drew g F C i0 s bs k (dCells Ak ck Aw cw sk) := G5.below (below_draws (Below.refl _ _) 1)
        have hZ0 : ∀ W, Block W g 49 (dCells Ak ck Aw cw sk) → W.cell? ⟨g, 0, none⟩ = some (.int .i64 (z : Int)) := fun W hW => by (rw [hW.cell 0]; unfold dCells; rw [HZK.out]; rfl)
        refine wp_region_held_drew (S := fun W => Block W g 49 (dCells Ak ck Aw cw sk) ∧ Block W (g + 1) 25 #[.int .i64 F, .int .i64 C]) (by kernel_rfl) ⟨P.x, P.r⟩ (fun hS => ?_)
        refine wpAnyH_take (i := 0) (oi := ⟨some 75, _, _, _, _, _⟩) (v := .agg (dCells Ak ck Aw cw sk)) rfl (by kernel_rfl) (by kernel_rfl) (by kernel_rfl) (fun _ _ _ h => h) (yieldsIf_load_mid (by rfl) _ _ rfl g (0) rfl (dCells Ak ck Aw cw sk).toList _ (fun W hW => block_range hW.1) Try.underlying49 rfl (by kernel_rfl)) hS ?_
        try simp only [Act.put, List.setIfInBounds_toArray, List.set_cons_zero, List.set_cons_succ]
        refine wpAnyH_take (i := 1) (oi := ⟨some 76, _, _, _, _, _⟩) (v := .pointer (some ⟨g + 1, 0, none⟩)) rfl (by kernel_rfl) (by kernel_rfl) (by kernel_rfl) (fun _ _ _ h => h) (Or.inl ⟨by rfl, fun W hW => by go_simp⟩) hS ?_
        try simp only [Act.put, List.setIfInBounds_toArray, List.set_cons_zero, List.set_cons_succ]
        refine wpAnyH_take (i := 3) (oi := ⟨some 78, _, _, _, _, _⟩) (v := .int .i64 (b : Int)) rfl (by kernel_rfl) (by kernel_rfl) (by kernel_rfl) (fun _ _ _ h => h) (Or.inl ⟨by rfl, fun W hW => by go_simp⟩) hS ?_
        try simp only [Act.put, List.setIfInBounds_toArray, List.set_cons_zero, List.set_cons_succ]
        refine wpAnyH_take (i := 4) (oi := ⟨some 79, _, _, _, _, _⟩) (v := .pointer (some ⟨g, 0, none⟩)) rfl (by kernel_rfl) (by kernel_rfl) (by kernel_rfl) (fun _ _ _ h => h) (Or.inl ⟨by rfl, fun W hW => by go_simp⟩) hS ?_
        try simp only [Act.put, List.setIfInBounds_toArray, List.set_cons_zero, List.set_cons_succ]
        refine wpAnyH_take (i := 8) (oi := ⟨some 83, _, _, _, _, _⟩) (v := .int .i64 (k : Int)) rfl (by kernel_rfl) (by kernel_rfl) (by kernel_rfl) (fun _ _ _ h => h) (Or.inl ⟨by rfl, fun W hW => by go_simp⟩) hS ?_
        try simp only [Act.put, List.setIfInBounds_toArray, List.set_cons_zero, List.set_cons_succ]
        refine wpAnyH_take (i := 10) (oi := ⟨some 85, _, _, _, _, _⟩) (v := .string (strOfNums (chunkP z bs k))) rfl (by kernel_rfl) (by kernel_rfl) (by kernel_rfl) (fun _ _ _ h => h) (Or.inl ⟨by rfl, fun W hW => by go_simp⟩) hS ?_
        try simp only [Act.put, List.setIfInBounds_toArray, List.set_cons_zero, List.set_cons_succ]
        refine wpAnyH_take (i := 2) (oi := ⟨some 77, _, _, _, _, _⟩) (v := .int .i64 F) rfl (by kernel_rfl) (by kernel_rfl) (by kernel_rfl) (fun _ _ _ h => h) (Or.inl ⟨by rfl, fun W hW => by have q0 : W.cell? ⟨g + 1, 0, none⟩ = some (.int .i64 F) := Block.cell hW.2 0; go_simp⟩) hS ?_
        try simp only [Act.put, List.setIfInBounds_toArray, List.set_cons_zero, List.set_cons_succ]
        refine wpAnyH_take (i := 5) (oi := ⟨some 80, _, _, _, _, _⟩) (v := .int .i64 (z : Int)) rfl (by kernel_rfl) (by kernel_rfl) (by kernel_rfl) (fun _ _ _ h => h) (Or.inl ⟨by rfl, fun W hW => by have q0 := hZ0 W hW.1; go_simp⟩) hS ?_
        try simp only [Act.put, List.setIfInBounds_toArray, List.set_cons_zero, List.set_cons_succ]
        refine wpAnyH_take (i := 6) (oi := ⟨some 81, _, _, _, _, _⟩) (v := .int .i64 (Q : Int)) rfl (by kernel_rfl) (by kernel_rfl) (by kernel_rfl) (fun _ _ _ h => h) (Or.inl ⟨by rfl, fun W hW => by go_simp; first | exact IntWalk.i64_in _ (by omega) | (rw [HQ.out]; exact IntWalk.i64_in _ (by omega)) | (rw [HQ3.out]; exact IntWalk.i64_in _ (by omega))⟩) hS ?_
        try simp only [Act.put, List.setIfInBounds_toArray, List.set_cons_zero, List.set_cons_succ]
        refine wpAnyH_take (i := 7) (oi := ⟨some 82, _, _, _, _, _⟩) (v := .int .i64 i0) rfl (by kernel_rfl) (by kernel_rfl) (by kernel_rfl) (fun _ _ _ h => h) (Or.inl ⟨by rfl, fun W hW => by go_simp; rw [HI2.out]; exact IntWalk.i64_in _ (by omega)⟩) hS ?_
        try simp only [Act.put, List.setIfInBounds_toArray, List.set_cons_zero, List.set_cons_succ]
        refine wpAnyH_take (i := 9) (oi := ⟨some 84, _, _, _, _, _⟩) (v := .int .i64 (i0 + (k : Int))) rfl (by kernel_rfl) (by kernel_rfl) (by kernel_rfl) (fun _ _ _ h => h) (Or.inl ⟨by rfl, fun W hW => by go_simp; exact IntWalk.i64_in _ (by omega)⟩) hS ?_
        try simp only [Act.put, List.setIfInBounds_toArray, List.set_cons_zero, List.set_cons_succ]
        refine wpAnyH_ready (rs := [11, 15]) (by kernel_rfl) (by simp) ?_
        refine AllReadyH.cons rfl (fun K hK => ?_) (AllReadyH.cons rfl (fun K hK => ?_) AllReadyH.nil)
        · go_simp
          go_at_call 33
          refine (GW.out _ P.v).mono ?_
          rintro e x1 ⟨v1, rfl, RV1, hb1⟩
          obtain ⟨Ak1, ck1, Aw1, cw1, rfl, hr1⟩ := RV1
          have RV1 : RDv x1 (.agg (dCells Ak1 ck1 Aw1 cw1 s1)) s1 := ⟨Ak1, ck1, Aw1, cw1, rfl, hr1⟩
          have P1 := P.below hb1
          clear hr1
          refine hK.out _ _ ⟨P1.x, P1.r⟩ (fun hS => ?_)
          clear hK K
          try simp only [Act.put, List.setIfInBounds_toArray, List.set_cons_zero, List.set_cons_succ]
          refine wpAnyH_take (i := 12) (oi := ⟨some 74, _, _, _, _, _⟩) (v := .tuple #[.int .i64 E, .agg (dCells Ak1 ck1 Aw1 cw1 s1)]) rfl (by kernel_rfl) (by kernel_rfl) (by kernel_rfl) (fun _ _ _ h => h) (Or.inl ⟨by rfl, fun W hW => by go_simp⟩) hS ?_
          try simp only [Act.put, List.setIfInBounds_toArray, List.set_cons_zero, List.set_cons_succ]
          refine wpAnyH_take (i := 13) (oi := ⟨some 87, _, _, _, _, _⟩) (v := .int .i64 E) rfl (by kernel_rfl) (by kernel_rfl) (by kernel_rfl) (fun _ _ _ h => h) (Or.inl ⟨by rfl, fun W hW => by go_simp⟩) hS ?_
          try simp only [Act.put, List.setIfInBounds_toArray, List.set_cons_zero, List.set_cons_succ]
          refine wpAnyH_take (i := 14) (oi := ⟨some 88, _, _, _, _, _⟩) (v := .agg (dCells Ak1 ck1 Aw1 cw1 s1)) rfl (by kernel_rfl) (by kernel_rfl) (by kernel_rfl) (fun _ _ _ h => h) (Or.inl ⟨by rfl, fun W hW => by go_simp⟩) hS ?_
          try simp only [Act.put, List.setIfInBounds_toArray, List.set_cons_zero, List.set_cons_succ]
          refine wpAnyH_ready (rs := [15]) (by kernel_rfl) (by simp) ?_
          refine AllReadyH.cons rfl (fun K hK => ?_) AllReadyH.nil
          go_simp
          have B2 : Below x1.heap.size x1 (x1.alloc (.cells zD 49)) := (Below.refl _ _).alloc (Nat.le_refl _) _
          have Z2 : Block (x1.alloc (.cells zD 49)) x1.heap.size 49 zD := Block.new _ _ _
          have P2 := P1.below B2
          have RV2 := RV1.below B2
          have hg2 := P1.b.size
          have hne := P1.z.lt
          refine hK.out _ _ ⟨P2.x, P2.r⟩ (fun hS => ?_)
          clear hK K
          try simp only [Act.put, List.setIfInBounds_toArray, List.set_cons_zero, List.set_cons_succ]
          refine wpAnyH_ready (rs := [16]) (by kernel_rfl) (by simp) ?_
          refine AllReadyH.cons rfl (fun K hK => ?_) AllReadyH.nil
          go_simp
          refine hK.out _ _ ⟨P2.x, P2.r⟩ (fun hS => ?_)
          clear hK K
          try simp only [Act.put, List.setIfInBounds_toArray, List.set_cons_zero, List.set_cons_succ]
          refine wpAnyH_ready (rs := [17]) (by kernel_rfl) (by simp) ?_
          refine AllReadyH.cons rfl (fun K hK => ?_) AllReadyH.nil
          refine step_store_blk rfl _ _ _ rfl (cs := zD) (ds := (dCells Ak1 ck1 Aw1 cw1 s1).toList) (by exact Z2) rfl rfl rfl (by kernel_rfl) (dCells_one _ _ _ _ _) ?_
          intro x3 Z3 g3
          have X3 := P2.x.grown g3 (by intro h; injection h with h; omega)
          have R3 := P2.r.grown g3 (by intro h; injection h with h; omega)
          have Y3 := P2.z.grown g3 (by intro h; injection h with h; omega)
          have RV3 := RV2.kept Z2 zD_noText g3
          have B3 := P2.b.trans (below_of_grown g3 P2.b.size fun b hb => by injection hb with hb; omega)
          refine hK.out _ _ ⟨X3, R3⟩ (fun hS => ?_)
          clear hK K
          try simp only [Act.put, List.setIfInBounds_toArray, List.set_cons_zero, List.set_cons_succ]
          refine wpAnyH_done (by kernel_rfl) ?_ _
          go_wp2_with fail
          go_meet
          exact ⟨rfl, _, _, _, rfl, ⟨rfl, dCells_noText _ _ _ _ _⟩, X3, R3, Y3, Z3, RV3, B3, by omega⟩
        · go_simp
          have B0 : Below w5.drew.heap.size w5.drew (w5.drew.alloc (.cells zD 49)) := (Below.refl _ _).alloc (Nat.le_refl _) _
          have Z0 : Block (w5.drew.alloc (.cells zD 49)) w5.drew.heap.size 49 zD := Block.new _ _ _
          have P0 := P.below B0
          have hg2 : w.heap.size ≤ w5.heap.size := P.b.size
          have hne : g + 1 + 1 < w5.heap.size := P.z.lt
          refine hK.out _ _ ⟨P0.x, P0.r⟩ (fun hS => ?_)
          clear hK K
          try simp only [Act.put, List.setIfInBounds_toArray, List.set_cons_zero, List.set_cons_succ]
          refine wpAnyH_ready (rs := [11]) (by kernel_rfl) (by simp) ?_
          refine AllReadyH.cons rfl (fun K hK => ?_) AllReadyH.nil
          go_simp
          go_at_call 33
          refine (GW.out _ P0.v).mono ?_
          rintro e x1 ⟨v1, rfl, RV1, hb1⟩
          obtain ⟨Ak1, ck1, Aw1, cw1, rfl, hr1⟩ := RV1
          have RV1 : RDv x1 (.agg (dCells Ak1 ck1 Aw1 cw1 s1)) s1 := ⟨Ak1, ck1, Aw1, cw1, rfl, hr1⟩
          have P1 := P0.below hb1
          clear hr1
          refine hK.out _ _ ⟨P1.x, P1.r⟩ (fun hS => ?_)
          clear hK K
          try simp only [Act.put, List.setIfInBounds_toArray, List.set_cons_zero, List.set_cons_succ]
          refine wpAnyH_take (i := 12) (oi := ⟨some 74, _, _, _, _, _⟩) (v := .tuple #[.int .i64 E, .agg (dCells Ak1 ck1 Aw1 cw1 s1)]) rfl (by kernel_rfl) (by kernel_rfl) (by kernel_rfl) (fun _ _ _ h => h) (Or.inl ⟨by rfl, fun W hW => by go_simp⟩) hS ?_
          try simp only [Act.put, List.setIfInBounds_toArray, List.set_cons_zero, List.set_cons_succ]
          refine wpAnyH_take (i := 13) (oi := ⟨some 87, _, _, _, _, _⟩) (v := .int .i64 E) rfl (by kernel_rfl) (by kernel_rfl) (by kernel_rfl) (fun _ _ _ h => h) (Or.inl ⟨by rfl, fun W hW => by go_simp⟩) hS ?_
          try simp only [Act.put, List.setIfInBounds_toArray, List.set_cons_zero, List.set_cons_succ]
          refine wpAnyH_take (i := 14) (oi := ⟨some 88, _, _, _, _, _⟩) (v := .agg (dCells Ak1 ck1 Aw1 cw1 s1)) rfl (by kernel_rfl) (by kernel_rfl) (by kernel_rfl) (fun _ _ _ h => h) (Or.inl ⟨by rfl, fun W hW => by go_simp⟩) hS ?_
          try simp only [Act.put, List.setIfInBounds_toArray, List.set_cons_zero, List.set_cons_succ]
          have Z2 := Z0.below hb1 Z0.lt
          have P2 := P1
          have RV2 := RV1
          refine wpAnyH_ready (rs := [16]) (by kernel_rfl) (by simp) ?_
          refine AllReadyH.cons rfl (fun K hK => ?_) AllReadyH.nil
          go_simp
          refine hK.out _ _ ⟨P2.x, P2.r⟩ (fun hS => ?_)
          clear hK K
          try simp only [Act.put, List.setIfInBounds_toArray, List.set_cons_zero, List.set_cons_succ]
          refine wpAnyH_ready (rs := [17]) (by kernel_rfl) (by simp) ?_
          refine AllReadyH.cons rfl (fun K hK => ?_) AllReadyH.nil
          refine step_store_blk rfl _ _ _ rfl (cs := zD) (ds := (dCells Ak1 ck1 Aw1 cw1 s1).toList) (by exact Z2) rfl rfl rfl (by kernel_rfl) (dCells_one _ _ _ _ _) ?_
          intro x3 Z3 g3
          have X3 := P2.x.grown g3 (by intro h; injection h with h; omega)
          have R3 := P2.r.grown g3 (by intro h; injection h with h; omega)
          have Y3 := P2.z.grown g3 (by intro h; injection h with h; omega)
          have RV3 := RV2.kept Z2 zD_noText g3
          have B3 := P2.b.trans (below_of_grown g3 P2.b.size fun b hb => by injection hb with hb; omega)
          refine hK.out _ _ ⟨X3, R3⟩ (fun hS => ?_)
          clear hK K
          try simp only [Act.put, List.setIfInBounds_toArray, List.set_cons_zero, List.set_cons_succ]
          refine wpAnyH_done (by kernel_rfl) ?_ _
          go_wp2_with fail
          go_meet
          exact ⟨rfl, _, _, _, rfl, ⟨rfl, dCells_noText _ _ _ _ _⟩, X3, R3, Y3, Z3, RV3, B3, by omega⟩
      case rest =>
        obtain ⟨rfl, g2, cs, cs2, rfl, ⟨hcz, hnt⟩, X4, R4, Y4, Z4, RV4, B4, hgg⟩ := hcut
        rename World => w4
        obtain ⟨Ak1, ck1, Aw1, cw1, hce, hr4⟩ := RV4
        injection hce with hce
        subst hce
        have RV4 : RDv w4 (.agg (dCells Ak1 ck1 Aw1 cw1 s1)) s1 := ⟨Ak1, ck1, Aw1, cw1, rfl, hr4⟩
        clear hr4
        have hgw := G5.g
        clear G5 RV5 GW hb5
        go_upto_region 13 with (first
          | (have _t := Z4; refine wpList_load_midV (by rfl) _ _ rfl g2 0 rfl (dCells Ak1 ck1 Aw1 cw1 s1).toList (block_range Z4) Try.underlying49 rfl (by kernel_rfl) ?_; clear _t Z4)
          | (have _t := X4; refine wpList_store_blk (cs := cs) rfl _ _ _ rfl (ds := (dCells Ak1 ck1 Aw1 cw1 s1).toList) (by exact X4) rfl rfl (by rw [hcz]; rfl) (by kernel_rfl) (dCells_one _ _ _ _ _) ?_; clear _t; intro w6 X6 g6))
        try simp only [Act.put]
        have R6 := R4.grown g6 (by intro h; injection h with h; omega)
        have Y6 := Y4.grown g6 (by intro h; injection h with h; omega)
        have RV6 := RV4.kept X4 hnt g6
        have B6 := B4.trans (below_of_grown g6 B4.size fun b hb => by injection hb with hb; omega)
        clear X4 R4 Y4 RV4 B4 g6
        by_cases hE0 : E = 0
        · subst hE0
          have HG6 : Hid (DGoing w w6 g F C i0 s bs (k + 1) (dCells Ak1 ck1 Aw1 cw1 s1)) := Lib.hid ⟨X6, R6, Y6, by rw [HS1.out]; exact RV6, B6, fun j hj => by
            rcases Nat.lt_or_ge j k with h | h
            · exact P0.out j h
            · obtain rfl : j = k := by omega
              exact HE.out, hgw⟩
          have HK1 : Hid (k + 1 ≤ manyP z bs) := Lib.hid HKM.out
          clear X6 R6 Y6 RV6 B6
          go_wp2_with fail
          go_roundw
          case rel => exact ⟨k + 1, _, HK1.out, by go_num, HG6.out⟩
          case measure =>
            have := HKM.out
            simp only [intOf]
            omega
        · have d1 : (E != 0) = true := by simpa using hE0
          go_wp2_with fail
          have X9 : Block w6.drew g 49 (dCells Ak1 ck1 Aw1 cw1 s1) := Block.drewN X6 1
          have Y9 : Block w6.drew (g + 1 + 1) 49 zD := Block.drewN Y6 1
          have B9 : Below w.heap.size w w6.drew := below_draws B6 1
          have RV9 := RDv.below RV6 (below_draws (Below.refl _ _) 1)
          refine wp_region_held_drew (S := fun W => Block W g 49 (dCells Ak1 ck1 Aw1 cw1 s1)) (by kernel_rfl) X6 (fun hS => ?_)
          refine wpAnyH_take (i := 0) (oi := ⟨some 92, _, _, _, _, _⟩) (v := .int .i64 E) rfl (by kernel_rfl) (by kernel_rfl) (by kernel_rfl) (fun _ _ _ h => h) (Or.inl ⟨by rfl, fun W hW => by go_simp⟩) hS ?_
          try simp only [Act.put, List.setIfInBounds_toArray, List.set_cons_zero, List.set_cons_succ]
          refine wpAnyH_take (i := 1) (oi := ⟨some 93, _, _, _, _, _⟩) (v := .agg (dCells Ak1 ck1 Aw1 cw1 s1)) rfl (by kernel_rfl) (by kernel_rfl) (by kernel_rfl) (fun _ _ _ h => h) (yieldsIf_load_mid (by rfl) _ _ rfl g (0) rfl (dCells Ak1 ck1 Aw1 cw1 s1).toList _ (fun W hW => block_range hW) Try.underlying49 rfl (by kernel_rfl)) hS ?_
          try simp only [Act.put, List.setIfInBounds_toArray, List.set_cons_zero, List.set_cons_succ]
          refine wpAnyH_ready (rs := [2]) (by kernel_rfl) (by simp) ?_
          refine AllReadyH.cons rfl (fun K hK => ?_) AllReadyH.nil
          go_simp
          refine hK.out _ _ X9 (fun hS => ?_)
          clear hK K
          try simp only [Act.put, List.setIfInBounds_toArray, List.set_cons_zero, List.set_cons_succ]
          refine wpAnyH_ready (rs := [3]) (by kernel_rfl) (by simp) ?_
          refine AllReadyH.cons rfl (fun K hK => ?_) AllReadyH.nil
          refine step_store_blk rfl _ _ _ rfl (cs := zD) (ds := (dCells Ak1 ck1 Aw1 cw1 s1).toList) (by exact Y9) rfl rfl rfl (by kernel_rfl) (dCells_one _ _ _ _ _) ?_
          intro x9 Z9 g9
          have X10 := X9.grown g9 (by intro h; injection h with h; omega)
          have RV10 := RV9.kept Y9 zD_noText g9
          have B10 := B9.trans (below_of_grown g9 B9.size fun b hb => by injection hb with hb; omega)
          refine hK.out _ _ X10 (fun hS => ?_)
          clear hK K
          try simp only [Act.put, List.setIfInBounds_toArray, List.set_cons_zero, List.set_cons_succ]
          refine wpAnyH_done (by kernel_rfl) ?_ _
          go_wp2_with fail
          exact bodyPost_ret (v := .tuple #[.int .i64 E, .agg (dCells Ak1 ck1 Aw1 cw1 s1)]) (results_tmp_row rfl _ _ (g + 1 + 1) 49 _ (0, 0) _ _ rfl rfl Z9 Try.underlying49 rfl (by kernel_rfl)) rfl ⟨(E, s1), Or.inl ⟨k, by rw [HZ.out]; exact HKM.out, P0.out, by rw [HE.out]; exact hE0, by rw [HE.out, HS1.out]⟩, _, rfl, RV10, B10⟩
    · have d0 : decide (K < L) = false := decide_eq_false hlt
      have hke : k = manyP z bs := by
        rcases Nat.lt_or_ge k (manyP z bs) with h | h
        · exact absurd (HMK.out.1 h) hlt
        · omega
      have HV2 : Hid (RDv wr (.agg (dCells Ak ck Aw cw sk)) sk) := Lib.hid (by have := XG.out.v; rwa [HSK.out] at this)
      have hgw := XG.out.g
      have HKE := Lib.hid hke
      clear hke
      go_wp2_with fail
      have hke := HKE.out
      have X9 : Block wr.drew g 49 (dCells Ak ck Aw cw sk) := Block.drewN XG.out.x 1
      have Y9 : Block wr.drew (g + 1 + 1) 49 zD := Block.drewN XG.out.z 1
      have B9 : Below w.heap.size w wr.drew := below_draws XG.out.b 1
      have RV9 := RDv.below HV2.out (below_draws (Below.refl _ _) 1)
      refine wp_region_held_drew (S := fun W => Block W g 49 (dCells Ak ck Aw cw sk)) (by kernel_rfl) XG.out.x (fun hS => ?_)
      refine wpAnyH_take (i := 0) (oi := ⟨some 94, _, _, _, _, _⟩) (v := .agg (dCells Ak ck Aw cw sk)) rfl (by kernel_rfl) (by kernel_rfl) (by kernel_rfl) (fun _ _ _ h => h) (yieldsIf_load_mid (by rfl) _ _ rfl g (0) rfl (dCells Ak ck Aw cw sk).toList _ (fun W hW => block_range hW) Try.underlying49 rfl (by kernel_rfl)) hS ?_
      try simp only [Act.put, List.setIfInBounds_toArray, List.set_cons_zero, List.set_cons_succ]
      refine wpAnyH_ready (rs := [1]) (by kernel_rfl) (by simp) ?_
      refine AllReadyH.cons rfl (fun K hK => ?_) AllReadyH.nil
      go_simp
      refine hK.out _ _ X9 (fun hS => ?_)
      clear hK K
      try simp only [Act.put, List.setIfInBounds_toArray, List.set_cons_zero, List.set_cons_succ]
      refine wpAnyH_ready (rs := [2]) (by kernel_rfl) (by simp) ?_
      refine AllReadyH.cons rfl (fun K hK => ?_) AllReadyH.nil
      refine step_store_blk rfl _ _ _ rfl (cs := zD) (ds := (dCells Ak ck Aw cw sk).toList) (by exact Y9) rfl rfl rfl (by kernel_rfl) (dCells_one _ _ _ _ _) ?_
      intro x9 Z9 g9
      have X10 := X9.grown g9 (by intro h; injection h with h; omega)
      have RV10 := RV9.kept Y9 zD_noText g9
      have B10 := B9.trans (below_of_grown g9 B9.size fun b hb => by injection hb with hb; omega)
      refine hK.out _ _ X10 (fun hS => ?_)
      clear hK K
      try simp only [Act.put, List.setIfInBounds_toArray, List.set_cons_zero, List.set_cons_succ]
      refine wpAnyH_done (by kernel_rfl) ?_ _
      go_wp2_with fail
      exact bodyPost_ret (v := .tuple #[.int .i64 0, .agg (dCells Ak ck Aw cw sk)]) (results_tmp_row rfl _ _ (g + 1 + 1) 49 _ (0, 0) _ _ rfl rfl Z9 Try.underlying49 rfl (by kernel_rfl)) rfl ⟨(0, sk), Or.inr ⟨by rw [HZ.out, ← hke]; exact XG.out.ok, by rw [HZ.out, ← hke, HSK.out]⟩, _, rfl, RV10, B10⟩

set_option maxRecDepth 100000 in
set_option maxHeartbeats 6400000 in
theorem rpwrite_no (v : Value) (s : Dv) (F C : Int) (T : Nat) (x : Int) (bs : List Int) (w : World) (h : RDv w v s) (hok : s.Ok) (hl : Lies s F C T) (hx : -9223372036854775808 ≤ x ∧ x ≤ 9223372036854775807) (hbl : bs.length ≤ 1000000)
    (hno : ¬ (x.tmod s.size = 0 ∧ 0 ≤ x ∧ x ≤ T ∧ 0 ≤ (bs.length : Int) ∧ (bs.length : Int) ≤ T - x)) :
    Calls Try.prog 19 #[v, .agg #[.int .i64 F, .int .i64 C], .int .i64 x, .string (strOfNums bs)] w fun e w' => ∃ r : Int × Dv, r = (if x.tmod s.size ≠ 0 then 1 else 5, s) ∧ GivesED r.1 r.2 w e w' := by
  have hT := hl.most hok
  have hs1 := hok.s1
  have hs2 := hok.s2
  have hCS := hl.t
  have HSz := Lib.hid (strOfNums_size bs)
  obtain ⟨Ak, ck, Aw, cw, rfl, hr0⟩ := h
  have G0 : Hid (DGoing w (((w.alloc (.cells (dCells Ak ck Aw cw s) 49)).alloc (.cells #[.int .i64 F, .int .i64 C] 25)).alloc (.cells zD 49)) w.heap.size F C 0 s bs 0 (dCells Ak ck Aw cw s)) := Lib.hid
    ⟨((Block.new w _ _).alloc _).alloc _, (block_two w _ _ _).alloc _, block_three w _ _ _ _, RDv.below ⟨Ak, ck, Aw, cw, rfl, hr0⟩ (below_three w _ _ _), below_three w _ _ _, fun j hj => absurd hj (by omega), Nat.le_refl _⟩
  obtain ⟨S, hS⟩ : ∃ S, strOfNums bs = S := ⟨_, rfl⟩
  rw [hS] at HSz ⊢
  have hsz : S.size = bs.length := HSz.out
  have hzz : ¬ s.size = 0 := by omega
  unfold zD at G0
  unfold dCells at G0 ⊢
  clear hr0 hS hok hl
  by_cases hm : x.tmod s.size = 0
  · have hin : ¬ (0 ≤ x ∧ x ≤ (T : Int) ∧ 0 ≤ (bs.length : Int) ∧ (bs.length : Int) ≤ (T : Int) - x) := fun h => hno ⟨hm, h⟩
    simp only [if_neg (not_not_intro hm)]
    have hrem := hm
    have h3 : (decide (x < 0) = true) ∨ (decide (x < 0) = false ∧ decide ((T : Int) < x) = true) ∨ (decide (x < 0) = false ∧ decide ((T : Int) < x) = false ∧ decide ((T : Int) - x < (bs.length : Int)) = true) := by
      by_cases h1 : x < 0
      · exact Or.inl (decide_eq_true h1)
      · by_cases h2 : (T : Int) < x
        · exact Or.inr (Or.inl ⟨decide_eq_false h1, decide_eq_true h2⟩)
        · exact Or.inr (Or.inr ⟨decide_eq_false h1, decide_eq_false h2, decide_eq_true (by omega)⟩)
    clear hno hin hm
    generalize bs.length = L at *
    rcases h3 with d1 | ⟨d1, d2⟩ | ⟨d1, d2, d3⟩
    · have b0 : (x.tmod (s.size : Int) != 0) = false := by rw [hrem]; rfl
      clear hrem
      go_enter Try.func19, Try.ntmps19
      go_wp2_with fail
      generalize hW3 : ((w.alloc _).alloc _).alloc _ = w3 at *
      generalize hg : w.heap.size = g at G0 ⊢
      clear hW3
      have X9 : Block w3.drew g 49 (dCells Ak ck Aw cw s) := Block.drewN G0.out.x 1
      have Y9 : Block w3.drew (g + 1 + 1) 49 zD := Block.drewN G0.out.z 1
      have B9 : Below w.heap.size w w3.drew := below_draws G0.out.b 1
      have RV9 := RDv.below G0.out.v (below_draws (Below.refl _ _) 1)
      refine wp_region_held_drew (S := fun W => Block W g 49 (dCells Ak ck Aw cw s)) (by kernel_rfl) G0.out.x (fun hS => ?_)
      refine wpAnyH_take (i := 0) (oi := ⟨some 41, _, _, _, _, _⟩) (v := .agg (dCells Ak ck Aw cw s)) rfl (by kernel_rfl) (by kernel_rfl) (by kernel_rfl) (fun _ _ _ h => h) (yieldsIf_load_mid (by rfl) _ _ rfl g (0) rfl (dCells Ak ck Aw cw s).toList _ (fun W hW => block_range hW) Try.underlying49 rfl (by kernel_rfl)) hS ?_
      try simp only [Act.put, List.setIfInBounds_toArray, List.set_cons_zero, List.set_cons_succ]
      refine wpAnyH_ready (rs := [1]) (by kernel_rfl) (by simp) ?_
      refine AllReadyH.cons rfl (fun K hK => ?_) AllReadyH.nil
      go_simp
      refine hK.out _ _ X9 (fun hS => ?_)
      clear hK K
      try simp only [Act.put, List.setIfInBounds_toArray, List.set_cons_zero, List.set_cons_succ]
      refine wpAnyH_ready (rs := [2]) (by kernel_rfl) (by simp) ?_
      refine AllReadyH.cons rfl (fun K hK => ?_) AllReadyH.nil
      refine step_store_blk rfl _ _ _ rfl (cs := zD) (ds := (dCells Ak ck Aw cw s).toList) (by exact Y9) rfl rfl rfl (by kernel_rfl) (dCells_one _ _ _ _ _) ?_
      intro x9 Z9 g9
      have X10 := X9.grown g9 (by intro h; injection h with h; omega)
      have RV10 := RV9.kept Y9 zD_noText g9
      have B10 := B9.trans (below_of_grown g9 B9.size fun b hb => by injection hb with hb; omega)
      refine hK.out _ _ X10 (fun hS => ?_)
      clear hK K
      try simp only [Act.put, List.setIfInBounds_toArray, List.set_cons_zero, List.set_cons_succ]
      refine wpAnyH_done (by kernel_rfl) ?_ _
      go_wp2_with fail
      exact bodyPost_ret (v := .tuple #[.int .i64 5, .agg (dCells Ak ck Aw cw s)]) (results_tmp_row rfl _ _ (g + 1 + 1) 49 _ (0, 0) _ _ rfl rfl Z9 Try.underlying49 rfl (by kernel_rfl)) rfl ⟨(5, s), rfl, _, rfl, RV10, B10⟩
    · have b0 : (x.tmod (s.size : Int) != 0) = false := by rw [hrem]; rfl
      clear hrem
      go_enter Try.func19, Try.ntmps19
      go_wp2_with fail
      generalize hW3 : ((w.alloc _).alloc _).alloc _ = w3 at *
      generalize hg : w.heap.size = g at G0 ⊢
      clear hW3
      have X9 : Block w3.drew g 49 (dCells Ak ck Aw cw s) := Block.drewN G0.out.x 1
      have Y9 : Block w3.drew (g + 1 + 1) 49 zD := Block.drewN G0.out.z 1
      have B9 : Below w.heap.size w w3.drew := below_draws G0.out.b 1
      have RV9 := RDv.below G0.out.v (below_draws (Below.refl _ _) 1)
      refine wp_region_held_drew (S := fun W => Block W g 49 (dCells Ak ck Aw cw s)) (by kernel_rfl) G0.out.x (fun hS => ?_)
      refine wpAnyH_take (i := 0) (oi := ⟨some 41, _, _, _, _, _⟩) (v := .agg (dCells Ak ck Aw cw s)) rfl (by kernel_rfl) (by kernel_rfl) (by kernel_rfl) (fun _ _ _ h => h) (yieldsIf_load_mid (by rfl) _ _ rfl g (0) rfl (dCells Ak ck Aw cw s).toList _ (fun W hW => block_range hW) Try.underlying49 rfl (by kernel_rfl)) hS ?_
      try simp only [Act.put, List.setIfInBounds_toArray, List.set_cons_zero, List.set_cons_succ]
      refine wpAnyH_ready (rs := [1]) (by kernel_rfl) (by simp) ?_
      refine AllReadyH.cons rfl (fun K hK => ?_) AllReadyH.nil
      go_simp
      refine hK.out _ _ X9 (fun hS => ?_)
      clear hK K
      try simp only [Act.put, List.setIfInBounds_toArray, List.set_cons_zero, List.set_cons_succ]
      refine wpAnyH_ready (rs := [2]) (by kernel_rfl) (by simp) ?_
      refine AllReadyH.cons rfl (fun K hK => ?_) AllReadyH.nil
      refine step_store_blk rfl _ _ _ rfl (cs := zD) (ds := (dCells Ak ck Aw cw s).toList) (by exact Y9) rfl rfl rfl (by kernel_rfl) (dCells_one _ _ _ _ _) ?_
      intro x9 Z9 g9
      have X10 := X9.grown g9 (by intro h; injection h with h; omega)
      have RV10 := RV9.kept Y9 zD_noText g9
      have B10 := B9.trans (below_of_grown g9 B9.size fun b hb => by injection hb with hb; omega)
      refine hK.out _ _ X10 (fun hS => ?_)
      clear hK K
      try simp only [Act.put, List.setIfInBounds_toArray, List.set_cons_zero, List.set_cons_succ]
      refine wpAnyH_done (by kernel_rfl) ?_ _
      go_wp2_with fail
      exact bodyPost_ret (v := .tuple #[.int .i64 5, .agg (dCells Ak ck Aw cw s)]) (results_tmp_row rfl _ _ (g + 1 + 1) 49 _ (0, 0) _ _ rfl rfl Z9 Try.underlying49 rfl (by kernel_rfl)) rfl ⟨(5, s), rfl, _, rfl, RV10, B10⟩
    · have b0 : (x.tmod (s.size : Int) != 0) = false := by rw [hrem]; rfl
      have hx0 : 0 ≤ x := by have := of_decide_eq_false d1; omega
      have hx1 : x ≤ (T : Int) := by have := of_decide_eq_false d2; omega
      obtain ⟨y, rfl⟩ : ∃ y : Nat, x = (y : Int) := ⟨x.toNat, by omega⟩
      have d2 : decide (T < y) = false := decide_eq_false (by omega)
      clear hx0
      go_enter Try.func19, Try.ntmps19
      go_wp2_with fail
      generalize hW3 : ((w.alloc _).alloc _).alloc _ = w3 at *
      generalize hg : w.heap.size = g at G0 ⊢
      clear hW3
      have X9 : Block w3.drew g 49 (dCells Ak ck Aw cw s) := Block.drewN G0.out.x 1
      have Y9 : Block w3.drew (g + 1 + 1) 49 zD := Block.drewN G0.out.z 1
      have B9 : Below w.heap.size w w3.drew := below_draws G0.out.b 1
      have RV9 := RDv.below G0.out.v (below_draws (Below.refl _ _) 1)
      refine wp_region_held_drew (S := fun W => Block W g 49 (dCells Ak ck Aw cw s)) (by kernel_rfl) G0.out.x (fun hS => ?_)
      refine wpAnyH_take (i := 0) (oi := ⟨some 41, _, _, _, _, _⟩) (v := .agg (dCells Ak ck Aw cw s)) rfl (by kernel_rfl) (by kernel_rfl) (by kernel_rfl) (fun _ _ _ h => h) (yieldsIf_load_mid (by rfl) _ _ rfl g (0) rfl (dCells Ak ck Aw cw s).toList _ (fun W hW => block_range hW) Try.underlying49 rfl (by kernel_rfl)) hS ?_
      try simp only [Act.put, List.setIfInBounds_toArray, List.set_cons_zero, List.set_cons_succ]
      refine wpAnyH_ready (rs := [1]) (by kernel_rfl) (by simp) ?_
      refine AllReadyH.cons rfl (fun K hK => ?_) AllReadyH.nil
      go_simp
      refine hK.out _ _ X9 (fun hS => ?_)
      clear hK K
      try simp only [Act.put, List.setIfInBounds_toArray, List.set_cons_zero, List.set_cons_succ]
      refine wpAnyH_ready (rs := [2]) (by kernel_rfl) (by simp) ?_
      refine AllReadyH.cons rfl (fun K hK => ?_) AllReadyH.nil
      refine step_store_blk rfl _ _ _ rfl (cs := zD) (ds := (dCells Ak ck Aw cw s).toList) (by exact Y9) rfl rfl rfl (by kernel_rfl) (dCells_one _ _ _ _ _) ?_
      intro x9 Z9 g9
      have X10 := X9.grown g9 (by intro h; injection h with h; omega)
      have RV10 := RV9.kept Y9 zD_noText g9
      have B10 := B9.trans (below_of_grown g9 B9.size fun b hb => by injection hb with hb; omega)
      refine hK.out _ _ X10 (fun hS => ?_)
      clear hK K
      try simp only [Act.put, List.setIfInBounds_toArray, List.set_cons_zero, List.set_cons_succ]
      refine wpAnyH_done (by kernel_rfl) ?_ _
      go_wp2_with fail
      exact bodyPost_ret (v := .tuple #[.int .i64 5, .agg (dCells Ak ck Aw cw s)]) (results_tmp_row rfl _ _ (g + 1 + 1) 49 _ (0, 0) _ _ rfl rfl Z9 Try.underlying49 rfl (by kernel_rfl)) rfl ⟨(5, s), rfl, _, rfl, RV10, B10⟩
  · simp only [if_pos hm]
    have b0 : (x.tmod (s.size : Int) != 0) = true := by simpa using hm
    clear hno hm
    go_enter Try.func19, Try.ntmps19
    go_wp2_with fail
    generalize hW3 : ((w.alloc _).alloc _).alloc _ = w3 at *
    generalize hg : w.heap.size = g at G0 ⊢
    clear hW3
    have X9 : Block w3.drew g 49 (dCells Ak ck Aw cw s) := Block.drewN G0.out.x 1
    have Y9 : Block w3.drew (g + 1 + 1) 49 zD := Block.drewN G0.out.z 1
    have B9 : Below w.heap.size w w3.drew := below_draws G0.out.b 1
    have RV9 := RDv.below G0.out.v (below_draws (Below.refl _ _) 1)
    refine wp_region_held_drew (S := fun W => Block W g 49 (dCells Ak ck Aw cw s)) (by kernel_rfl) G0.out.x (fun hS => ?_)
    refine wpAnyH_take (i := 0) (oi := ⟨some 20, _, _, _, _, _⟩) (v := .agg (dCells Ak ck Aw cw s)) rfl (by kernel_rfl) (by kernel_rfl) (by kernel_rfl) (fun _ _ _ h => h) (yieldsIf_load_mid (by rfl) _ _ rfl g (0) rfl (dCells Ak ck Aw cw s).toList _ (fun W hW => block_range hW) Try.underlying49 rfl (by kernel_rfl)) hS ?_
    try simp only [Act.put, List.setIfInBounds_toArray, List.set_cons_zero, List.set_cons_succ]
    refine wpAnyH_ready (rs := [1]) (by kernel_rfl) (by simp) ?_
    refine AllReadyH.cons rfl (fun K hK => ?_) AllReadyH.nil
    go_simp
    refine hK.out _ _ X9 (fun hS => ?_)
    clear hK K
    try simp only [Act.put, List.setIfInBounds_toArray, List.set_cons_zero, List.set_cons_succ]
    refine wpAnyH_ready (rs := [2]) (by kernel_rfl) (by simp) ?_
    refine AllReadyH.cons rfl (fun K hK => ?_) AllReadyH.nil
    refine step_store_blk rfl _ _ _ rfl (cs := zD) (ds := (dCells Ak ck Aw cw s).toList) (by exact Y9) rfl rfl rfl (by kernel_rfl) (dCells_one _ _ _ _ _) ?_
    intro x9 Z9 g9
    have X10 := X9.grown g9 (by intro h; injection h with h; omega)
    have RV10 := RV9.kept Y9 zD_noText g9
    have B10 := B9.trans (below_of_grown g9 B9.size fun b hb => by injection hb with hb; omega)
    refine hK.out _ _ X10 (fun hS => ?_)
    clear hK K
    try simp only [Act.put, List.setIfInBounds_toArray, List.set_cons_zero, List.set_cons_succ]
    refine wpAnyH_done (by kernel_rfl) ?_ _
    go_wp2_with fail
    exact bodyPost_ret (v := .tuple #[.int .i64 1, .agg (dCells Ak ck Aw cw s)]) (results_tmp_row rfl _ _ (g + 1 + 1) 49 _ (0, 0) _ _ rfl rfl Z9 Try.underlying49 rfl (by kernel_rfl)) rfl ⟨(1, s), rfl, _, rfl, RV10, B10⟩

theorem rpwrite_any (v : Value) (s : Dv) (F C : Int) (T : Nat) (x : Int) (bs : List Int) (w : World) (h : RDv w v s) (hok : s.Ok) (hl : Lies s F C T) (hx : -9223372036854775808 ≤ x ∧ x ≤ 9223372036854775807) (hbl : bs.length ≤ 1000000) (hof : s.offs ≤ 100000000) (hwr : s.wr ≤ 100000000) :
    Calls Try.prog 19 #[v, .agg #[.int .i64 F, .int .i64 C], .int .i64 x, .string (strOfNums bs)] w fun e w' => ∃ r, PWrite s F T x bs r ∧ GivesED r.1 r.2 w e w' := by
  unfold PWrite
  by_cases hm : x.tmod s.size = 0
  · simp only [if_neg (not_not_intro hm)]
    by_cases hin : 0 ≤ x ∧ x ≤ (T : Int) ∧ 0 ≤ (bs.length : Int) ∧ (bs.length : Int) ≤ (T : Int) - x
    · simp only [if_pos hin]
      obtain ⟨b, rfl⟩ : ∃ b : Nat, x = (b : Int) := ⟨x.toNat, by omega⟩
      have hb : b % s.size = 0 := by have h1 : ((b % s.size : Nat) : Int) = 0 := by rw [← hm]; exact Int.ofNat_tmod b s.size
                                     omega
      exact rpwrite_yes v s F C T b bs w h hok hl hbl hof hwr hb (by omega)
    · simp only [if_neg hin]
      have := rpwrite_no v s F C T x bs w h hok hl hx hbl (fun h => hin h.2)
      rw [if_neg (not_not_intro hm)] at this
      exact this
  · simp only [if_pos hm]
    have := rpwrite_no v s F C T x bs w h hok hl hx hbl (fun h => hm h.1)
    rw [if_pos hm] at this
    exact this
end Go.Proofs.Ytchbgmpkdkecgaa.Pt
