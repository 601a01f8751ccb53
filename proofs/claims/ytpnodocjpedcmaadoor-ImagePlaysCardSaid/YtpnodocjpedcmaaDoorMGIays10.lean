/-
  Layer 7, the document's Write: contract. Conditions: as each theorem names.
  Layer 7, the document's Read: contract. Conditions: as each theorem names.
  Layer 7, part: the law's steps: how they come in; the law's great: contract. Conditions: as each theorem names.
  Layer 7, part: the law's great: contract. Conditions: as each theorem names.
  Layer 7, part: what stands between the law's steps: both devices, the part, the region. Conditions: as each theorem names.
  Layer 7, part: a device that stays on: what is written is read, plain. Conditions: as each theorem names.
  Layer 25, image: bytes read piece by piece are those that are read at once; plain. Conditions: as each theorem names.
  Layer 25, image: how the law's step comes in. Conditions: as each theorem names.
  Layer 25, image: the law's steps: how they come in; the law's great: contract. Conditions: as each theorem names.
  Layer 25, image: on a device that stays on; plain. Conditions: as each theorem names.
-/
import Derived.Test.YtpnodocjpedcmaaDoorMGIays4
import Derived.Test.YtpnodocjpedcmaaDoorMSfG
import Derived.Test.YtpnodocjpedcmaaDoorMGIays0
import Derived.Deep.RegionHeld
import Derived.OpenShut
import Derived.Test.YtpnodocjpedcmaaDoorMImB
import Derived.Test.YtpnodocjpedcmaaDoorMGIays1
namespace Go.Proofs.YtpnodocjpedcmaaDoor.Pt
open Go.ChangeShapes Go.WideShapes Go.ChangeAt Go.RowKit Go.Proofs.YtpnodocjpedcmaaDoor.Kit Go.Proofs.YtpnodocjpedcmaaDoor.Sec

theorem write_ok {s : Dv} (h : s.Ok) (i : Int) (xs : List Int) : (s.write i xs).2.Ok := by
  unfold Dv.write
  split
  · exact h
  split
  · exact h
  split
  · exact h
  rename_i hr _
  have ht := (h.writes (xs := xs) (by omega : 0 ≤ i) (by omega)).tick
  split
  · exact ht
  · exact ⟨ht.s1, ht.s2, ht.c1, ht.c2, ht.ku, ht.wu, ht.kr, ht.wr_, ht.wn, ht.f1, ht.f2, ht.o1, by have := h.w1; show 0 ≤ s.wr + 1; omega⟩
theorem wrS_ok {s : Dv} (h : s.Ok) (i : Int) (bs : List Int) : ∀ k, (wrS s i bs k).Ok
  | 0 => h
  | k + 1 => write_ok (wrS_ok h i bs k) _ _
theorem back_ok {s : Dv} (h : s.Ok) (picks : List Int) : (s.back picks).Ok := by
  have hd := h.down
  obtain ⟨h1, h2⟩ := backK_ok hd picks s.down.waits.length (Nat.le_refl _)
  rw [back_form]
  exact ⟨hd.s1, hd.s2, hd.c1, hd.c2, h1, up_nil, h2, fun _ h => (List.not_mem_nil h).elim, fun _ h => (List.not_mem_nil h).elim, Int.le_refl _, by show (-1 : Int) ≤ _; omega, hd.o1, hd.w1⟩
theorem below_three (w : World) (o p q : Obj) : Below w.heap.size w (((w.alloc o).alloc p).alloc q) := (below_two w o p).alloc (by simp; omega) q
theorem block_three (w : World) (o p : Obj) (t : TypeId) (cs : Array Value) : Block (((w.alloc o).alloc p).alloc (.cells cs t)) (w.heap.size + 1 + 1) t cs := by
  have := Block.new ((w.alloc o).alloc p) t cs
  rwa [show ((w.alloc o).alloc p).heap.size = w.heap.size + 1 + 1 by simp] at this

/-- Behind k writes of the document's. -/
structure DGoing (w wr : World) (g : Nat) (F C i : Int) (s : Dv) (bs : List Int) (k : Nat) (cs : Array Value) : Prop where
  x : Block wr g 31 cs
  r : Block wr (g + 1) 42 #[.int .i64 F, .int .i64 C]
  z : Block wr (g + 1 + 1) 31 zD
  v : RDv wr (.agg cs) (wrS s i bs k)
  b : Below w.heap.size w wr
  ok : OkW s i bs k
  g : w.heap.size ≤ g
theorem DGoing.below {w wr w' : World} {g : Nat} {F C i : Int} {s : Dv} {bs : List Int} {k : Nat} {cs : Array Value} (h : DGoing w wr g F C i s bs k cs) (hb : Below wr.heap.size wr w') : DGoing w w' g F C i s bs k cs :=
  ⟨h.x.below hb h.x.lt, h.r.below hb h.r.lt, h.z.below hb h.z.lt, h.v.below hb, h.b.trans (hb.mono h.b.size), h.ok, h.g⟩
/-- Behind a write: the next device lies in a block beside. -/
def Mid7 (w wx : World) (g : Nat) (F C : Int) (s : Dv) (v : Value) : Prop :=
  ∃ (g2 : Nat) (cs cs2 : Array Value), v = .pointer (some ⟨g2, 0, none⟩) ∧ (cs.size = 8 ∧ NoText cs) ∧ Block wx g 31 cs ∧ Block wx (g + 1) 42 #[.int .i64 F, .int .i64 C] ∧ Block wx (g + 1 + 1) 31 zD ∧ Block wx g2 31 cs2 ∧ RDv wx (.agg cs2) s ∧ Below w.heap.size w wx ∧ g + 1 + 1 < g2
theorem step_store_blk {P : Program} {ops : Array Oper} {o : Oper} {a : Act} {w : World} {K : Act → World → Prop} {Q : Exit → Act → World → Prop} {E : Prop} (hgd : o.guard = none) (ty : TypeId) (x y : Operand) (ho : o.op = .store ty x y)
    {g : Nat} {t : TypeId} {cs : Array Value} {ds : List Value} (h : Block w g t cs) (hx : a.eval x = .pointer (some ⟨g, 0, none⟩)) (hy : a.eval y = .agg ds.toArray) (hl : ds.length = cs.size) (hi : (P.info? ty).map (·.size) = some ds.length) (hone : ∀ u ∈ ds, u.oneCell' = true)
    (hK : ∀ w', Block w' g t ds.toArray → w.grownBy w' (some g) → K (a.put o.dst undef) w') : if Region.wanted o (yielded ops a.tmps) = true then Oper.wp P o a w K Q else E :=
  step_of_list (by simp [Region.wanted, hgd]) fun Q' hn => wpList_store_blk hgd ty x y ho h hx hy hl hi hone fun w' h1 h2 => hn _ _ (hK w' h1 h2)

set_option maxRecDepth 100000 in
set_option maxHeartbeats 6400000 in
theorem rpwrite_yes (v : Value) (s : Dv) (F C : Int) (T b : Nat) (bs : List Int) (w : World) (h : RDv w v s) (hok : s.Ok) (hl : Lies s F C T) (hbl : bs.length ≤ 1000000) (hof : s.offs ≤ 100000000) (hwr : s.wr ≤ 100000000)
    (hm : b % s.size = 0) (hin : b ≤ T ∧ bs.length ≤ T - b) :
    Calls Tryd.prog 85 #[v, .agg #[.int .i64 F, .int .i64 C], .int .i64 (b : Int), .string (strOfNums bs)] w fun e w' => ∃ r, WritesP s (F + (b / s.size : Nat)) bs r ∧ GivesED r.1 r.2 w e w' := by
  have hT := hl.most hok
  have hs1 := hok.s1
  have hs2 := hok.s2
  have hc1 := hl.c1
  have hf0 := hl.f0
  have hfc := hl.fc
  have hct := hok.c2
  have hCS := hl.t
  have HSz := Lib.hid (strOfNums_size bs)
  have hrem : (b : Int).tmod (s.size : Int) = 0 := by rw [← Int.ofNat_tmod, hm]; rfl
  obtain ⟨i0, hi0⟩ : ∃ i0, F + ((b / s.size : Nat) : Int) = i0 := ⟨_, rfl⟩
  rw [hi0]
  have HNear := Lib.hid (fun k => wrS_near s i0 bs k)
  have HOkW := Lib.hid (fun k => wrS_ok hok i0 bs k)
  have HCut := Lib.hid (fun k => chunk_cut bs s.size k)
  have HFill := Lib.hid (fun k => chunk_fill bs s.size k)
  have HMany := Lib.hid (manyP_iff (n := s.size) (by omega) bs)
  have HV := Lib.hid h
  obtain ⟨Ak, ck, Aw, cw, rfl, hr0⟩ := h
  have G0 : Hid (DGoing w (((w.alloc (.cells (dCells Ak ck Aw cw s) 31)).alloc (.cells #[.int .i64 F, .int .i64 C] 42)).alloc (.cells zD 31)) w.heap.size F C i0 s bs 0 (dCells Ak ck Aw cw s)) := Lib.hid
    ⟨((Block.new w _ _).alloc _).alloc _, (block_two w _ _ _).alloc _, block_three w _ _ _ _, RDv.below ⟨Ak, ck, Aw, cw, rfl, hr0⟩ (below_three w _ _ _), below_three w _ _ _, fun j hj => absurd hj (by omega), Nat.le_refl _⟩
  obtain ⟨z, hz⟩ : ∃ z, s.size = z := ⟨_, rfl⟩
  have HZ := Lib.hid hz
  rw [hz] at hs1 hs2 hCS hrem HCut HFill HMany HNear
  obtain ⟨S, hS⟩ : ∃ S, strOfNums bs = S := ⟨_, rfl⟩
  rw [hS] at HCut HSz ⊢
  obtain ⟨L, hL⟩ : ∃ L, bs.length = L := ⟨_, rfl⟩
  rw [hL] at HCut HSz hin hbl HMany
  have hsz : S.size = L := HSz.out
  have HI0 := Lib.hid hi0
  have HL := Lib.hid hL
  have d1 : decide ((b : Int) < 0) = false := decide_eq_false (by omega)
  have d2 : decide (T < b) = false := decide_eq_false (by omega)
  have d3 : decide ((T : Int) - (b : Int) < (L : Int)) = false := decide_eq_false (by omega)
  have HOK := Lib.hid hok
  have hzz : ¬ z = 0 := by omega
  unfold zD at G0
  unfold dCells at G0 ⊢
  rw [hz] at G0 ⊢
  clear hr0 hS hL hi0 hl hok HV hm
  go_enter Tryd.func85, Tryd.ntmps85
  go_wp2_with fail
  generalize hW3 : ((w.alloc _).alloc _).alloc _ = w3 at *
  have hg0 : w.heap.size ≤ w.heap.size := Nat.le_refl _
  generalize hg : w.heap.size = g at hg0 G0 ⊢
  have HG := Lib.hid hg
  clear hW3 hg d1 d2 d3 hrem
  go_loopw [11] (fun q wr => ∃ (k : Nat) (cs : Array Value), k ≤ manyP z bs ∧ q = .int .i64 k ∧ DGoing w wr g F C i0 s bs k cs) (fun q _ => manyP z bs - (intOf q).toNat)
  case atStart => exact ⟨0, _, Nat.zero_le _, rfl, G0.out⟩
  case round =>
    clear G0
    obtain ⟨k, cs, hk, rfl, G⟩ := hrel
    obtain ⟨Ak, ck, Aw, cw, hce, hrv⟩ := G.v
    injection hce with hce
    subst hce
    obtain ⟨K, hK⟩ : ∃ K : Nat, k * z = K := ⟨_, rfl⟩
    have hKz : (k : Int) * (z : Int) = (K : Int) := by rw [← hK, Int.natCast_mul]
    have hKz1 : ((k : Int) + 1) * (z : Int) = (K : Int) + (z : Int) := by rw [Int.add_mul, hKz, Int.one_mul]
    have hKb : K ≤ 1004096 := by
      have h1 : k * z ≤ manyP z bs * z := Nat.mul_le_mul_right z hk
      have h2 : manyP z bs * z ≤ bs.length + z - 1 := Nat.div_mul_le_self _ _
      rw [hK] at h1
      rw [HL.out] at h2
      omega
    have hmany := HMany.out k
    rw [hK] at hmany
    obtain ⟨n1, n2, n3, n4⟩ := HNear.out k
    have ok1 := HOkW.out k
    generalize hsk : wrS s i0 bs k = sk at *
    have hzk : sk.size = z := n3
    have x0 : wr.cell? ⟨g, 0, none⟩ = some (.int .i64 (z : Int)) := by rw [G.x.cell 0]; unfold dCells; rw [hzk]; rfl
    have r0 : wr.cell? ⟨g + 1, 0, none⟩ = some (.int .i64 F) := G.r.cell 0
    have XG := Lib.hid (show DGoing w wr g F C i0 s bs k (dCells Ak ck Aw cw sk) from G)
    have HSK := Lib.hid hsk
    have HN := Lib.hid (⟨n1, n2, n3, n4⟩ : _ ∧ _ ∧ _ ∧ _)
    have HOK1 := Lib.hid ok1
    have HZK := Lib.hid hzk
    have HMK := Lib.hid hmany
    have HRV := Lib.hid hrv
    have HKK := Lib.hid hK
    clear n1 n2 n3 n4 ok1 hzk hsk G hmany hrv hK
    by_cases hlt : K < L
    · have d0 : decide (K < L) = true := decide_eq_true hlt
      have hkb : k ≤ 1000000 := by
        have h1 : k * 1 ≤ k * z := Nat.mul_le_mul_left k (by omega)
        have := HKK.out
        omega
      obtain ⟨M, hM⟩ : ∃ M : Nat, min L (K + z) = M := ⟨_, rfl⟩
      have hmin : min (L : Int) ((K : Int) + (z : Int)) = (M : Int) := by omega
      have hM1 : M ≤ L := by omega
      have hM2 : K ≤ M := by omega
      have hcut0 := HCut.out k
      have hfill0 := HFill.out k
      have hKS : (k + 1) * z = K + z := by rw [Nat.add_mul, HKK.out, Nat.one_mul]
      rw [hKS, HKK.out, hM] at hcut0
      rw [HKK.out] at hfill0
      obtain ⟨ch, hch⟩ : ∃ ch, (bs.drop K).take z = ch := ⟨_, rfl⟩
      rw [hch] at hcut0 hfill0
      have hcl : ch.length = M - K := by rw [← hch, List.length_take, List.length_drop, HL.out]; omega
      obtain ⟨S1, hS1⟩ : ∃ S1, strOfNums ch = S1 := ⟨_, rfl⟩
      have hs1z : S1.size = M - K := by rw [← hS1, strOfNums_size, hcl]
      rw [hS1] at hcut0 hfill0
      rw [hcl] at hfill0
      obtain ⟨n, hn⟩ : ∃ n : Nat, z - (M - K) = n := ⟨_, rfl⟩
      have hzn : (z : Int) - ((M - K : Nat) : Int) = (n : Int) := by omega
      have hn1 : n ≤ z := by omega
      rw [hn] at hfill0
      obtain ⟨Z1, hZ1⟩ : ∃ Z1, strOfNums (List.replicate n 0) = Z1 := ⟨_, rfl⟩
      have hz1z : Z1.size = n := by rw [← hZ1, strOfNums_size, List.length_replicate]
      rw [hZ1] at hfill0
      have HZ1 := Lib.hid hZ1
      have HCH := Lib.hid hfill0
      have hadd : ∀ W, (Op.stringOp .add S1 Z1).run Tryd.prog W = .ok (.string (strOfNums (chunkP z bs k))) W := fun W => by
        rw [← HCH.out]
        exact run_string_add W S1 Z1 (by omega) (by omega)
      have HM := Lib.hid (⟨hM, hn, hlt⟩ : _ ∧ _ ∧ _)
      have HKM : Hid (k < manyP z bs) := Lib.hid (HMK.out.2 hlt)
      clear hM hS1 hn hZ1 hch hKS hfill0 hcl hlt hz1z
      go_wp2_with (at_make; refine wpList_make_ints _ rfl _ _ _ rfl elem8 n n rfl rfl rfl rfl (Nat.le_refl _) (by omega) ?_; intro w5 own5 hb5 hl5; obtain ⟨A5, c5, he5, _, _, hh5⟩ := own5.opened; have kc := conv_bytes (P := Tryd.prog) Tryd.underlying22 Tryd.underlying5 Tryd.underlying9 w5 A5 (List.replicate n 0) c5 _ hh5; rw [← he5, HZ1.out] at kc; clear he5 hh5 own5)
      have G5 := XG.out.below hb5
      have P0 := Lib.hid G5.ok
      obtain ⟨Q, hQ⟩ : ∃ Q : Nat, b / z = Q := ⟨_, rfl⟩
      have HQ : Hid ((b : Int).tdiv (z : Int) = (Q : Int)) := Lib.hid (by rw [← hQ]; exact (Int.ofNat_tdiv b z).symm)
      have HQ3 : Hid ((b : Int) / (z : Int) = (Q : Int)) := Lib.hid (by rw [← hQ]; exact (Int.natCast_ediv b z).symm)
      have HI2 : Hid (F + (Q : Int) = i0) := Lib.hid (by rw [← hQ, ← HZ.out]; exact HI0.out)
      have hQb : Q ≤ b := by rw [← hQ]; exact Nat.div_le_self _ _
      have hi0b : -1000000 ≤ i0 ∧ i0 ≤ 8589934592 := by have := HI2.out; omega
      obtain ⟨n1, n2, n3, n4⟩ := HN.out
      obtain ⟨E, hE⟩ : ∃ E, errS s i0 bs k = E := ⟨_, rfl⟩
      obtain ⟨s1, hs1⟩ : ∃ s1, wrS s i0 bs (k + 1) = s1 := ⟨_, rfl⟩
      have GW : Hid (∀ W, RDv W (.agg (dCells Ak ck Aw cw sk)) (wrS s i0 bs k) → Calls Tryd.prog 13 #[.agg (dCells Ak ck Aw cw sk), .int .i64 (i0 + (k : Int)), .string (strOfNums (chunkP z bs k))] W (GivesED E s1 W)) := Lib.hid (fun W hv => by
        rw [HSK.out] at hv
        have := rwrite_any _ sk (i0 + (k : Int)) (chunkP z bs k) W hv HOK1.out (by omega) (by rw [chunkP_length]; omega) (by omega) (by omega)
        have e : sk.write (i0 + (k : Int)) (chunkP z bs k) = (E, s1) := by
          rw [← hE, ← hs1, ← HSK.out, ← HZ.out]
          rfl
        rwa [e] at this)
      have HE := Lib.hid hE
      have HS1 := Lib.hid hs1
      have RV5 : RDv w5 (.agg (dCells Ak ck Aw cw sk)) sk := by have := G5.v; rwa [HSK.out] at this
      clear n1 n2 n3 n4 hE hs1 kc hadd hcut0 hs1z hmin hzn hQ XG
      go_cut [13, 14] (fun v13 v14 wx => v13 = .int .i64 E ∧ Mid7 w wx g F C s1 v14)
      case first =>
        have P : DGoing w w5.drew g F C i0 s bs k (dCells Ak ck Aw cw sk) := G5.below (below_draws (Below.refl _ _) 1)
        have hZ0 : ∀ W, Block W g 31 (dCells Ak ck Aw cw sk) → W.cell? ⟨g, 0, none⟩ = some (.int .i64 (z : Int)) := fun W hW => by (rw [hW.cell 0]; unfold dCells; rw [HZK.out]; rfl)
        refine wp_region_held_drew (S := fun W => Block W g 31 (dCells Ak ck Aw cw sk) ∧ Block W (g + 1) 42 #[.int .i64 F, .int .i64 C]) (by kernel_rfl) ⟨P.x, P.r⟩ (fun hS => ?_)
        refine wpAnyH_take (i := 0) (oi := ⟨some 75, _, _, _, _, _⟩) (v := .agg (dCells Ak ck Aw cw sk)) rfl (by kernel_rfl) (by kernel_rfl) (by kernel_rfl) (fun _ _ _ h => h) (yieldsIf_load_mid (by rfl) _ _ rfl g (0) rfl (dCells Ak ck Aw cw sk).toList _ (fun W hW => block_range hW.1) Tryd.underlying31 rfl (by kernel_rfl)) hS ?_
        try simp only [Act.put, List.setIfInBounds_toArray, List.set_cons_zero, List.set_cons_succ]
        refine wpAnyH_take (i := 1) (oi := ⟨some 76, _, _, _, _, _⟩) (v := .pointer (some ⟨g + 1, 0, none⟩)) rfl (by kernel_rfl) (by kernel_rfl) (by kernel_rfl) (fun _ _ _ h => h) (Or.inl ⟨by rfl, fun W hW => by go_simp⟩) hS ?_
        try simp only [Act.put, List.setIfInBounds_toArray, List.set_cons_zero, List.set_cons_succ]
        refine wpAnyH_take (i := 3) (oi := ⟨some 78, _, _, _, _, _⟩) (v := .int .i64 (b : Int)) rfl (by kernel_rfl) (by kernel_rfl) (by kernel_rfl) (fun _ _ _ h => h) (Or.inl ⟨by rfl, fun W hW => by go_simp⟩) hS ?_
        try simp only [Act.put, List.setIfInBounds_toArray, List.set_cons_zero, List.set_cons_succ]
        refine wpAnyH_take (i := 4) (oi := ⟨some 79, _, _, _, _, _⟩) (v := .pointer (some ⟨g, 0, none⟩)) rfl (by kernel_rfl) (by kernel_rfl) (by kernel_rfl) (fun _ _ _ h => h) (Or.inl ⟨by rfl, fun W hW => by go_simp⟩) hS ?_
        try simp only [Act.put, List.setIfInBounds_toArray, List.set_cons_zero, List.set_cons_succ]
        refine wpAnyH_take (i := 8) (oi := ⟨some 83, _, _, _, _, _⟩) (v := .int .i64 (k : Int)) rfl (by kernel_rfl) (by kernel_rfl) (by kernel_rfl) (fun _ _ _ h => h) (Or.inl ⟨by rfl, fun W hW => by go_simp⟩) hS ?_
        try simp only [Act.put, List.setIfInBounds_toArray, List.set_cons_zero, List.set_cons_succ]
        refine wpAnyH_take (i := 10) (oi := ⟨some 85, _, _, _, _, _⟩) (v := .string (strOfNums (chunkP z bs k))) rfl (by kernel_rfl) (by kernel_rfl) (by kernel_rfl) (fun _ _ _ h => h) (Or.inl ⟨by rfl, fun W hW => by go_simp⟩) hS ?_
        try simp only [Act.put, List.setIfInBounds_toArray, List.set_cons_zero, List.set_cons_succ]
        refine wpAnyH_take (i := 2) (oi := ⟨some 77, _, _, _, _, _⟩) (v := .int .i64 F) rfl (by kernel_rfl) (by kernel_rfl) (by kernel_rfl) (fun _ _ _ h => h) (Or.inl ⟨by rfl, fun W hW => by have q0 : W.cell? ⟨g + 1, 0, none⟩ = some (.int .i64 F) := Block.cell hW.2 0; go_simp⟩) hS ?_
        try simp only [Act.put, List.setIfInBounds_toArray, List.set_cons_zero, List.set_cons_succ]
        refine wpAnyH_take (i := 5) (oi := ⟨some 80, _, _, _, _, _⟩) (v := .int .i64 (z : Int)) rfl (by kernel_rfl) (by kernel_rfl) (by kernel_rfl) (fun _ _ _ h => h) (Or.inl ⟨by rfl, fun W hW => by have q0 := hZ0 W hW.1; go_simp⟩) hS ?_
        try simp only [Act.put, List.setIfInBounds_toArray, List.set_cons_zero, List.set_cons_succ]
        refine wpAnyH_take (i := 6) (oi := ⟨some 81, _, _, _, _, _⟩) (v := .int .i64 (Q : Int)) rfl (by kernel_rfl) (by kernel_rfl) (by kernel_rfl) (fun _ _ _ h => h) (Or.inl ⟨by rfl, fun W hW => by go_simp; first | exact IntWalk.i64_in _ (by omega) | (rw [HQ.out]; exact IntWalk.i64_in _ (by omega)) | (rw [HQ3.out]; exact IntWalk.i64_in _ (by omega))⟩) hS ?_
        try simp only [Act.put, List.setIfInBounds_toArray, List.set_cons_zero, List.set_cons_succ]
        refine wpAnyH_take (i := 7) (oi := ⟨some 82, _, _, _, _, _⟩) (v := .int .i64 i0) rfl (by kernel_rfl) (by kernel_rfl) (by kernel_rfl) (fun _ _ _ h => h) (Or.inl ⟨by rfl, fun W hW => by go_simp; rw [HI2.out]; exact IntWalk.i64_in _ (by omega)⟩) hS ?_
        try simp only [Act.put, List.setIfInBounds_toArray, List.set_cons_zero, List.set_cons_succ]
        refine wpAnyH_take (i := 9) (oi := ⟨some 84, _, _, _, _, _⟩) (v := .int .i64 (i0 + (k : Int))) rfl (by kernel_rfl) (by kernel_rfl) (by kernel_rfl) (fun _ _ _ h => h) (Or.inl ⟨by rfl, fun W hW => by go_simp; exact IntWalk.i64_in _ (by omega)⟩) hS ?_
        try simp only [Act.put, List.setIfInBounds_toArray, List.set_cons_zero, List.set_cons_succ]
        refine wpAnyH_ready (rs := [11, 15]) (by kernel_rfl) (by simp) ?_
        refine AllReadyH.cons rfl (fun K hK => ?_) (AllReadyH.cons rfl (fun K hK => ?_) AllReadyH.nil)
        · go_simp
          go_at_call 13
          refine (GW.out _ P.v).mono ?_
          rintro e x1 ⟨v1, rfl, RV1, hb1⟩
          obtain ⟨Ak1, ck1, Aw1, cw1, rfl, hr1⟩ := RV1
          have RV1 : RDv x1 (.agg (dCells Ak1 ck1 Aw1 cw1 s1)) s1 := ⟨Ak1, ck1, Aw1, cw1, rfl, hr1⟩
          have P1 := P.below hb1
          clear hr1
          refine hK.out _ _ ⟨P1.x, P1.r⟩ (fun hS => ?_)
          clear hK K
          try simp only [Act.put, List.setIfInBounds_toArray, List.set_cons_zero, List.set_cons_succ]
          refine wpAnyH_take (i := 12) (oi := ⟨some 74, _, _, _, _, _⟩) (v := .tuple #[.int .i64 E, .agg (dCells Ak1 ck1 Aw1 cw1 s1)]) rfl (by kernel_rfl) (by kernel_rfl) (by kernel_rfl) (fun _ _ _ h => h) (Or.inl ⟨by rfl, fun W hW => by go_simp⟩) hS ?_
          try simp only [Act.put, List.setIfInBounds_toArray, List.set_cons_zero, List.set_cons_succ]
          refine wpAnyH_take (i := 13) (oi := ⟨some 87, _, _, _, _, _⟩) (v := .int .i64 E) rfl (by kernel_rfl) (by kernel_rfl) (by kernel_rfl) (fun _ _ _ h => h) (Or.inl ⟨by rfl, fun W hW => by go_simp⟩) hS ?_
          try simp only [Act.put, List.setIfInBounds_toArray, List.set_cons_zero, List.set_cons_succ]
          refine wpAnyH_take (i := 14) (oi := ⟨some 88, _, _, _, _, _⟩) (v := .agg (dCells Ak1 ck1 Aw1 cw1 s1)) rfl (by kernel_rfl) (by kernel_rfl) (by kernel_rfl) (fun _ _ _ h => h) (Or.inl ⟨by rfl, fun W hW => by go_simp⟩) hS ?_
          try simp only [Act.put, List.setIfInBounds_toArray, List.set_cons_zero, List.set_cons_succ]
          refine wpAnyH_ready (rs := [15]) (by kernel_rfl) (by simp) ?_
          refine AllReadyH.cons rfl (fun K hK => ?_) AllReadyH.nil
          go_simp
          have B2 : Below x1.heap.size x1 (x1.alloc (.cells zD 31)) := (Below.refl _ _).alloc (Nat.le_refl _) _
          have Z2 : Block (x1.alloc (.cells zD 31)) x1.heap.size 31 zD := Block.new _ _ _
          have P2 := P1.below B2
          have RV2 := RV1.below B2
          have hg2 := P1.b.size
          have hne := P1.z.lt
          refine hK.out _ _ ⟨P2.x, P2.r⟩ (fun hS => ?_)
          clear hK K
          try simp only [Act.put, List.setIfInBounds_toArray, List.set_cons_zero, List.set_cons_succ]
          refine wpAnyH_ready (rs := [16]) (by kernel_rfl) (by simp) ?_
          refine AllReadyH.cons rfl (fun K hK => ?_) AllReadyH.nil
          go_simp
          refine hK.out _ _ ⟨P2.x, P2.r⟩ (fun hS => ?_)
          clear hK K
          try simp only [Act.put, List.setIfInBounds_toArray, List.set_cons_zero, List.set_cons_succ]
          refine wpAnyH_ready (rs := [17]) (by kernel_rfl) (by simp) ?_
          refine AllReadyH.cons rfl (fun K hK => ?_) AllReadyH.nil
          refine step_store_blk rfl _ _ _ rfl (cs := zD) (ds := (dCells Ak1 ck1 Aw1 cw1 s1).toList) (by exact Z2) rfl rfl rfl (by kernel_rfl) (dCells_one _ _ _ _ _) ?_
          intro x3 Z3 g3
          have X3 := P2.x.grown g3 (by intro h; injection h with h; omega)
          have R3 := P2.r.grown g3 (by intro h; injection h with h; omega)
          have Y3 := P2.z.grown g3 (by intro h; injection h with h; omega)
          have RV3 := RV2.kept Z2 zD_noText g3
          have B3 := P2.b.trans (below_of_grown g3 P2.b.size fun b hb => by injection hb with hb; omega)
          refine hK.out _ _ ⟨X3, R3⟩ (fun hS => ?_)
          clear hK K
          try simp only [Act.put, List.setIfInBounds_toArray, List.set_cons_zero, List.set_cons_succ]
          refine wpAnyH_done (by kernel_rfl) ?_ _
          go_wp2_with fail
          go_meet
          exact ⟨rfl, _, _, _, rfl, ⟨rfl, dCells_noText _ _ _ _ _⟩, X3, R3, Y3, Z3, RV3, B3, by omega⟩
        · go_simp
          have B0 : Below w5.drew.heap.size w5.drew (w5.drew.alloc (.cells zD 31)) := (Below.refl _ _).alloc (Nat.le_refl _) _
          have Z0 : Block (w5.drew.alloc (.cells zD 31)) w5.drew.heap.size 31 zD := Block.new _ _ _
          have P0 := P.below B0
          have hg2 : w.heap.size ≤ w5.heap.size := P.b.size
          have hne : g + 1 + 1 < w5.heap.size := P.z.lt
          refine hK.out _ _ ⟨P0.x, P0.r⟩ (fun hS => ?_)
          clear hK K
          try simp only [Act.put, List.setIfInBounds_toArray, List.set_cons_zero, List.set_cons_succ]
          refine wpAnyH_ready (rs := [11]) (by kernel_rfl) (by simp) ?_
          refine AllReadyH.cons rfl (fun K hK => ?_) AllReadyH.nil
          go_simp
          go_at_call 13
          refine (GW.out _ P0.v).mono ?_
          rintro e x1 ⟨v1, rfl, RV1, hb1⟩
          obtain ⟨Ak1, ck1, Aw1, cw1, rfl, hr1⟩ := RV1
          have RV1 : RDv x1 (.agg (dCells Ak1 ck1 Aw1 cw1 s1)) s1 := ⟨Ak1, ck1, Aw1, cw1, rfl, hr1⟩
          have P1 := P0.below hb1
          clear hr1
          refine hK.out _ _ ⟨P1.x, P1.r⟩ (fun hS => ?_)
          clear hK K
          try simp only [Act.put, List.setIfInBounds_toArray, List.set_cons_zero, List.set_cons_succ]
          refine wpAnyH_take (i := 12) (oi := ⟨some 74, _, _, _, _, _⟩) (v := .tuple #[.int .i64 E, .agg (dCells Ak1 ck1 Aw1 cw1 s1)]) rfl (by kernel_rfl) (by kernel_rfl) (by kernel_rfl) (fun _ _ _ h => h) (Or.inl ⟨by rfl, fun W hW => by go_simp⟩) hS ?_
          try simp only [Act.put, List.setIfInBounds_toArray, List.set_cons_zero, List.set_cons_succ]
          refine wpAnyH_take (i := 13) (oi := ⟨some 87, _, _, _, _, _⟩) (v := .int .i64 E) rfl (by kernel_rfl) (by kernel_rfl) (by kernel_rfl) (fun _ _ _ h => h) (Or.inl ⟨by rfl, fun W hW => by go_simp⟩) hS ?_
          try simp only [Act.put, List.setIfInBounds_toArray, List.set_cons_zero, List.set_cons_succ]
          refine wpAnyH_take (i := 14) (oi := ⟨some 88, _, _, _, _, _⟩) (v := .agg (dCells Ak1 ck1 Aw1 cw1 s1)) rfl (by kernel_rfl) (by kernel_rfl) (by kernel_rfl) (fun _ _ _ h => h) (Or.inl ⟨by rfl, fun W hW => by go_simp⟩) hS ?_
          try simp only [Act.put, List.setIfInBounds_toArray, List.set_cons_zero, List.set_cons_succ]
          have Z2 := Z0.below hb1 Z0.lt
          have P2 := P1
          have RV2 := RV1
          refine wpAnyH_ready (rs := [16]) (by kernel_rfl) (by simp) ?_
          refine AllReadyH.cons rfl (fun K hK => ?_) AllReadyH.nil
          go_simp
          refine hK.out _ _ ⟨P2.x, P2.r⟩ (fun hS => ?_)
          clear hK K
          try simp only [Act.put, List.setIfInBounds_toArray, List.set_cons_zero, List.set_cons_succ]
          refine wpAnyH_ready (rs := [17]) (by kernel_rfl) (by simp) ?_
          refine AllReadyH.cons rfl (fun K hK => ?_) AllReadyH.nil
          refine step_store_blk rfl _ _ _ rfl (cs := zD) (ds := (dCells Ak1 ck1 Aw1 cw1 s1).toList) (by exact Z2) rfl rfl rfl (by kernel_rfl) (dCells_one _ _ _ _ _) ?_
          intro x3 Z3 g3
          have X3 := P2.x.grown g3 (by intro h; injection h with h; omega)
          have R3 := P2.r.grown g3 (by intro h; injection h with h; omega)
          have Y3 := P2.z.grown g3 (by intro h; injection h with h; omega)
          have RV3 := RV2.kept Z2 zD_noText g3
          have B3 := P2.b.trans (below_of_grown g3 P2.b.size fun b hb => by injection hb with hb; omega)
          refine hK.out _ _ ⟨X3, R3⟩ (fun hS => ?_)
          clear hK K
          try simp only [Act.put, List.setIfInBounds_toArray, List.set_cons_zero, List.set_cons_succ]
          refine wpAnyH_done (by kernel_rfl) ?_ _
          go_wp2_with fail
          go_meet
          exact ⟨rfl, _, _, _, rfl, ⟨rfl, dCells_noText _ _ _ _ _⟩, X3, R3, Y3, Z3, RV3, B3, by omega⟩
      case rest =>
        obtain ⟨rfl, g2, cs, cs2, rfl, ⟨hcz, hnt⟩, X4, R4, Y4, Z4, RV4, B4, hgg⟩ := hcut
        rename World => w4
        obtain ⟨Ak1, ck1, Aw1, cw1, hce, hr4⟩ := RV4
        injection hce with hce
        subst hce
        have RV4 : RDv w4 (.agg (dCells Ak1 ck1 Aw1 cw1 s1)) s1 := ⟨Ak1, ck1, Aw1, cw1, rfl, hr4⟩
        clear hr4
        have hgw := G5.g
        clear G5 RV5 GW hb5
        go_upto_region 13 with (first
          | (have _t := Z4; refine wpList_load_midV (by rfl) _ _ rfl g2 0 rfl (dCells Ak1 ck1 Aw1 cw1 s1).toList (block_range Z4) Tryd.underlying31 rfl (by kernel_rfl) ?_; clear _t Z4)
          | (have _t := X4; refine wpList_store_blk (cs := cs) rfl _ _ _ rfl (ds := (dCells Ak1 ck1 Aw1 cw1 s1).toList) (by exact X4) rfl rfl (by rw [hcz]; rfl) (by kernel_rfl) (dCells_one _ _ _ _ _) ?_; clear _t; intro w6 X6 g6))
        try simp only [Act.put]
        have R6 := R4.grown g6 (by intro h; injection h with h; omega)
        have Y6 := Y4.grown g6 (by intro h; injection h with h; omega)
        have RV6 := RV4.kept X4 hnt g6
        have B6 := B4.trans (below_of_grown g6 B4.size fun b hb => by injection hb with hb; omega)
        clear X4 R4 Y4 RV4 B4 g6
        by_cases hE0 : E = 0
        · subst hE0
          have HG6 : Hid (DGoing w w6 g F C i0 s bs (k + 1) (dCells Ak1 ck1 Aw1 cw1 s1)) := Lib.hid ⟨X6, R6, Y6, by rw [HS1.out]; exact RV6, B6, fun j hj => by
            rcases Nat.lt_or_ge j k with h | h
            · exact P0.out j h
            · obtain rfl : j = k := by omega
              exact HE.out, hgw⟩
          have HK1 : Hid (k + 1 ≤ manyP z bs) := Lib.hid HKM.out
          clear X6 R6 Y6 RV6 B6
          go_wp2_with fail
          go_roundw
          case rel => exact ⟨k + 1, _, HK1.out, by go_num, HG6.out⟩
          case measure =>
            have := HKM.out
            simp only [intOf]
            omega
        · have d1 : (E != 0) = true := by simpa using hE0
          go_wp2_with fail
          have X9 : Block w6.drew g 31 (dCells Ak1 ck1 Aw1 cw1 s1) := Block.drewN X6 1
          have Y9 : Block w6.drew (g + 1 + 1) 31 zD := Block.drewN Y6 1
          have B9 : Below w.heap.size w w6.drew := below_draws B6 1
          have RV9 := RDv.below RV6 (below_draws (Below.refl _ _) 1)
          refine wp_region_held_drew (S := fun W => Block W g 31 (dCells Ak1 ck1 Aw1 cw1 s1)) (by kernel_rfl) X6 (fun hS => ?_)
          refine wpAnyH_take (i := 0) (oi := ⟨some 92, _, _, _, _, _⟩) (v := .int .i64 E) rfl (by kernel_rfl) (by kernel_rfl) (by kernel_rfl) (fun _ _ _ h => h) (Or.inl ⟨by rfl, fun W hW => by go_simp⟩) hS ?_
          try simp only [Act.put, List.setIfInBounds_toArray, List.set_cons_zero, List.set_cons_succ]
          refine wpAnyH_take (i := 1) (oi := ⟨some 93, _, _, _, _, _⟩) (v := .agg (dCells Ak1 ck1 Aw1 cw1 s1)) rfl (by kernel_rfl) (by kernel_rfl) (by kernel_rfl) (fun _ _ _ h => h) (yieldsIf_load_mid (by rfl) _ _ rfl g (0) rfl (dCells Ak1 ck1 Aw1 cw1 s1).toList _ (fun W hW => block_range hW) Tryd.underlying31 rfl (by kernel_rfl)) hS ?_
          try simp only [Act.put, List.setIfInBounds_toArray, List.set_cons_zero, List.set_cons_succ]
          refine wpAnyH_ready (rs := [2]) (by kernel_rfl) (by simp) ?_
          refine AllReadyH.cons rfl (fun K hK => ?_) AllReadyH.nil
          go_simp
          refine hK.out _ _ X9 (fun hS => ?_)
          clear hK K
          try simp only [Act.put, List.setIfInBounds_toArray, List.set_cons_zero, List.set_cons_succ]
          refine wpAnyH_ready (rs := [3]) (by kernel_rfl) (by simp) ?_
          refine AllReadyH.cons rfl (fun K hK => ?_) AllReadyH.nil
          refine step_store_blk rfl _ _ _ rfl (cs := zD) (ds := (dCells Ak1 ck1 Aw1 cw1 s1).toList) (by exact Y9) rfl rfl rfl (by kernel_rfl) (dCells_one _ _ _ _ _) ?_
          intro x9 Z9 g9
          have X10 := X9.grown g9 (by intro h; injection h with h; omega)
          have RV10 := RV9.kept Y9 zD_noText g9
          have B10 := B9.trans (below_of_grown g9 B9.size fun b hb => by injection hb with hb; omega)
          refine hK.out _ _ X10 (fun hS => ?_)
          clear hK K
          try simp only [Act.put, List.setIfInBounds_toArray, List.set_cons_zero, List.set_cons_succ]
          refine wpAnyH_done (by kernel_rfl) ?_ _
          go_wp2_with fail
          exact bodyPost_ret (v := .tuple #[.int .i64 E, .agg (dCells Ak1 ck1 Aw1 cw1 s1)]) (results_tmp_row rfl _ _ (g + 1 + 1) 31 _ (0, 0) _ _ rfl rfl Z9 Tryd.underlying31 rfl (by kernel_rfl)) rfl ⟨(E, s1), Or.inl ⟨k, by rw [HZ.out]; exact HKM.out, P0.out, by rw [HE.out]; exact hE0, by rw [HE.out, HS1.out]⟩, _, rfl, RV10, B10⟩
    · have d0 : decide (K < L) = false := decide_eq_false hlt
      have hke : k = manyP z bs := by
        rcases Nat.lt_or_ge k (manyP z bs) with h | h
        · exact absurd (HMK.out.1 h) hlt
        · omega
      have HV2 : Hid (RDv wr (.agg (dCells Ak ck Aw cw sk)) sk) := Lib.hid (by have := XG.out.v; rwa [HSK.out] at this)
      have hgw := XG.out.g
      have HKE := Lib.hid hke
      clear hke
      go_wp2_with fail
      have hke := HKE.out
      have X9 : Block wr.drew g 31 (dCells Ak ck Aw cw sk) := Block.drewN XG.out.x 1
      have Y9 : Block wr.drew (g + 1 + 1) 31 zD := Block.drewN XG.out.z 1
      have B9 : Below w.heap.size w wr.drew := below_draws XG.out.b 1
      have RV9 := RDv.below HV2.out (below_draws (Below.refl _ _) 1)
      refine wp_region_held_drew (S := fun W => Block W g 31 (dCells Ak ck Aw cw sk)) (by kernel_rfl) XG.out.x (fun hS => ?_)
      refine wpAnyH_take (i := 0) (oi := ⟨some 94, _, _, _, _, _⟩) (v := .agg (dCells Ak ck Aw cw sk)) rfl (by kernel_rfl) (by kernel_rfl) (by kernel_rfl) (fun _ _ _ h => h) (yieldsIf_load_mid (by rfl) _ _ rfl g (0) rfl (dCells Ak ck Aw cw sk).toList _ (fun W hW => block_range hW) Tryd.underlying31 rfl (by kernel_rfl)) hS ?_
      try simp only [Act.put, List.setIfInBounds_toArray, List.set_cons_zero, List.set_cons_succ]
      refine wpAnyH_ready (rs := [1]) (by kernel_rfl) (by simp) ?_
      refine AllReadyH.cons rfl (fun K hK => ?_) AllReadyH.nil
      go_simp
      refine hK.out _ _ X9 (fun hS => ?_)
      clear hK K
      try simp only [Act.put, List.setIfInBounds_toArray, List.set_cons_zero, List.set_cons_succ]
      refine wpAnyH_ready (rs := [2]) (by kernel_rfl) (by simp) ?_
      refine AllReadyH.cons rfl (fun K hK => ?_) AllReadyH.nil
      refine step_store_blk rfl _ _ _ rfl (cs := zD) (ds := (dCells Ak ck Aw cw sk).toList) (by exact Y9) rfl rfl rfl (by kernel_rfl) (dCells_one _ _ _ _ _) ?_
      intro x9 Z9 g9
      have X10 := X9.grown g9 (by intro h; injection h with h; omega)
      have RV10 := RV9.kept Y9 zD_noText g9
      have B10 := B9.trans (below_of_grown g9 B9.size fun b hb => by injection hb with hb; omega)
      refine hK.out _ _ X10 (fun hS => ?_)
      clear hK K
      try simp only [Act.put, List.setIfInBounds_toArray, List.set_cons_zero, List.set_cons_succ]
      refine wpAnyH_done (by kernel_rfl) ?_ _
      go_wp2_with fail
      exact bodyPost_ret (v := .tuple #[.int .i64 0, .agg (dCells Ak ck Aw cw sk)]) (results_tmp_row rfl _ _ (g + 1 + 1) 31 _ (0, 0) _ _ rfl rfl Z9 Tryd.underlying31 rfl (by kernel_rfl)) rfl ⟨(0, sk), Or.inr ⟨by rw [HZ.out, ← hke]; exact XG.out.ok, by rw [HZ.out, ← hke, HSK.out]⟩, _, rfl, RV10, B10⟩

set_option maxRecDepth 100000 in
set_option maxHeartbeats 6400000 in
theorem rpwrite_no (v : Value) (s : Dv) (F C : Int) (T : Nat) (x : Int) (bs : List Int) (w : World) (h : RDv w v s) (hok : s.Ok) (hl : Lies s F C T) (hx : -9223372036854775808 ≤ x ∧ x ≤ 9223372036854775807) (hbl : bs.length ≤ 1000000)
    (hno : ¬ (x.tmod s.size = 0 ∧ 0 ≤ x ∧ x ≤ T ∧ 0 ≤ (bs.length : Int) ∧ (bs.length : Int) ≤ T - x)) :
    Calls Tryd.prog 85 #[v, .agg #[.int .i64 F, .int .i64 C], .int .i64 x, .string (strOfNums bs)] w fun e w' => ∃ r : Int × Dv, r = (if x.tmod s.size ≠ 0 then 1 else 5, s) ∧ GivesED r.1 r.2 w e w' := by
  have hT := hl.most hok
  have hs1 := hok.s1
  have hs2 := hok.s2
  have hCS := hl.t
  have HSz := Lib.hid (strOfNums_size bs)
  obtain ⟨Ak, ck, Aw, cw, rfl, hr0⟩ := h
  have G0 : Hid (DGoing w (((w.alloc (.cells (dCells Ak ck Aw cw s) 31)).alloc (.cells #[.int .i64 F, .int .i64 C] 42)).alloc (.cells zD 31)) w.heap.size F C 0 s bs 0 (dCells Ak ck Aw cw s)) := Lib.hid
    ⟨((Block.new w _ _).alloc _).alloc _, (block_two w _ _ _).alloc _, block_three w _ _ _ _, RDv.below ⟨Ak, ck, Aw, cw, rfl, hr0⟩ (below_three w _ _ _), below_three w _ _ _, fun j hj => absurd hj (by omega), Nat.le_refl _⟩
  obtain ⟨S, hS⟩ : ∃ S, strOfNums bs = S := ⟨_, rfl⟩
  rw [hS] at HSz ⊢
  have hsz : S.size = bs.length := HSz.out
  have hzz : ¬ s.size = 0 := by omega
  unfold zD at G0
  unfold dCells at G0 ⊢
  clear hr0 hS hok hl
  by_cases hm : x.tmod s.size = 0
  · have hin : ¬ (0 ≤ x ∧ x ≤ (T : Int) ∧ 0 ≤ (bs.length : Int) ∧ (bs.length : Int) ≤ (T : Int) - x) := fun h => hno ⟨hm, h⟩
    simp only [if_neg (not_not_intro hm)]
    have hrem := hm
    have h3 : (decide (x < 0) = true) ∨ (decide (x < 0) = false ∧ decide ((T : Int) < x) = true) ∨ (decide (x < 0) = false ∧ decide ((T : Int) < x) = false ∧ decide ((T : Int) - x < (bs.length : Int)) = true) := by
      by_cases h1 : x < 0
      · exact Or.inl (decide_eq_true h1)
      · by_cases h2 : (T : Int) < x
        · exact Or.inr (Or.inl ⟨decide_eq_false h1, decide_eq_true h2⟩)
        · exact Or.inr (Or.inr ⟨decide_eq_false h1, decide_eq_false h2, decide_eq_true (by omega)⟩)
    clear hno hin hm
    generalize bs.length = L at *
    rcases h3 with d1 | ⟨d1, d2⟩ | ⟨d1, d2, d3⟩
    · have b0 : (x.tmod (s.size : Int) != 0) = false := by rw [hrem]; rfl
      clear hrem
      go_enter Tryd.func85, Tryd.ntmps85
      go_wp2_with fail
      generalize hW3 : ((w.alloc _).alloc _).alloc _ = w3 at *
      generalize hg : w.heap.size = g at G0 ⊢
      clear hW3
      have X9 : Block w3.drew g 31 (dCells Ak ck Aw cw s) := Block.drewN G0.out.x 1
      have Y9 : Block w3.drew (g + 1 + 1) 31 zD := Block.drewN G0.out.z 1
      have B9 : Below w.heap.size w w3.drew := below_draws G0.out.b 1
      have RV9 := RDv.below G0.out.v (below_draws (Below.refl _ _) 1)
      refine wp_region_held_drew (S := fun W => Block W g 31 (dCells Ak ck Aw cw s)) (by kernel_rfl) G0.out.x (fun hS => ?_)
      refine wpAnyH_take (i := 0) (oi := ⟨some 41, _, _, _, _, _⟩) (v := .agg (dCells Ak ck Aw cw s)) rfl (by kernel_rfl) (by kernel_rfl) (by kernel_rfl) (fun _ _ _ h => h) (yieldsIf_load_mid (by rfl) _ _ rfl g (0) rfl (dCells Ak ck Aw cw s).toList _ (fun W hW => block_range hW) Tryd.underlying31 rfl (by kernel_rfl)) hS ?_
      try simp only [Act.put, List.setIfInBounds_toArray, List.set_cons_zero, List.set_cons_succ]
      refine wpAnyH_ready (rs := [1]) (by kernel_rfl) (by simp) ?_
      refine AllReadyH.cons rfl (fun K hK => ?_) AllReadyH.nil
      go_simp
      refine hK.out _ _ X9 (fun hS => ?_)
      clear hK K
      try simp only [Act.put, List.setIfInBounds_toArray, List.set_cons_zero, List.set_cons_succ]
      refine wpAnyH_ready (rs := [2]) (by kernel_rfl) (by simp) ?_
      refine AllReadyH.cons rfl (fun K hK => ?_) AllReadyH.nil
      refine step_store_blk rfl _ _ _ rfl (cs := zD) (ds := (dCells Ak ck Aw cw s).toList) (by exact Y9) rfl rfl rfl (by kernel_rfl) (dCells_one _ _ _ _ _) ?_
      intro x9 Z9 g9
      have X10 := X9.grown g9 (by intro h; injection h with h; omega)
      have RV10 := RV9.kept Y9 zD_noText g9
      have B10 := B9.trans (below_of_grown g9 B9.size fun b hb => by injection hb with hb; omega)
      refine hK.out _ _ X10 (fun hS => ?_)
      clear hK K
      try simp only [Act.put, List.setIfInBounds_toArray, List.set_cons_zero, List.set_cons_succ]
      refine wpAnyH_done (by kernel_rfl) ?_ _
      go_wp2_with fail
      exact bodyPost_ret (v := .tuple #[.int .i64 5, .agg (dCells Ak ck Aw cw s)]) (results_tmp_row rfl _ _ (g + 1 + 1) 31 _ (0, 0) _ _ rfl rfl Z9 Tryd.underlying31 rfl (by kernel_rfl)) rfl ⟨(5, s), rfl, _, rfl, RV10, B10⟩
    · have b0 : (x.tmod (s.size : Int) != 0) = false := by rw [hrem]; rfl
      clear hrem
      go_enter Tryd.func85, Tryd.ntmps85
      go_wp2_with fail
      generalize hW3 : ((w.alloc _).alloc _).alloc _ = w3 at *
      generalize hg : w.heap.size = g at G0 ⊢
      clear hW3
      have X9 : Block w3.drew g 31 (dCells Ak ck Aw cw s) := Block.drewN G0.out.x 1
      have Y9 : Block w3.drew (g + 1 + 1) 31 zD := Block.drewN G0.out.z 1
      have B9 : Below w.heap.size w w3.drew := below_draws G0.out.b 1
      have RV9 := RDv.below G0.out.v (below_draws (Below.refl _ _) 1)
      refine wp_region_held_drew (S := fun W => Block W g 31 (dCells Ak ck Aw cw s)) (by kernel_rfl) G0.out.x (fun hS => ?_)
      refine wpAnyH_take (i := 0) (oi := ⟨some 41, _, _, _, _, _⟩) (v := .agg (dCells Ak ck Aw cw s)) rfl (by kernel_rfl) (by kernel_rfl) (by kernel_rfl) (fun _ _ _ h => h) (yieldsIf_load_mid (by rfl) _ _ rfl g (0) rfl (dCells Ak ck Aw cw s).toList _ (fun W hW => block_range hW) Tryd.underlying31 rfl (by kernel_rfl)) hS ?_
      try simp only [Act.put, List.setIfInBounds_toArray, List.set_cons_zero, List.set_cons_succ]
      refine wpAnyH_ready (rs := [1]) (by kernel_rfl) (by simp) ?_
      refine AllReadyH.cons rfl (fun K hK => ?_) AllReadyH.nil
      go_simp
      refine hK.out _ _ X9 (fun hS => ?_)
      clear hK K
      try simp only [Act.put, List.setIfInBounds_toArray, List.set_cons_zero, List.set_cons_succ]
      refine wpAnyH_ready (rs := [2]) (by kernel_rfl) (by simp) ?_
      refine AllReadyH.cons rfl (fun K hK => ?_) AllReadyH.nil
      refine step_store_blk rfl _ _ _ rfl (cs := zD) (ds := (dCells Ak ck Aw cw s).toList) (by exact Y9) rfl rfl rfl (by kernel_rfl) (dCells_one _ _ _ _ _) ?_
      intro x9 Z9 g9
      have X10 := X9.grown g9 (by intro h; injection h with h; omega)
      have RV10 := RV9.kept Y9 zD_noText g9
      have B10 := B9.trans (below_of_grown g9 B9.size fun b hb => by injection hb with hb; omega)
      refine hK.out _ _ X10 (fun hS => ?_)
      clear hK K
      try simp only [Act.put, List.setIfInBounds_toArray, List.set_cons_zero, List.set_cons_succ]
      refine wpAnyH_done (by kernel_rfl) ?_ _
      go_wp2_with fail
      exact bodyPost_ret (v := .tuple #[.int .i64 5, .agg (dCells Ak ck Aw cw s)]) (results_tmp_row rfl _ _ (g + 1 + 1) 31 _ (0, 0) _ _ rfl rfl Z9 Tryd.underlying31 rfl (by kernel_rfl)) rfl ⟨(5, s), rfl, _, rfl, RV10, B10⟩
    · have b0 : (x.tmod (s.size : Int) != 0) = false := by rw [hrem]; rfl
      have hx0 : 0 ≤ x := by have := of_decide_eq_false d1; omega
      have hx1 : x ≤ (T : Int) := by have := of_decide_eq_false d2; omega
      obtain ⟨y, rfl⟩ : ∃ y : Nat, x = (y : Int) := ⟨x.toNat, by omega⟩
      have d2 : decide (T < y) = false := decide_eq_false (by omega)
      clear hx0
      go_enter Tryd.func85, Tryd.ntmps85
      go_wp2_with fail
      generalize hW3 : ((w.alloc _).alloc _).alloc _ = w3 at *
      generalize hg : w.heap.size = g at G0 ⊢
      clear hW3
      have X9 : Block w3.drew g 31 (dCells Ak ck Aw cw s) := Block.drewN G0.out.x 1
      have Y9 : Block w3.drew (g + 1 + 1) 31 zD := Block.drewN G0.out.z 1
      have B9 : Below w.heap.size w w3.drew := below_draws G0.out.b 1
      have RV9 := RDv.below G0.out.v (below_draws (Below.refl _ _) 1)
      refine wp_region_held_drew (S := fun W => Block W g 31 (dCells Ak ck Aw cw s)) (by kernel_rfl) G0.out.x (fun hS => ?_)
      refine wpAnyH_take (i := 0) (oi := ⟨some 41, _, _, _, _, _⟩) (v := .agg (dCells Ak ck Aw cw s)) rfl (by kernel_rfl) (by kernel_rfl) (by kernel_rfl) (fun _ _ _ h => h) (yieldsIf_load_mid (by rfl) _ _ rfl g (0) rfl (dCells Ak ck Aw cw s).toList _ (fun W hW => block_range hW) Tryd.underlying31 rfl (by kernel_rfl)) hS ?_
      try simp only [Act.put, List.setIfInBounds_toArray, List.set_cons_zero, List.set_cons_succ]
      refine wpAnyH_ready (rs := [1]) (by kernel_rfl) (by simp) ?_
      refine AllReadyH.cons rfl (fun K hK => ?_) AllReadyH.nil
      go_simp
      refine hK.out _ _ X9 (fun hS => ?_)
      clear hK K
      try simp only [Act.put, List.setIfInBounds_toArray, List.set_cons_zero, List.set_cons_succ]
      refine wpAnyH_ready (rs := [2]) (by kernel_rfl) (by simp) ?_
      refine AllReadyH.cons rfl (fun K hK => ?_) AllReadyH.nil
      refine step_store_blk rfl _ _ _ rfl (cs := zD) (ds := (dCells Ak ck Aw cw s).toList) (by exact Y9) rfl rfl rfl (by kernel_rfl) (dCells_one _ _ _ _ _) ?_
      intro x9 Z9 g9
      have X10 := X9.grown g9 (by intro h; injection h with h; omega)
      have RV10 := RV9.kept Y9 zD_noText g9
      have B10 := B9.trans (below_of_grown g9 B9.size fun b hb => by injection hb with hb; omega)
      refine hK.out _ _ X10 (fun hS => ?_)
      clear hK K
      try simp only [Act.put, List.setIfInBounds_toArray, List.set_cons_zero, List.set_cons_succ]
      refine wpAnyH_done (by kernel_rfl) ?_ _
      go_wp2_with fail
      exact bodyPost_ret (v := .tuple #[.int .i64 5, .agg (dCells Ak ck Aw cw s)]) (results_tmp_row rfl _ _ (g + 1 + 1) 31 _ (0, 0) _ _ rfl rfl Z9 Tryd.underlying31 rfl (by kernel_rfl)) rfl ⟨(5, s), rfl, _, rfl, RV10, B10⟩
  · simp only [if_pos hm]
    have b0 : (x.tmod (s.size : Int) != 0) = true := by simpa using hm
    clear hno hm
    go_enter Tryd.func85, Tryd.ntmps85
    go_wp2_with fail
    generalize hW3 : ((w.alloc _).alloc _).alloc _ = w3 at *
    generalize hg : w.heap.size = g at G0 ⊢
    clear hW3
    have X9 : Block w3.drew g 31 (dCells Ak ck Aw cw s) := Block.drewN G0.out.x 1
    have Y9 : Block w3.drew (g + 1 + 1) 31 zD := Block.drewN G0.out.z 1
    have B9 : Below w.heap.size w w3.drew := below_draws G0.out.b 1
    have RV9 := RDv.below G0.out.v (below_draws (Below.refl _ _) 1)
    refine wp_region_held_drew (S := fun W => Block W g 31 (dCells Ak ck Aw cw s)) (by kernel_rfl) G0.out.x (fun hS => ?_)
    refine wpAnyH_take (i := 0) (oi := ⟨some 20, _, _, _, _, _⟩) (v := .agg (dCells Ak ck Aw cw s)) rfl (by kernel_rfl) (by kernel_rfl) (by kernel_rfl) (fun _ _ _ h => h) (yieldsIf_load_mid (by rfl) _ _ rfl g (0) rfl (dCells Ak ck Aw cw s).toList _ (fun W hW => block_range hW) Tryd.underlying31 rfl (by kernel_rfl)) hS ?_
    try simp only [Act.put, List.setIfInBounds_toArray, List.set_cons_zero, List.set_cons_succ]
    refine wpAnyH_ready (rs := [1]) (by kernel_rfl) (by simp) ?_
    refine AllReadyH.cons rfl (fun K hK => ?_) AllReadyH.nil
    go_simp
    refine hK.out _ _ X9 (fun hS => ?_)
    clear hK K
    try simp only [Act.put, List.setIfInBounds_toArray, List.set_cons_zero, List.set_cons_succ]
    refine wpAnyH_ready (rs := [2]) (by kernel_rfl) (by simp) ?_
    refine AllReadyH.cons rfl (fun K hK => ?_) AllReadyH.nil
    refine step_store_blk rfl _ _ _ rfl (cs := zD) (ds := (dCells Ak ck Aw cw s).toList) (by exact Y9) rfl rfl rfl (by kernel_rfl) (dCells_one _ _ _ _ _) ?_
    intro x9 Z9 g9
    have X10 := X9.grown g9 (by intro h; injection h with h; omega)
    have RV10 := RV9.kept Y9 zD_noText g9
    have B10 := B9.trans (below_of_grown g9 B9.size fun b hb => by injection hb with hb; omega)
    refine hK.out _ _ X10 (fun hS => ?_)
    clear hK K
    try simp only [Act.put, List.setIfInBounds_toArray, List.set_cons_zero, List.set_cons_succ]
    refine wpAnyH_done (by kernel_rfl) ?_ _
    go_wp2_with fail
    exact bodyPost_ret (v := .tuple #[.int .i64 1, .agg (dCells Ak ck Aw cw s)]) (results_tmp_row rfl _ _ (g + 1 + 1) 31 _ (0, 0) _ _ rfl rfl Z9 Tryd.underlying31 rfl (by kernel_rfl)) rfl ⟨(1, s), rfl, _, rfl, RV10, B10⟩

theorem rpwrite_any (v : Value) (s : Dv) (F C : Int) (T : Nat) (x : Int) (bs : List Int) (w : World) (h : RDv w v s) (hok : s.Ok) (hl : Lies s F C T) (hx : -9223372036854775808 ≤ x ∧ x ≤ 9223372036854775807) (hbl : bs.length ≤ 1000000) (hof : s.offs ≤ 100000000) (hwr : s.wr ≤ 100000000) :
    Calls Tryd.prog 85 #[v, .agg #[.int .i64 F, .int .i64 C], .int .i64 x, .string (strOfNums bs)] w fun e w' => ∃ r, PWrite s F T x bs r ∧ GivesED r.1 r.2 w e w' := by
  unfold PWrite
  by_cases hm : x.tmod s.size = 0
  · simp only [if_neg (not_not_intro hm)]
    by_cases hin : 0 ≤ x ∧ x ≤ (T : Int) ∧ 0 ≤ (bs.length : Int) ∧ (bs.length : Int) ≤ (T : Int) - x
    · simp only [if_pos hin]
      obtain ⟨b, rfl⟩ : ∃ b : Nat, x = (b : Int) := ⟨x.toNat, by omega⟩
      have hb : b % s.size = 0 := by have h1 : ((b % s.size : Nat) : Int) = 0 := by rw [← hm]; exact Int.ofNat_tmod b s.size
                                     omega
      exact rpwrite_yes v s F C T b bs w h hok hl hbl hof hwr hb (by omega)
    · simp only [if_neg hin]
      have := rpwrite_no v s F C T x bs w h hok hl hx hbl (fun h => hin h.2)
      rw [if_neg (not_not_intro hm)] at this
      exact this
  · simp only [if_pos hm]
    have := rpwrite_no v s F C T x bs w h hok hl hx hbl (fun h => hm h.1)
    rw [if_pos hm] at this
    exact this
end Go.Proofs.YtpnodocjpedcmaaDoor.Pt

namespace Go.Proofs.YtpnodocjpedcmaaDoor.Pt
open Go.ChangeShapes Go.WideShapes Go.ChangeAt Go.RowKit Go.Proofs.YtpnodocjpedcmaaDoor.Kit Go.Proofs.YtpnodocjpedcmaaDoor.Sec

/-- Before a sector is read. -/
structure RGoing (w wr : World) (g : Nat) (F C : Int) (s : Dv) (cs : Array Value) : Prop where
  x : Block wr g 31 cs
  r : Block wr (g + 1) 42 #[.int .i64 F, .int .i64 C]
  v : RDv wr (.agg cs) s
  b : Below w.heap.size w wr
theorem RGoing.below {w wr w' : World} {g : Nat} {F C : Int} {s : Dv} {cs : Array Value} (h : RGoing w wr g F C s cs) (hb : Below wr.heap.size wr w') : RGoing w w' g F C s cs :=
  ⟨h.x.below hb h.x.lt, h.r.below hb h.r.lt, h.v.below hb, h.b.trans (hb.mono h.b.size)⟩
theorem str_zero (s : Dv) (F : Int) (b : Nat) : strOfNums (rowP s F b 0) = ⟨#[]⟩ := rfl

set_option maxRecDepth 100000 in
set_option maxHeartbeats 6400000 in
theorem rpread_yes (v : Value) (s : Dv) (F C : Int) (T b N : Nat) (w : World) (h : RDv w v s) (hok : s.Ok) (hwh : Whole s) (hl : Lies s F C T) (hin : b ≤ T ∧ N ≤ T - b) :
    Calls Tryd.prog 87 #[v, .agg #[.int .i64 F, .int .i64 C], .int .i64 (b : Int), .int .i64 (N : Int)] w fun e w' => ∃ r, ReadsP s F b N r ∧ GivesS r.1 r.2 w e w' := by
  have hT := hl.most hok
  have hs1 := hok.s1
  have hs2 := hok.s2
  have hc1 := hl.c1
  have hf0 := hl.f0
  have hfc := hl.fc
  have hct := hok.c2
  have hCS := hl.t
  have GR := Lib.hid (fun W v i hv => rread_any v s i W hv hok)
  have HWH := Lib.hid hwh
  obtain ⟨Ak, ck, Aw, cw, rfl, hr0⟩ := h
  have G0 : Hid (RGoing w ((w.alloc (.cells (dCells Ak ck Aw cw s) 31)).alloc (.cells #[.int .i64 F, .int .i64 C] 42)) w.heap.size F C s (dCells Ak ck Aw cw s)) := Lib.hid
    ⟨(Block.new w _ _).alloc _, block_two w _ _ _, RDv.below ⟨Ak, ck, Aw, cw, rfl, hr0⟩ (below_two w _ _), below_two w _ _⟩
  have HZ0 : Hid (∀ W g, Block W g 31 (dCells Ak ck Aw cw s) → W.cell? ⟨g, 0, none⟩ = some (.int .i64 (s.size : Int))) := Lib.hid (fun W g hW => hW.cell 0)
  obtain ⟨z, hz⟩ : ∃ z, s.size = z := ⟨_, rfl⟩
  have HZ := Lib.hid hz
  have d1 : decide ((b : Int) < 0) = false := decide_eq_false (by omega)
  have d4 : decide ((N : Int) < 0) = false := decide_eq_false (by omega)
  have d2 : decide (T < b) = false := decide_eq_false (by omega)
  have d3 : decide ((T : Int) - (b : Int) < (N : Int)) = false := decide_eq_false (by omega)
  unfold dCells at G0 HZ0 ⊢
  rw [hz] at hs1 hs2 hCS HZ0 G0 ⊢
  have hzz : ¬ z = 0 := by omega
  clear hr0 hl hok hwh hz
  go_enter Tryd.func87, Tryd.ntmps87
  go_wp2_with fail
  generalize hW3 : (w.alloc _).alloc _ = w3 at *
  generalize hg : w.heap.size = g at G0 ⊢
  have HG := Lib.hid hg
  clear hW3 hg d1 d2 d3 d4
  go_loopw [11, 12] (fun t q wr => ∃ (i k : Nat), (i : Int) ≤ C ∧ k = min N (i * z - b) ∧ q = .int .i64 i ∧ t = .string (strOfNums (rowP s F b k)) ∧ OkP s F b k ∧ RGoing w wr g F C s (dCells Ak ck Aw cw s)) (fun _ q _ => C.toNat - (intOf q).toNat)
  case atStart => exact ⟨0, 0, by omega, by omega, rfl, rfl, fun j hj => absurd hj (by omega), by have := G0.out; unfold dCells; rw [HZ.out]; exact this⟩
  case round =>
    clear G0
    obtain ⟨i, k, hi, hk, rfl, rfl, hok, G⟩ := hrel
    have x0 : wr.cell? ⟨g, 0, none⟩ = some (.int .i64 (z : Int)) := HZ0.out wr g (by have := G.x; unfold dCells at this; rw [HZ.out] at this; exact this)
    have r0 : wr.cell? ⟨g + 1, 0, none⟩ = some (.int .i64 F) := G.r.cell 0
    have r1 : wr.cell? ⟨g + 1, 1, none⟩ = some (.int .i64 C) := G.r.cell 1
    obtain ⟨K, hK⟩ : ∃ K : Nat, i * z = K := ⟨_, rfl⟩
    have hKz : (i : Int) * (z : Int) = (K : Int) := by rw [← hK, Int.natCast_mul]
    have hKz1 : ((i : Int) + 1) * (z : Int) = (K : Int) + (z : Int) := by rw [Int.add_mul, hKz, Int.one_mul]
    have hKT : K ≤ T := by
      have h1 : (i : Int) * (z : Int) ≤ C * (z : Int) := Int.mul_le_mul_of_nonneg_right hi (by omega)
      omega
    rw [hK] at hk
    have XG := Lib.hid G
    have HK := Lib.hid hk
    have HOK := Lib.hid hok
    have HKK := Lib.hid hK
    have hkN : k ≤ N := by omega
    have hi6 : i ≤ 1048576 := by omega
    by_cases hlt : (i : Int) < C
    · have d0 : decide ((i : Int) < C) = true := decide_eq_true hlt
      have hKT1 : K + z ≤ T := by
        have h1 : ((i : Int) + 1) * (z : Int) ≤ C * (z : Int) := Int.mul_le_mul_of_nonneg_right (by omega) (by omega)
        omega
      obtain ⟨lo, hlo⟩ : ∃ lo : Nat, max b K = lo := ⟨_, rfl⟩
      have hlo1 : max (b : Int) (K : Int) = (lo : Int) := by omega
      obtain ⟨hi', hhi⟩ : ∃ hi' : Nat, min (b + N) (K + z) = hi' := ⟨_, rfl⟩
      have hhi1 : min ((b : Int) + (N : Int)) ((K : Int) + (z : Int)) = (hi' : Int) := by omega
      have hKS : (i + 1) * z = K + z := by rw [Nat.add_mul, HKK.out, Nat.one_mul]
      have hb1 : lo ≤ T := by omega
      have hb2 : hi' ≤ T := by omega
      by_cases hc : hi' ≤ lo
      · have d1 : decide (hi' ≤ lo) = true := decide_eq_true hc
        have hk1 : k = min N ((i + 1) * z - b) := by rw [hKS]; omega
        have HK1 := Lib.hid hk1
        clear hk1 hK hk hok hKS hlo hhi G
        go_wp2_with fail
        go_roundw
        case rel => exact ⟨i + 1, k, by omega, HK1.out, by go_num, rfl, HOK.out, XG.out⟩
        case measure => simp [intOf]; omega
      · have d1 : decide (hi' ≤ lo) = false := decide_eq_false hc
        obtain ⟨xs, E, hsec⟩ : ∃ xs E, secP s F (b + k) = (xs, E) := ⟨_, _, rfl⟩
        have hbk : b + k = lo := by omega
        have hdv : (b + k) / z = i := by
          rw [hbk]
          exact Nat.div_eq_of_lt_le (by rw [HKK.out]; omega) (by rw [hKS]; omega)
        have hmd : (b + k) % z = lo - K := by
          have := Nat.div_add_mod (b + k) z
          rw [hdv, Nat.mul_comm, HKK.out] at this
          omega
        have GRD : Hid (∀ W, RDv W (.agg (dCells Ak ck Aw cw s)) s → Calls Tryd.prog 51 #[.agg (dCells Ak ck Aw cw s), .int .i64 (F + (i : Int))] W (GivesS xs E W)) := Lib.hid (fun W hv => by
          have := GR.out W _ (F + (i : Int)) hv
          have e : s.read (F + (i : Int)) = (xs, E) := by
            rw [← hsec]
            unfold secP
            rw [HZ.out, hdv]
          rwa [e] at this)
        have HS := Lib.hid hsec
        obtain ⟨r, hr⟩ : ∃ r : Nat, lo - K = r := ⟨_, rfl⟩
        obtain ⟨m, hm⟩ : ∃ m : Nat, hi' - lo = m := ⟨_, rfl⟩
        have hlr : (lo : Int) - (K : Int) = (r : Int) := by omega
        have hhr : (hi' : Int) - (K : Int) = (r : Int) + (m : Int) := by omega
        have hrm : r + m ≤ z := by omega
        have HM1 : Hid ((b + k) % z = r) := Lib.hid (by rw [hmd, hr])
        have HK1 : Hid (k + m = min N ((i + 1) * z - b)) := Lib.hid (by rw [hKS]; omega)
        have hkm : k < N := by omega
        have HB := Lib.hid (block_range (L := (dCells Ak ck Aw cw s).toList) XG.out.x)
        by_cases hE : E = 0
        · subst hE
          obtain ⟨t1, ht1⟩ : ∃ t1, strOfNums (rowP s F b k) = t1 := ⟨_, rfl⟩
          have ht1z : t1.size = k := by rw [← ht1, strOfNums_size, rowP_length]
          obtain ⟨r2, hr2⟩ : ∃ r2, r + m = r2 := ⟨_, rfl⟩
          have hhr2 : (hi' : Int) - (K : Int) = (r2 : Int) := by omega
          have hxl : xs.length = z := by
            have := (HWH.out (F + ((b + k) / s.size : Nat)) xs HS.out).1
            rwa [HZ.out] at this
          have hcut1 := piece_cut (s := s) (F := F) (p := b + k) (m := m) (xs := xs) (by rw [hxl, HZ.out]) HS.out (by rw [HZ.out, HM1.out]; omega)
          rw [HZ.out, HM1.out, hr2] at hcut1
          have hjoin1 := row_join s F b k m
          have HOK1 := Lib.hid (okP_add (m := m) HOK.out (by rw [HZ.out, HM1.out]; omega) (by rw [HS.out]))
          obtain ⟨S1, hS1⟩ : ∃ S1, strOfNums xs = S1 := ⟨_, rfl⟩
          have hS1z : S1.size = z := by rw [← hS1, strOfNums_size, hxl]
          obtain ⟨P1, hP1⟩ : ∃ P1, strOfNums (rowP s F (b + k) m) = P1 := ⟨_, rfl⟩
          have hP1z : P1.size = m := by rw [← hP1, strOfNums_size, rowP_length]
          rw [hS1, hP1] at hcut1
          rw [hP1, ht1] at hjoin1
          rw [ht1]
          obtain ⟨t2, ht2⟩ : ∃ t2, strOfNums (rowP s F b (k + m)) = t2 := ⟨_, rfl⟩
          rw [ht2] at hjoin1
          have hadd : ∀ W, (Op.stringOp .add t1 P1).run Tryd.prog W = .ok (.string t2) W := fun W => by
            rw [← hjoin1]
            exact run_string_add_sum W t1 P1 (by omega)
          have HT2 := Lib.hid ht2
          have HS1 := Lib.hid hS1
          have hr2z : r2 ≤ z := by omega
          have hrr2 : r ≤ r2 := by omega
          clear hsec hK hk hok hKS hlo hhi G hbk hdv hmd hr hm ht1 hc hxl hS1 hP1 hjoin1 ht2 hhr hr2 hP1z
          go_wp2_with (first
            | (have _t := x0; refine wpList_load_midV (by rfl) _ _ rfl g 0 rfl (dCells Ak ck Aw cw s).toList HB.out Tryd.underlying31 rfl (by kernel_rfl) ?_; clear _t)
            | (go_at_call 51; (with_reducible refine (GRD.out _ XG.out.v).mono ?_); rintro e x1 ⟨rfl, hb1⟩; rw [HS1.out]; have XG1 := Lib.hid (XG.out.below hb1); have y0 : x1.cell? ⟨g, 0, none⟩ = some (.int .i64 (z : Int)) := HZ0.out x1 g (by have := XG1.out.x; unfold dCells at this; rw [HZ.out] at this; exact this); clear x0 r0 r1))
          go_roundw
          case rel => exact ⟨i + 1, k + m, by omega, HK1.out, by go_num, by rw [HT2.out], HOK1.out, XG1.out⟩
          case measure => simp [intOf]; omega
        · have d5 : (E != 0) = true := by simpa using hE
          clear hsec hK hk hok hKS hlo hhi G hbk hdv hmd hr hm hc hhr
          go_wp2_with (first
            | (have _t := x0; refine wpList_load_midV (by rfl) _ _ rfl g 0 rfl (dCells Ak ck Aw cw s).toList HB.out Tryd.underlying31 rfl (by kernel_rfl) ?_; clear _t)
            | (go_at_call 51; (with_reducible refine (GRD.out _ XG.out.v).mono ?_); rintro e x1 ⟨rfl, hb1⟩))
          go_ret2
          exact ⟨([], E), Or.inl ⟨k, hkm, HOK.out, by rw [HS.out]; exact hE, by rw [HS.out]⟩, rfl, (XG.out.below hb1).b⟩
    · have d0 : decide ((i : Int) < C) = false := decide_eq_false hlt
      have hkN2 : k = N := by
        have h1 : (i : Int) = C := by omega
        have h2 : (K : Int) = (T : Int) := by rw [← hKz, h1, hCS]
        omega
      have HKN := Lib.hid hkN2
      clear hK hk hok G hKz hKz1 hkN2 hkN
      go_wp2_with fail
      go_ret2
      exact ⟨rowP s F b N, 0, Or.inr ⟨by rw [← HKN.out]; exact HOK.out, rfl⟩, by rw [HKN.out]; rfl, XG.out.b⟩

set_option maxRecDepth 100000 in
set_option maxHeartbeats 6400000 in
theorem rpread_no (v : Value) (s : Dv) (F C : Int) (T : Nat) (x n : Int) (w : World) (h : RDv w v s) (hok : s.Ok) (hl : Lies s F C T) (hx : -9223372036854775808 ≤ x ∧ x ≤ 9223372036854775807)
    (hno : ¬ (0 ≤ x ∧ x ≤ T ∧ 0 ≤ n ∧ n ≤ T - x)) :
    Calls Tryd.prog 87 #[v, .agg #[.int .i64 F, .int .i64 C], .int .i64 x, .int .i64 n] w (GivesS [] 5 w) := by
  have hT := hl.most hok
  have hs1 := hok.s1
  have hs2 := hok.s2
  have hCS := hl.t
  have HS := Lib.hid str_nil
  have B2 := Lib.hid (fun o p => below_two w o p)
  obtain ⟨Ak, ck, Aw, cw, rfl, hr0⟩ := h
  have h3 : (decide (x < 0) = true) ∨ (decide (x < 0) = false ∧ decide (n < 0) = true) ∨ (decide (x < 0) = false ∧ decide (n < 0) = false ∧ decide ((T : Int) < x) = true) ∨ (decide (x < 0) = false ∧ decide (n < 0) = false ∧ decide ((T : Int) < x) = false ∧ decide ((T : Int) - x < n) = true) := by
    by_cases h1 : x < 0
    · exact Or.inl (decide_eq_true h1)
    · by_cases h4 : n < 0
      · exact Or.inr (Or.inl ⟨decide_eq_false h1, decide_eq_true h4⟩)
      · by_cases h2 : (T : Int) < x
        · exact Or.inr (Or.inr (Or.inl ⟨decide_eq_false h1, decide_eq_false h4, decide_eq_true h2⟩))
        · exact Or.inr (Or.inr (Or.inr ⟨decide_eq_false h1, decide_eq_false h4, decide_eq_false h2, decide_eq_true (by omega)⟩))
  unfold dCells
  clear hr0 hl hok hno
  rcases h3 with d1 | ⟨d1, d2⟩ | ⟨d1, d2, d3⟩ | ⟨d1, d2, d3, d4⟩
  · go_enter Tryd.func87, Tryd.ntmps87
    go_wp2_with fail
    go_ret2
    exact ⟨by rw [HS.out]; rfl, B2.out _ _⟩
  · go_enter Tryd.func87, Tryd.ntmps87
    go_wp2_with fail
    go_ret2
    exact ⟨by rw [HS.out]; rfl, B2.out _ _⟩
  · go_enter Tryd.func87, Tryd.ntmps87
    go_wp2_with fail
    go_ret2
    exact ⟨by rw [HS.out]; rfl, B2.out _ _⟩
  · have hx0 : 0 ≤ x := by have := of_decide_eq_false d1; omega
    have hx1 : x ≤ (T : Int) := by have := of_decide_eq_false d3; omega
    obtain ⟨y, rfl⟩ : ∃ y : Nat, x = (y : Int) := ⟨x.toNat, by omega⟩
    have d3 : decide (T < y) = false := decide_eq_false (by omega)
    clear hx0
    go_enter Tryd.func87, Tryd.ntmps87
    go_wp2_with fail
    go_ret2
    exact ⟨by rw [HS.out]; rfl, B2.out _ _⟩

theorem rpread_any (v : Value) (s : Dv) (F C : Int) (T : Nat) (x n : Int) (w : World) (h : RDv w v s) (hok : s.Ok) (hwh : Whole s) (hl : Lies s F C T) (hx : -9223372036854775808 ≤ x ∧ x ≤ 9223372036854775807) :
    Calls Tryd.prog 87 #[v, .agg #[.int .i64 F, .int .i64 C], .int .i64 x, .int .i64 n] w fun e w' => ∃ r, PRead s F T x n r ∧ GivesS r.1 r.2 w e w' := by
  unfold PRead
  by_cases hin : 0 ≤ x ∧ x ≤ (T : Int) ∧ 0 ≤ n ∧ n ≤ (T : Int) - x
  · simp only [if_pos hin]
    obtain ⟨b, rfl⟩ : ∃ b : Nat, x = (b : Int) := ⟨x.toNat, by omega⟩
    obtain ⟨N, rfl⟩ : ∃ N : Nat, n = (N : Int) := ⟨n.toNat, by omega⟩
    exact rpread_yes v s F C T b N w h hok hwh hl (by omega)
  · simp only [if_neg hin]
    exact (rpread_no v s F C T x n w h hok hl hx hin).mono fun e w' h => ⟨([], 5), rfl, h⟩
end Go.Proofs.YtpnodocjpedcmaaDoor.Pt

namespace Go.Proofs.YtpnodocjpedcmaaDoor.Pt
open Go.ChangeShapes Go.WideShapes Go.ChangeAt Go.RowKit Go.Proofs.YtpnodocjpedcmaaDoor.Kit Go.Proofs.YtpnodocjpedcmaaDoor.Sec

/-- A step: its kind, a place, a number, bytes, picks. -/
structure Step7 where
  k : Int
  x : Int
  n : Int
  A : Option Addr
  cap : Nat
  bs : List Int
  A2 : Option Addr
  cap2 : Nat
  zs : List Int
def Step7.cells (s : Step7) : List Value := [.int .i64 s.k, .int .i64 s.x, .int .i64 s.n, .slice s.A s.bs.length s.cap, .slice s.A2 s.zs.length s.cap2]
/-- How it lies in memory. -/
def StepIn (w : World) (B : Nat) (s : Step7) (cs : List Value) : Prop :=
  cs = s.cells ∧ (Lit.int .i64 s.k).wf = true ∧ (Lit.int .i64 s.x).wf = true ∧ (Lit.int .i64 s.n).wf = true ∧ (s.bs.length ≤ s.cap ∧ s.cap ≤ maxLen ∧ Octets s.bs ∧ Holds w B .u8 s.A s.bs) ∧ (s.zs.length ≤ s.cap2 ∧ s.cap2 ≤ maxLen ∧ Octets s.zs ∧ Holds w B .u8 s.A2 s.zs)
def HoldsQ (w : World) (B : Nat) (A : Option Addr) (ss : List Step7) : Prop := HoldsE (StepIn w B) 5 w B A ss

section
variable {H : Type} {enc : TypeId × Value → H} {P : Program} {w : World} {b0 : Nat}
theorem read_step {t : TypeId} {fs : Array Field} (ht : P.underlying t = some (.struct fs)) (h0 : isInt P fs 0 0 .i64 = true) (h1 : isInt P fs 1 1 .i64 = true) (h2 : isInt P fs 2 2 .i64 = true) (h3 : isBytes P fs 3 3 = true) (h4 : isBytes P fs 4 4 = true)
    (hsz : fs.size = 5) (hc : P.cellsOf t = 5) {n : Nat} {cs : List Value} {y : DataW H × List MemPlace} (h : DataW.trod enc P w 0 (fun _ => true) true n t cs = some y) (hlt : ∀ x ∈ y.2, x.block < w.heap.size) :
    ∃ s : Step7, StepIn w w.heap.size s cs := by
  obtain ⟨xs, m, _, hx, hl, hxl, hg⟩ := DataW.trod_struct ht h
  obtain ⟨f0, e0, o0, s0, u0⟩ := isInt_of h0
  obtain ⟨f1, e1, o1, s1, u1⟩ := isInt_of h1
  obtain ⟨f2, e2, o2, s2, u2⟩ := isInt_of h2
  obtain ⟨f3, ea, e3, o3, s3, u3, ua, ca⟩ := isBytes_of h3
  obtain ⟨f4, e, e4, o4, s4, u4, ue, ce⟩ := isBytes_of h4
  have x0 : xs[0]? = some (xs[0]'(by omega)) := List.getElem?_eq_getElem (by omega)
  have x1 : xs[1]? = some (xs[1]'(by omega)) := List.getElem?_eq_getElem (by omega)
  have x2 : xs[2]? = some (xs[2]'(by omega)) := List.getElem?_eq_getElem (by omega)
  have x3 : xs[3]? = some (xs[3]'(by omega)) := List.getElem?_eq_getElem (by omega)
  have x4 : xs[4]? = some (xs[4]'(by omega)) := List.getElem?_eq_getElem (by omega)
  have g0 := hg 0 f0 e0
  have g1 := hg 1 f1 e1
  have g2 := hg 2 f2 e2
  have g3 := hg 3 f3 e3
  have g4 := hg 4 f4 e4
  rw [o0, s0, x0] at g0
  rw [o1, s1, x1] at g1
  rw [o2, s2, x2] at g2
  rw [o3, s3, x3] at g3
  rw [o4, s4, x4] at g4
  obtain ⟨a, ha, _, wa⟩ := DataW.trod_int u0 g0
  obtain ⟨b, hb, _, wb⟩ := DataW.trod_int u1 g1
  obtain ⟨x, hxx, _, wx⟩ := DataW.trod_int u2 g2
  obtain ⟨A, cap, zs, hs0, r1, r2, r3, r4⟩ := octets_of u3 ua ca g3 (fun p hp => hlt p (by
    have hps : y.2 = xs.flatMap (·.2) := congrArg Prod.snd hx
    rw [hps]
    exact List.mem_flatMap.2 ⟨_, List.getElem_mem _, hp⟩))
  obtain ⟨A2, cap2, zs2, hs, t1, t2, t3, t4⟩ := octets_of u4 ue ce g4 (fun p hp => hlt p (by
    have hps : y.2 = xs.flatMap (·.2) := congrArg Prod.snd hx
    rw [hps]
    exact List.mem_flatMap.2 ⟨_, List.getElem_mem _, hp⟩))
  refine ⟨⟨a, b, x, A, cap, zs, A2, cap2, zs2⟩, ?_, wa, wb, wx, ⟨r1, r2, r3, r4⟩, ⟨t1, t2, t3, t4⟩⟩
  have q0 := get_of_one ha
  have q1 := get_of_one hb
  have q2 := get_of_one hxx
  have q3 := get_of_one hs0
  have q4 := get_of_one hs
  have hl5 : cs.length = 5 := by omega
  match cs, hl5, q0, q1, q2, q3, q4 with
  | [y0, y1, y2, y3, y4], _, q0, q1, q2, q3, q4 =>
    simp at q0 q1 q2 q3 q4
    subst q0 q1 q2 q3 q4
    rfl
/-- A slice of steps that came in. -/
theorem open_steps7 {t e : TypeId} {fs : Array Field} (ht : P.underlying t = some (.slice e)) (he : P.underlying e = some (.struct fs)) (h0 : isInt P fs 0 0 .i64 = true) (h1 : isInt P fs 1 1 .i64 = true) (h2 : isInt P fs 2 2 .i64 = true) (h3 : isBytes P fs 3 3 = true) (h4 : isBytes P fs 4 4 = true)
    (hsz : fs.size = 5) (hc : P.cellsOf e = 5) {v : Value} {d : DataW H} {ps : List MemPlace} (hval : Value.okWide P w .any b0 t v) (h : DataW.Trod enc P w 0 (fun _ => true) true t v d ps) (hlt : ∀ x ∈ ps, x.block < w.heap.size) :
    ∃ (A : Option Addr) (cap : Nat) (ss : List Step7), v = .slice A ss.length cap ∧ ss.length ≤ cap ∧ cap ≤ maxLen ∧ HoldsQ w w.heap.size A ss :=
  open_slice_of (StepIn w w.heap.size) 5 ht hc (by omega) (fun _ _ _ h hp => read_step he h0 h1 h2 h3 h4 hsz hc h hp) hval h hlt
end

/-- The steps at A, element by element. -/
theorem stepAt7 {w : World} {B : Nat} {A : Option Addr} {ss : List Step7} (h : HoldsQ w B A ss) {i : Nat} (hi : i < ss.length) :
    ∃ b off : Nat, A = some ⟨b, off, none⟩ ∧ b < B ∧ w.rangeAt b (off + i * 5) ss[i].cells ∧ (Lit.int .i64 ss[i].k).wf = true ∧ (Lit.int .i64 ss[i].x).wf = true ∧ (Lit.int .i64 ss[i].n).wf = true ∧
      (ss[i].bs.length ≤ ss[i].cap ∧ ss[i].cap ≤ maxLen ∧ Octets ss[i].bs ∧ Holds w B .u8 ss[i].A ss[i].bs) ∧ (ss[i].zs.length ≤ ss[i].cap2 ∧ ss[i].cap2 ≤ maxLen ∧ Octets ss[i].zs ∧ Holds w B .u8 ss[i].A2 ss[i].zs) := by
  obtain ⟨b, off, rfl, hb, hc⟩ := h (by omega)
  obtain ⟨cs, ⟨rfl, r1, r2, r3, r4, r5⟩, _, hcs⟩ := hc i ss[i] (List.getElem?_eq_getElem hi)
  exact ⟨b, off, rfl, hb, fun j c hj => hcs j c hj, r1, r2, r3, r4, r5⟩
theorem HoldsQ.below {w w' : World} {B : Nat} {A : Option Addr} {ss : List Step7} (h : HoldsQ w B A ss) (hb : Below B w w') : HoldsQ w' B A ss :=
  h.keep (fun _ hp => hb.cell hp) fun _ _ ⟨r0, r1, r2, r3, ⟨r4, r5, r6, r7⟩, ⟨t4, t5, t6, t7⟩⟩ => ⟨r0, r1, r2, r3, ⟨r4, r5, r6, r7.below hb⟩, ⟨t4, t5, t6, t7.below hb⟩⟩
end Go.Proofs.YtpnodocjpedcmaaDoor.Pt

namespace Go.Proofs.YtpnodocjpedcmaaDoor.Pt
open Go.ChangeShapes Go.WideShapes Go.ChangeAt Go.RowKit Go.Proofs.YtpnodocjpedcmaaDoor.Kit
open Go.Proofs.YtpnodocjpedcmaaDoor.Sec (Tells)

def bigB (s : Step7) : Bool := decide (2000 < s.bs.length) || decide (60 < s.zs.length)
def greatB (ss : List Step7) : Bool := decide (40 < ss.length) || ss.any bigB
theorem great_no {ss : List Step7} (h : greatB ss = false) : ss.length ≤ 40 ∧ ∀ s ∈ ss, s.bs.length ≤ 2000 ∧ s.zs.length ≤ 60 := by
  unfold greatB at h
  rw [Bool.or_eq_false_iff] at h
  refine ⟨by have := of_decide_eq_false h.1; omega, fun s hs => ?_⟩
  have := (List.any_eq_false.1 h.2 s hs |> Bool.eq_false_iff.2)
  unfold bigB at this
  rw [Bool.or_eq_false_iff] at this
  have h1 := of_decide_eq_false this.1
  have h2 := of_decide_eq_false this.2
  omega

end Go.Proofs.YtpnodocjpedcmaaDoor.Pt

namespace Go.Proofs.YtpnodocjpedcmaaDoor.Sec
open Go.ChangeShapes Go.WideShapes Go.ChangeAt Go.RowKit Go.Proofs.YtpnodocjpedcmaaDoor.Kit

section
variable {w w' : World} {I : Nat → Prop} {a mk mw : Nat} {s : Dv}
theorem DvAt.not_text (h : DvAt w I a mk mw s) {g o : Nat} {z : ByteArray} (hg : w.cell? ⟨g, o, none⟩ = some (.string z)) : ¬ DSet a mk mw g := by
  obtain ⟨cs, t, f, h1, h2⟩ := Sort.cells_of_cell? hg
  rintro (rfl | rfl | rfl)
  · rw [h.blk.cell] at hg
    have := List.mem_of_getElem? (by rw [← Array.getElem?_toList] at hg; exact hg)
    unfold Dv.cells at this
    simp only [List.mem_cons, List.not_mem_nil, or_false] at this
    rcases this with e | e | e | e | e | e | e | e <;> cases e
  · exact h.k.no_row _ _ _ h1
  · exact h.wt.no_row _ _ _ h1
theorem HoldsF.dset (h : DvAt w I a mk mw s) (t : TurnsIn (DSet a mk mw) w w') {B : Nat} {A : Option Addr} {l : Sl} (hf : HoldsF w B A l) (hB : B ≤ w.heap.size) : HoldsF w' B A l := by
  intro hx
  obtain ⟨b, off, e, hb, hc⟩ := hf hx
  refine ⟨b, off, e, hb, fun j p hj i u hu => ?_⟩
  have h1 := hc 0 (l[0]'hx) (List.getElem?_eq_getElem hx) 1 _ rfl
  exact (World.cell?_of_block (w := w) (a := ⟨b, _, none⟩) (t.block b (by omega) (h.not_text h1))).trans (hc j p hj i u hu)
theorem RDv.dset (h : DvAt w I a mk mw s) (t : TurnsIn (DSet a mk mw) w w') {v : Value} {m : Dv} (hr : RDv w v m) : RDv w' v m := by
  obtain ⟨Ak, ck, Aw, cw, e, h1, h2, r⟩ := hr
  exact ⟨Ak, ck, Aw, cw, e, (h1.dset h t (Nat.le_refl _)).more t.size, (h2.dset h t (Nat.le_refl _)).more t.size, r⟩
theorem Block.dset (h : DvAt w I a mk mw s) (t : TurnsIn (DSet a mk mw) w w') {g : Nat} {ty : TypeId} {cs : Array Value} (X : Block w g ty cs) (ht : ty ≠ 91) : Block w' g ty cs := X.out t (h.not_cells X ht)
/-- A block of another type turns, and the device stays. -/
theorem DvAt.beside {g : Nat} {ty : TypeId} {cs : Array Value} (h : DvAt w I a mk mw s) (X : Block w g ty cs) (ht : ty ≠ 91) (hu : ty ≠ 5) (t : TurnsIn (fun b => b = g) w w') : DvAt w' I a mk mw s := by
  have hn := h.not_cells X ht
  exact h.out t (fun e => hn (Or.inl e.symm)) (fun e => hn (Or.inr (Or.inl e.symm))) (fun e => hn (Or.inr (Or.inr e.symm))) (fun b hb _ cs' f e => by
    subst hb
    unfold Block at X
    rw [X] at e
    injection e with e
    injection e with _ e _
    exact hu e)
end

/-- A whole row stays while another block grows. -/
theorem Dev.grown {w0 w w' : World} {a mk mw : Nat} {s : Dv} (h : Dev w0 w a mk mw s) {g : Nat} {ty : TypeId} {cs : Array Value} (X : Block w g ty cs) (ht : ty ≠ 91) (hu : ty ≠ 5) (hg : w0.heap.size ≤ g) (gr : w.grownBy w' (some g)) : Dev w0 w' a mk mw s := by
  have t : TurnsIn (fun b => b = g) w w' := .ofGrown gr fun b hb => by injection hb with hb; exact hb.symm
  exact ⟨h.d.beside X ht hu t, h.b.trans (t.toBelow h.b.size (fun b hb e => by omega)), h.ga, h.gk, h.gw⟩

/-- The document's fuse is set in its box. -/
theorem fuse_row {W : World} {g : Nat} {Ak : Option Addr} {ck : Nat} {Aw : Option Addr} {cw : Nat} {m : Dv} {cs : Array Value} (h : RDv W (.agg #[.int .i64 m.size, .int .i64 m.count, .slice Ak m.kept.length ck, .slice Aw m.waits.length cw, .bool m.off, .int .i64 m.offs, .int .i64 m.fuse, .int .u64 m.wr]) m)
    (X : Block W g 31 cs) (hc : cs = dCells Ak ck Aw cw m) (n : Int) : RDv (W.setCell ⟨g, 6, none⟩ (.int .i64 n)) (.agg (dCells Ak ck Aw cw { m with fuse := n })) { m with fuse := n } := by
  have t : TurnsIn (fun b => b = g) W (W.setCell ⟨g, 6, none⟩ (.int .i64 n)) := TurnsIn.setCell (S := fun b => b = g) (p := ⟨g, 6, none⟩) (TurnsIn.refl _ W) (Or.inl rfl) _
  obtain ⟨Ak2, ck2, Aw2, cw2, e, h1, h2, r⟩ := h.turn X (by rw [hc]; exact dCells_noText _ _ _ _ _) t
  injection e with e
  unfold dCells at e
  simp at e
  obtain ⟨⟨rfl, rfl⟩, rfl, rfl⟩ := e
  exact ⟨Ak, ck, Aw, cw, rfl, h1, h2, r⟩

end Go.Proofs.YtpnodocjpedcmaaDoor.Sec
namespace Go.Proofs.YtpnodocjpedcmaaDoor.Pt
open Go.ChangeShapes Go.WideShapes Go.ChangeAt Go.RowKit Go.Proofs.YtpnodocjpedcmaaDoor.Kit Go.Proofs.YtpnodocjpedcmaaDoor.Sec

theorem pwrite_one {s : Dv} {F : Int} {T : Nat} {x : Int} {bs : List Int} {r t : Int × Dv} (h : PWrite s F T x bs r) (g : PWrite s F T x bs t) : r = t := by
  unfold PWrite at h g
  split at h
  · rw [if_pos (by assumption)] at g
    rw [h, g]
  · rw [if_neg (by assumption)] at g
    split at h
    · rw [if_pos (by assumption)] at g
      exact writes_one h g
    · rw [if_neg (by assumption)] at g
      rw [h, g]
theorem pread_one {s : Dv} {F : Int} {T : Nat} {x n : Int} {r t : List Int × Int} (h : PRead s F T x n r) (g : PRead s F T x n t) : r = t := by
  unfold PRead at h g
  split at h
  · rw [if_pos (by assumption)] at g
    exact reads_one h g
  · rw [if_neg (by assumption)] at g
    rw [h, g]
theorem manyP_le {n : Nat} (hn : 1 ≤ n) (bs : List Int) : manyP n bs ≤ bs.length := by
  unfold manyP
  rw [Nat.div_le_iff_le_mul_add_pred (by omega)]
  have : bs.length * 1 ≤ n * bs.length := by rw [Nat.mul_comm n]; exact Nat.mul_le_mul_left _ hn
  omega
/-- A step moves the counters little, and neither size nor count. -/
def Near (s t : Dv) : Prop := t.offs ≤ s.offs + 2001 ∧ t.wr ≤ s.wr + 2001 ∧ t.size = s.size ∧ t.count = s.count
theorem Near.refl (s : Dv) : Near s s := ⟨by omega, by omega, rfl, rfl⟩
theorem wrS_near2 (s : Dv) (i : Int) (bs : List Int) (k : Nat) (hk : k ≤ 2001) : Near s (wrS s i bs k) := by
  obtain ⟨h1, h2, h3, h4⟩ := wrS_near s i bs k
  exact ⟨by omega, by omega, h3, h4⟩
theorem pwrite_near {s : Dv} {F : Int} {T : Nat} {x : Int} {bs : List Int} {r : Int × Dv} (hs : 1 ≤ s.size) (hb : bs.length ≤ 2000) (h : PWrite s F T x bs r) : Near s r.2 := by
  have hm := manyP_le hs bs
  unfold PWrite at h
  split at h
  · rw [h]
    exact Near.refl s
  · split at h
    · rcases h with ⟨k, hk, _, _, rfl⟩ | ⟨_, rfl⟩
      · exact wrS_near2 s _ bs _ (by omega)
      · exact wrS_near2 s _ bs _ (by omega)
    · rw [h]
      exact Near.refl s
theorem down_near (s : Dv) : s.down.offs ≤ s.offs + 1 ∧ s.down.wr = s.wr ∧ s.down.size = s.size ∧ s.down.count = s.count := by
  unfold Dv.down
  split
  · exact ⟨by omega, rfl, rfl, rfl⟩
  · exact ⟨Int.le_refl _, rfl, rfl, rfl⟩
theorem back_near (s : Dv) (zs : List Int) : Near s (s.back zs) := by
  obtain ⟨h1, h2, h3, h4⟩ := down_near s
  rw [back_form]
  exact ⟨by show s.down.offs ≤ _; omega, by show s.down.wr ≤ _; omega, h3, h4⟩
theorem fused_near (s : Dv) (n : Int) : Near s (s.fused n) := ⟨by show s.offs ≤ _; omega, by show s.wr ≤ _; omega, rfl, rfl⟩
theorem Lies.near {s t : Dv} {F C : Int} {T : Nat} (h : Lies s F C T) (n : Near s t) : Lies t F C T :=
  ⟨h.f0, h.c1, by rw [n.2.2.2]; exact h.fc, by rw [n.2.2.1]; exact h.t⟩

theorem grown_set (w : World) (g i : Nat) (u : Value) : w.grownBy (w.setCell ⟨g, i, none⟩ u) (some g) := by
  have t : TurnsIn (fun b => b = g) w (w.setCell ⟨g, i, none⟩ u) := TurnsIn.setCell (S := fun b => b = g) (p := ⟨g, i, none⟩) (TurnsIn.refl _ w) (Or.inl rfl) u
  exact ⟨t.os, t.tape, t.output, t.size, fun j hj hne => t.block j hj (fun e => hne (by rw [e]))⟩
/-- Between steps: the program's device s, the document's m in a block of the call's own, the part and the region. -/
structure Plays7 (w0 w : World) (a mk mw p g q : Nat) (F C : Int) (s m : Dv) (cs : Array Value) : Prop where
  d : Dev w0 w a mk mw s
  p : PartAt w p a F C
  x : Block w g 31 cs
  y : Block w q 42 #[.int .i64 F, .int .i64 C]
  r : RDv w (.agg cs) m
  g : w0.heap.size ≤ g
section
variable {w0 w w' : World} {a mk mw p g q : Nat} {F C : Int} {s m s' : Dv} {cs cs' : Array Value}
theorem Plays7.below (h : Plays7 w0 w a mk mw p g q F C s m cs) (hb : Below w.heap.size w w') : Plays7 w0 w' a mk mw p g q F C s m cs :=
  ⟨h.d.below hb, h.p.below hb (Block.lt h.p), h.x.below hb h.x.lt, h.y.below hb h.y.lt, h.r.below hb, h.g⟩
theorem Plays7.turn (h : Plays7 w0 w a mk mw p g q F C s m cs) {I : Nat → Prop} (hd : DvAt w' I a mk mw s') (t : TurnsIn (DSet a mk mw) w w') : Plays7 w0 w' a mk mw p g q F C s' m cs :=
  ⟨h.d.turn hd t, Block.dset h.d.d t h.p (by decide), Block.dset h.d.d t h.x (by decide), Block.dset h.d.d t h.y (by decide), RDv.dset h.d.d t h.r, h.g⟩
theorem block_ne {w : World} {g1 g2 : Nat} {t1 t2 : TypeId} {c1 c2 : Array Value} (h1 : Block w g1 t1 c1) (h2 : Block w g2 t2 c2) (ht : t1 ≠ t2) : g1 ≠ g2 := by
  rintro rfl
  unfold Block at h1 h2
  rw [h1] at h2
  injection h2 with h2
  injection h2 with _ e _
  exact ht e
/-- The document's next device is stored into its block. -/
theorem Plays7.store (h : Plays7 w0 w a mk mw p g q F C s m cs) {m' : Dv} (hm : RDv w' (.agg cs') m') (X : Block w' g 31 cs') (gr : w.grownBy w' (some g)) : Plays7 w0 w' a mk mw p g q F C s m' cs' :=
  ⟨h.d.grown h.x (by decide) (by decide) h.g gr, h.p.grown gr (by intro e; injection e with e; exact block_ne h.x h.p (by decide) e), X, h.y.grown gr (by intro e; injection e with e; exact block_ne h.x h.y (by decide) e), hm, h.g⟩
end
end Go.Proofs.YtpnodocjpedcmaaDoor.Pt

namespace Go.Proofs.YtpnodocjpedcmaaDoor.Pt
open Go.ChangeShapes Go.WideShapes Go.ChangeAt Go.RowKit Go.Proofs.YtpnodocjpedcmaaDoor.Kit Go.Proofs.YtpnodocjpedcmaaDoor.Sec

/-- A device that is on and never falls. -/
structure On (s : Dv) : Prop where
  ok : s.Ok
  off : s.off = false
  fuse : s.fuse = -1
theorem On.new {N M : Nat} (h1 : 128 ≤ N) (h2 : N ≤ 4096) (h3 : 1 ≤ M) (h4 : M ≤ 1048576) : On (Dv.new N M) := ⟨Dv.new_ok h1 h2 h3 h4, rfl, rfl⟩
theorem on_write {s : Dv} (h : On s) {i : Int} {xs : List Int} (h0 : 0 ≤ i) (h1 : i < s.count) (hx : xs.length = s.size) :
    (s.write i xs).1 = 0 ∧ On (s.write i xs).2 ∧ (s.write i xs).2.size = s.size ∧ (s.write i xs).2.count = s.count ∧ ∀ j, (s.write i xs).2.read j = if j = i then (xs, 0) else s.read j := by
  have ht : (s.writes i xs).tick = s.writes i xs := by
    unfold Dv.tick
    rw [if_pos (show (s.writes i xs).fuse = -1 from h.fuse)]
  have e : s.write i xs = (0, { s.writes i xs with wr := s.wr + 1 }) := by
    unfold Dv.write
    rw [if_neg (by rw [h.off]; decide), if_neg (by omega), if_neg (fun e => e hx), ht]
    rw [if_neg (by rw [h.fuse]; decide)]
  have hok := write_ok h.ok i xs
  rw [e] at hok ⊢
  refine ⟨rfl, ⟨hok, h.off, h.fuse⟩, rfl, rfl, fun j => ?_⟩
  unfold Dv.read
  have o1 : ({ s.writes i xs with wr := s.wr + 1 } : Dv).off = false := h.off
  have c1 : ({ s.writes i xs with wr := s.wr + 1 } : Dv).count = s.count := rfl
  have k1 : ({ s.writes i xs with wr := s.wr + 1 } : Dv).kept = s.kept := rfl
  have z1 : ({ s.writes i xs with wr := s.wr + 1 } : Dv).size = s.size := rfl
  have w1 : ({ s.writes i xs with wr := s.wr + 1 } : Dv).waits = putS s.waits i (some xs) := rfl
  rw [o1, c1, k1, z1, w1, h.off]
  by_cases hj : j = i
  · subst hj
    rw [if_pos rfl, if_neg (by decide), if_neg (by omega), getS_putS h.ok.wu]
    simp
  · rw [if_neg hj, getS_putS h.ok.wu, if_neg hj]
theorem on_wrS {s : Dv} (h : On s) {i : Int} {bs : List Int} (h0 : 0 ≤ i) : ∀ k : Nat, i + k ≤ s.count →
    OkW s i bs k ∧ On (wrS s i bs k) ∧ (wrS s i bs k).size = s.size ∧ (wrS s i bs k).count = s.count ∧ ∀ j, (wrS s i bs k).read j = if i ≤ j ∧ j < i + k then (chunkP s.size bs (j - i).toNat, 0) else s.read j
  | 0, _ => ⟨fun j hj => absurd hj (by omega), h, rfl, rfl, fun j => by rw [if_neg (by omega)]; rfl⟩
  | k + 1, hk => by
    obtain ⟨a1, a2, a3, a4, a5⟩ := on_wrS h h0 k (by omega)
    obtain ⟨b1, b2, b3, b4, b5⟩ := on_write a2 (i := i + k) (xs := chunkP s.size bs k) (by omega) (by rw [a4]; omega) (by rw [chunkP_length, a3])
    refine ⟨fun j hj => ?_, b2, b3.trans a3, b4.trans a4, fun j => ?_⟩
    · rcases Nat.lt_or_ge j k with hl | hl
      · exact a1 j hl
      · obtain rfl : j = k := by omega
        exact b1
    · show (((wrS s i bs k).write (i + k) (chunkP s.size bs k)).2).read j = _
      rw [b5, a5]
      by_cases e : j = i + k
      · rw [if_pos e, if_pos (by omega), show (j - i).toNat = k by omega]
      · rw [if_neg e]
        by_cases e2 : i ≤ j ∧ j < i + k
        · rw [if_pos e2, if_pos (by omega)]
        · rw [if_neg e2, if_neg (by omega)]
/-- Sectors that are whole are read as they stand. -/
theorem on_reads {s : Dv} {T : Nat} {r : List Int × Int} (h : ∀ p, p < T → (secP s 0 p).2 = 0) (hr : ReadsP s 0 0 T r) : r = (rowP s 0 0 T, 0) := by
  rcases hr with ⟨k, hk, _, h2, _⟩ | ⟨_, e⟩
  · exact absurd (h _ (by omega)) h2
  · exact e
/-- What a written region reads as. -/
def wantB (N F x : Nat) (bs : List Int) (p : Nat) : Int :=
  if F * N + x ≤ p ∧ p < F * N + x + bs.length then bs.getD (p - (F * N + x)) 0 else if F * N + x ≤ p ∧ p < F * N + x + manyP N bs * N then 0 else 201

section
variable {N M : Nat}
theorem fill_read (h1 : 128 ≤ N) (h2 : N ≤ 4096) (h3 : 1 ≤ M) (h4 : M ≤ 1048576) :
    On (wrS (Dv.new N M) 0 (List.replicate (N * M) 201) M) ∧ (wrS (Dv.new N M) 0 (List.replicate (N * M) 201) M).size = N ∧ (wrS (Dv.new N M) 0 (List.replicate (N * M) 201) M).count = M ∧
      ∀ j : Nat, j < M → (wrS (Dv.new N M) 0 (List.replicate (N * M) 201) M).read j = (List.replicate N 201, 0) := by
  obtain ⟨a1, a2, a3, a4, a5⟩ := on_wrS (On.new h1 h2 h3 h4) (i := 0) (bs := List.replicate (N * M) 201) (by omega) M (by show (0 : Int) + (M : Int) ≤ (M : Int); omega)
  refine ⟨a2, a3, a4, fun j hj => ?_⟩
  rw [a5, if_pos (by omega)]
  have e : ((j : Int) - 0).toNat = j := by omega
  rw [e]
  have hs : (Dv.new N M).size = N := rfl
  rw [hs]
  unfold chunkP padB
  rw [List.drop_replicate, List.take_replicate]
  have hjn : N ≤ N * M - j * N := by
    have : (j + 1) * N ≤ M * N := Nat.mul_le_mul_right N hj
    rw [Nat.add_mul, Nat.one_mul, Nat.mul_comm M N] at this
    omega
  rw [Nat.min_eq_left hjn, List.length_replicate, Nat.sub_self]
  simp
theorem fill_many (h1 : 128 ≤ N) : manyP N (List.replicate (N * M) 201) = M := by
  unfold manyP
  rw [List.length_replicate, Nat.mul_comm N M, Nat.add_sub_assoc (by omega), Nat.add_comm, Nat.add_mul_div_right _ _ (by omega), Nat.div_eq_of_lt (by omega)]
  omega
/-- The first write fills the device. -/
theorem fill_writes (h1 : 128 ≤ N) (h2 : N ≤ 4096) (h3 : 1 ≤ M) (h4 : M ≤ 1048576) {r : Int × Dv} (h : PWrite (Dv.new N M) 0 (N * M) 0 (List.replicate (N * M) 201) r) : r = (0, wrS (Dv.new N M) 0 (List.replicate (N * M) 201) M) := by
  have hs : (Dv.new N M).size = N := rfl
  unfold PWrite at h
  rw [hs, if_neg (by simp), if_pos (by rw [List.length_replicate]; omega)] at h
  have hm := fill_many (M := M) h1
  obtain ⟨a1, -, -, -, -⟩ := on_wrS (On.new h1 h2 h3 h4) (i := 0) (bs := List.replicate (N * M) 201) (by omega) M (by show (0 : Int) + (M : Int) ≤ (M : Int); omega)
  have e : (0 : Int) + (((0 : Int).toNat / N : Nat) : Int) = 0 := by simp
  rw [e] at h
  rcases h with ⟨k, hk, _, h5, _⟩ | ⟨_, e⟩
  · rw [hs, hm] at hk
    exact absurd (a1 k hk) h5
  · rw [e, hs, hm]
end

theorem chunkP_getD (n : Nat) (bs : List Int) (k m : Nat) (hm : m < n) : (chunkP n bs k).getD m 0 = if k * n + m < bs.length then bs.getD (k * n + m) 0 else 0 := by
  unfold chunkP padB
  rw [List.getD, List.getD]
  by_cases h : k * n + m < bs.length
  · rw [if_pos h, List.getElem?_append_left (by rw [List.length_take, List.length_drop]; omega), List.getElem?_take, if_pos hm, List.getElem?_drop]
  · rw [if_neg h, List.getElem?_append_right (by rw [List.length_take, List.length_drop]; omega), List.getElem?_replicate]
    split <;> rfl
theorem many_le {n : Nat} (hn : 0 < n) {bs : List Int} {k : Nat} (h : bs.length ≤ k * n) : manyP n bs ≤ k := by
  rcases Nat.lt_or_ge k (manyP n bs) with h1 | h1
  · have := (manyP_iff hn bs k).1 h1
    omega
  · exact h1
section
variable {N M : Nat} {s : Dv}
/-- A device of which each sector can be read. -/
theorem reads_all (hz : s.size = N) (hN : 0 < N) (h : ∀ j : Nat, j < M → (s.read j).2 = 0) {q : List Int × Int} (hq : PRead s 0 (N * M) 0 ((N * M : Nat) : Int) q) : q = (rowP s 0 0 (N * M), 0) := by
  unfold PRead at hq
  rw [if_pos (by omega)] at hq
  refine on_reads (fun p hp => ?_) hq
  unfold secP
  rw [hz, Int.zero_add]
  exact h _ ((Nat.div_lt_iff_lt_mul hN).2 (by rw [Nat.mul_comm]; simpa using hp))
theorem row_getD (p T : Nat) (hp : p < T) : (rowP s 0 0 T).getD p 0 = (s.read ((p / s.size : Nat) : Int)).1.getD (p % s.size) 0 := by
  unfold rowP
  rw [List.getD, List.getElem?_map, List.getElem?_range hp]
  simp [byteP, secP]
theorem back_reads {F C x : Int} {T : Nat} {bs : List Int} (hN : 128 ≤ N) (hon : On s) (hz : s.size = N) (hc : s.count = M) (hr : ∀ j : Nat, j < M → s.read j = (List.replicate N 201, 0)) (hl : Lies s F C T)
    {r : Int × Dv} (h : PWrite s F T x bs r) {q : List Int × Int} (hq : PRead r.2 0 (N * M) 0 ((N * M : Nat) : Int) q) :
    (r.1 ≠ 0 ∧ q = (List.replicate (N * M) 201, 0)) ∨ (r.1 = 0 ∧ 0 ≤ x ∧ x + bs.length ≤ T ∧ q.2 = 0 ∧ q.1.length = N * M ∧ ∀ p, p < N * M → q.1.getD p 0 = wantB N F.toNat x.toNat bs p) := by
  have hfill : ∀ {r2 : Dv}, r2 = s → PRead r2 0 (N * M) 0 ((N * M : Nat) : Int) q → q = (List.replicate (N * M) 201, 0) := by
    rintro r2 rfl hq
    rw [reads_all hz (by omega) (fun j hj => by rw [hr j hj]) hq]
    congr 1
    apply List.ext_getElem
    · rw [rowP_length, List.length_replicate]
    · intro p h1 h2
      rw [rowP_length] at h1
      have e := row_getD (s := r2) p (N * M) h1
      rw [List.getD, List.getElem?_eq_getElem (by rw [rowP_length]; exact h1)] at e
      rw [List.getElem_replicate]
      refine (show _ = _ from e).trans ?_
      rw [hz, hr _ ((Nat.div_lt_iff_lt_mul (by omega)).2 (by rw [Nat.mul_comm]; exact h1)), List.getD, List.getElem?_replicate, if_pos (Nat.mod_lt _ (by omega))]
      rfl
  unfold PWrite at h
  rw [hz] at h
  split at h
  · rw [h] at hq ⊢
    exact Or.inl ⟨by show (1 : Int) ≠ 0; decide, hfill rfl hq⟩
  rename_i hm
  split at h
  · rename_i hin
    right
    obtain ⟨X, rfl⟩ : ∃ X : Nat, x = (X : Int) := ⟨x.toNat, by omega⟩
    obtain ⟨f, rfl⟩ : ∃ f : Nat, F = (f : Int) := ⟨F.toNat, by have := hl.f0; omega⟩
    rw [Int.toNat_natCast] at h
    rw [Int.toNat_natCast, Int.toNat_natCast]
    have hXm : X % N = 0 := by
      have h1 : ((X % N : Nat) : Int) = 0 := by rw [Int.ofNat_tmod]; exact Decidable.not_not.1 hm
      omega
    have hXN : X / N * N = X := by have := Nat.div_add_mod X N; rw [hXm, Nat.mul_comm] at this; omega
    obtain ⟨Q, hQ⟩ : ∃ Q, X / N = Q := ⟨_, rfl⟩
    rw [hQ] at hXN h
    obtain ⟨c, rfl⟩ : ∃ c : Nat, C = (c : Int) := ⟨C.toNat, by have := hl.c1; omega⟩
    have ht : c * N = T := by have := hl.t; rw [hz] at this; exact_mod_cast this
    have hfc : f + c ≤ M := by have := hl.fc; rw [hc] at this; exact_mod_cast this
    have hcx : Q ≤ c := by
      rcases Nat.lt_or_ge c Q with h1 | h1
      · have : (c + 1) * N ≤ Q * N := Nat.mul_le_mul_right N h1
        rw [Nat.add_mul, Nat.one_mul] at this
        omega
      · exact h1
    have hmany : manyP N bs ≤ c - Q := many_le (by omega) (by rw [Nat.sub_mul, hXN, ht]; omega)
    obtain ⟨a1, a2, a3, a4, a5⟩ := on_wrS hon (i := (f : Int) + (Q : Int)) (bs := bs) (by omega) (manyP N bs) (by rw [hc]; omega)
    have he : r = (0, wrS s ((f : Int) + (Q : Int)) bs (manyP N bs)) := by
      rcases h with ⟨k, hk, _, h5, _⟩ | ⟨_, e⟩
      · rw [hz] at hk
        exact absurd (a1 k hk) h5
      · rw [e, hz]
    rw [he] at hq ⊢
    have hq2 := reads_all (s := wrS s ((f : Int) + (Q : Int)) bs (manyP N bs)) (a3.trans hz) (by omega) (fun j hj => by
      rw [a5]
      split
      · rfl
      · rw [hr j hj]) hq
    rw [hq2]
    refine ⟨rfl, by omega, by omega, rfl, rowP_length _ _ _ _, fun p hp => ?_⟩
    show (rowP _ 0 0 (N * M)).getD p 0 = _
    rw [row_getD p (N * M) hp, a3.trans hz, a5, hz]
    have hpj : p / N < M := (Nat.div_lt_iff_lt_mul (by omega)).2 (by rw [Nat.mul_comm]; exact hp)
    have hdm := Nat.div_add_mod p N
    have hpm := Nat.mod_lt p (show 0 < N by omega)
    obtain ⟨I, hI⟩ : ∃ I, f + Q = I := ⟨_, rfl⟩
    have hIN : f * N + X = I * N := by rw [← hI, Nat.add_mul, hXN]
    have hiI : (f : Int) + (Q : Int) = (I : Int) := by omega
    rw [hiI]
    unfold wantB
    rw [hIN]
    obtain ⟨j, hj⟩ : ∃ j, p / N = j := ⟨_, rfl⟩
    rw [hj] at hpj hdm ⊢
    rw [Nat.mul_comm] at hdm
    by_cases hin2 : I ≤ j ∧ j < I + manyP N bs
    · rw [if_pos (by omega)]
      show (chunkP N bs ((j : Int) - (I : Int)).toNat).getD (p % N) 0 = _
      obtain ⟨k, rfl⟩ : ∃ k, j = I + k := ⟨j - I, by omega⟩
      rw [show (((I + k : Nat) : Int) - (I : Int)).toNat = k by omega, chunkP_getD N bs k _ hpm]
      have e1 : (I + k) * N = I * N + k * N := Nat.add_mul _ _ _
      rw [e1] at hdm
      have e2 : k * N + p % N = p - I * N := by omega
      have e3 : k * N + p % N < manyP N bs * N := by
        have : (k + 1) * N ≤ manyP N bs * N := Nat.mul_le_mul_right N (by omega)
        rw [Nat.add_mul, Nat.one_mul] at this
        omega
      rw [e2]
      by_cases hl2 : p - I * N < bs.length
      · rw [if_pos hl2, if_pos (by omega)]
      · rw [if_neg hl2, if_neg (by omega), if_pos (by omega)]
    · rw [if_neg (by omega), hr j hpj]
      show (List.replicate N (201 : Int)).getD (p % N) 0 = _
      rw [List.getD, List.getElem?_replicate, if_pos hpm]
      have hb : bs.length ≤ manyP N bs * N := by
        rcases Nat.lt_or_ge (manyP N bs * N) bs.length with h1 | h1
        · exact absurd ((manyP_iff (by omega) bs _).2 h1) (Nat.lt_irrefl _)
        · exact h1
      rcases Nat.lt_or_ge j I with h1 | h1
      · have : (j + 1) * N ≤ I * N := Nat.mul_le_mul_right N h1
        rw [Nat.add_mul, Nat.one_mul] at this
        rw [if_neg (by omega), if_neg (by omega)]
        rfl
      · have h2 : I + manyP N bs ≤ j := by omega
        have : (I + manyP N bs) * N ≤ j * N := Nat.mul_le_mul_right N h2
        rw [Nat.add_mul] at this
        rw [if_neg (by omega), if_neg (by omega)]
        rfl
  · rw [h] at hq ⊢
    exact Or.inl ⟨by show (5 : Int) ≠ 0; decide, hfill rfl hq⟩
end
end Go.Proofs.YtpnodocjpedcmaaDoor.Pt

namespace Go.Proofs.YtpnodocjpedcmaaDoor.Im
open Go.ChangeShapes Go.WideShapes Go.ChangeAt Go.RowKit Go.Proofs.YtpnodocjpedcmaaDoor.Kit Go.Proofs.YtpnodocjpedcmaaDoor.Sec Go.Proofs.YtpnodocjpedcmaaDoor.Pt

theorem okP_join {s : Dv} {F : Int} {a m : Nat} (h : OkP s F 0 a) (g : OkP s F a m) : OkP s F 0 (a + m) := by
  intro j hj
  rcases Nat.lt_or_ge j a with hl | hl
  · exact h j hl
  · have := g (j - a) (by omega)
    rwa [show a + (j - a) = 0 + j by omega] at this
theorem okP_none (s : Dv) (F : Int) (a : Nat) : OkP s F a 0 := fun j hj => absurd hj (by omega)
/-- A piece that can't be read tells what all of it tells. -/
theorem reads_bad {s : Dv} {F : Int} {a m n : Nat} {r : List Int × Int} (h : OkP s F 0 a) (hr : ReadsP s F a m r) (h0 : r.2 ≠ 0) (hn : a + m ≤ n) : ReadsP s F 0 n ([], r.2) := by
  rcases hr with ⟨k, hk, h1, h2, rfl⟩ | ⟨_, rfl⟩
  · refine Or.inl ⟨a + k, by omega, okP_join h h1, ?_, ?_⟩
    · rw [show 0 + (a + k) = a + k by omega]; exact h2
    · rw [show 0 + (a + k) = a + k by omega]
  · exact absurd rfl h0
/-- A piece that is read. -/
theorem reads_good {s : Dv} {F : Int} {a m : Nat} {r : List Int × Int} (h : OkP s F 0 a) (hr : ReadsP s F a m r) (h0 : r.2 = 0) : r = (rowP s F a m, 0) ∧ OkP s F 0 (a + m) ∧ rowP s F 0 (a + m) = rowP s F 0 a ++ r.1 := by
  rcases hr with ⟨k, _, _, h2, rfl⟩ | ⟨h1, rfl⟩
  · exact absurd h0 h2
  · refine ⟨rfl, okP_join h h1, ?_⟩
    have := rowP_add s F 0 a m
    rwa [Nat.zero_add] at this
theorem pread_in {s : Dv} {F : Int} {T : Nat} {a m : Nat} {r : List Int × Int} (h : PRead s F T a m r) (hT : a + m ≤ T) : ReadsP s F a m r := by
  unfold PRead at h
  rw [if_pos (by omega)] at h
  exact h
/-- What all of it tells, as an answer of bytes and an error. -/
def WholeP (s : Dv) (F : Int) (n : Nat) : List Int × Int → Prop := ReadsP s F 0 n
theorem whole_done {s : Dv} {F : Int} {n : Nat} (h : OkP s F 0 n) : ReadsP s F 0 n (rowP s F 0 n, 0) := Or.inr ⟨h, rfl⟩
end Go.Proofs.YtpnodocjpedcmaaDoor.Im

namespace Go.Proofs.YtpnodocjpedcmaaDoor.Im
open Go.ChangeShapes Go.WideShapes Go.ChangeAt Go.RowKit Go.Proofs.YtpnodocjpedcmaaDoor.Kit

structure Step25 where
  k : Int
  blk : Int
  at_ : Int
  n : Int
  view : Int
  slot : Int
  A : Option Addr
  cap : Nat
  bs : List Int
  A2 : Option Addr
  cap2 : Nat
  zs : List Int
structure Step25.Ok (m : Step25) : Prop where
  k : -9223372036854775808 ≤ m.k ∧ m.k ≤ 9223372036854775807
  blk : -9223372036854775808 ≤ m.blk ∧ m.blk ≤ 9223372036854775807
  at_ : -9223372036854775808 ≤ m.at_ ∧ m.at_ ≤ 9223372036854775807
  n : -9223372036854775808 ≤ m.n ∧ m.n ≤ 9223372036854775807
  view : -9223372036854775808 ≤ m.view ∧ m.view ≤ 9223372036854775807
  slot : 0 ≤ m.slot ∧ m.slot ≤ 255
  b1 : m.bs.length ≤ m.cap
  b2 : m.cap ≤ maxLen
  bo : Octets m.bs
  z1 : m.zs.length ≤ m.cap2
  z2 : m.cap2 ≤ maxLen
  zo : Octets m.zs
def Step25.cells (m : Step25) : List Value := [.int .i64 m.k, .int .i64 m.blk, .int .i64 m.at_, .int .i64 m.n, .int .i64 m.view, .int .u8 m.slot, .slice m.A m.bs.length m.cap, .slice m.A2 m.zs.length m.cap2]
def Step25.In (m : Step25) (w : World) (B : Nat) : Prop := Holds w B .u8 m.A m.bs ∧ Holds w B .u8 m.A2 m.zs
def stepDs : List Fld := [.i .i64, .i .i64, .i .i64, .i .i64, .i .i64, .i .u8, .s .u8, .s .u8]
theorem step_of {w : World} {B : Nat} {vs : List FVal} (h : allOk w B stepDs vs) : ∃ m : Step25, m.Ok ∧ m.In w B ∧ allCells stepDs vs = m.cells := by
  match vs, h with
  | [.i k, .i b, .i a, .i n, .i v, .i s, .s A c bs, .s A2 c2 zs], ⟨h0, h1, h2, h3, h4, h5, h6, h7, _⟩ =>
    exact ⟨⟨k, b, a, n, v, s, A, c, bs, A2, c2, zs⟩, ⟨bounds_i64 h0, bounds_i64 h1, bounds_i64 h2, bounds_i64 h3, bounds_i64 h4, bounds_u8 h5, h6.1, h6.2.1, fun z hz => bounds_u8 (h6.2.2.1 z hz), h7.1, h7.2.1, fun z hz => bounds_u8 (h7.2.2.1 z hz)⟩, ⟨h6.2.2.2, h7.2.2.2⟩, rfl⟩
end Go.Proofs.YtpnodocjpedcmaaDoor.Im

namespace Go.Proofs.YtpnodocjpedcmaaDoor.Im
open Go.ChangeShapes Go.WideShapes Go.ChangeAt Go.RowKit Go.Proofs.YtpnodocjpedcmaaDoor.Kit

/-- How a step lies in memory. -/
def StepIn (w : World) (B : Nat) (m : Step25) (cs : List Value) : Prop := m.Ok ∧ m.In w B ∧ cs = m.cells
def HoldsQ (w : World) (B : Nat) (A : Option Addr) (ss : List Step25) : Prop := HoldsE (StepIn w B) 8 w B A ss
/-- A slice of steps that came in. -/
theorem open_steps25 {H : Type} {enc : TypeId × Value → H} {P : Program} {w : World} {b0 : Nat} {t e : TypeId} {fs : Array Field} (ht : P.underlying t = some (.slice e)) (he : P.underlying e = some (.struct fs)) (hs : shapeB P fs.toList 0 stepDs = true) (hc : P.cellsOf e = 8)
    {v : Value} {d : DataW H} {ps : List MemPlace} (hval : Value.okWide P w .any b0 t v) (h : DataW.Trod enc P w 0 (fun _ => true) true t v d ps) (hlt : ∀ x ∈ ps, x.block < w.heap.size) :
    ∃ (A : Option Addr) (cap : Nat) (ss : List Step25), v = .slice A ss.length cap ∧ ss.length ≤ cap ∧ cap ≤ maxLen ∧ HoldsQ w w.heap.size A ss :=
  open_slice_of (StepIn w w.heap.size) 8 ht hc (by omega) (fun _ _ _ h hp => by
    obtain ⟨vs, h1, h2⟩ := read_shape he hs hc h hp
    obtain ⟨m, h3, h5, h4⟩ := step_of h1
    exact ⟨m, h3, h5, h2.trans h4⟩) hval h hlt
theorem Step25.In.below {m : Step25} {w w' : World} {B : Nat} (h : m.In w B) (hb : Below B w w') : m.In w' B := ⟨h.1.below hb, h.2.below hb⟩
theorem HoldsQ.below {w w' : World} {B : Nat} {A : Option Addr} {ss : List Step25} (h : HoldsQ w B A ss) (hb : Below B w w') : HoldsQ w' B A ss :=
  h.keep (fun _ hp => hb.cell hp) fun _ _ ⟨r0, r1, r2⟩ => ⟨r0, r1.below hb, r2⟩
/-- The steps at A, element by element. -/
theorem stepAt25 {w : World} {B : Nat} {A : Option Addr} {ss : List Step25} (h : HoldsQ w B A ss) {i : Nat} (hi : i < ss.length) :
    ∃ b off : Nat, A = some ⟨b, off, none⟩ ∧ b < B ∧ w.rangeAt b (off + i * 8) ss[i].cells ∧ ss[i].Ok ∧ ss[i].In w B := by
  obtain ⟨b, off, rfl, hb, hc⟩ := h (by omega)
  obtain ⟨cs, ⟨r1, r2, rfl⟩, _, hcs⟩ := hc i ss[i] (List.getElem?_eq_getElem hi)
  exact ⟨b, off, rfl, hb, fun j c hj => hcs j c hj, r1, r2⟩

def stepGreat (s : Step25) : Bool := decide (1000 < s.bs.length) || decide (60 < s.zs.length)
def greatB (ss : List Step25) : Bool := decide (40 < ss.length) || ss.any stepGreat
theorem great_no {ss : List Step25} (h : greatB ss = false) : ss.length ≤ 40 ∧ ∀ s ∈ ss, s.bs.length ≤ 1000 ∧ s.zs.length ≤ 60 := by
  unfold greatB at h
  rw [Bool.or_eq_false_iff] at h
  refine ⟨by have := of_decide_eq_false h.1; omega, fun s hs => ?_⟩
  have h2 := (List.any_eq_false.1 h.2 s hs |> Bool.eq_false_iff.2)
  unfold stepGreat at h2
  rw [Bool.or_eq_false_iff] at h2
  have h3 := of_decide_eq_false h2.1
  have h4 := of_decide_eq_false h2.2
  omega

set_option maxRecDepth 100000 in
set_option maxHeartbeats 1600000 in
theorem great_any (A : Option Addr) (ss : List Step25) (c : Nat) (B : Nat) (w : World) (hr : HoldsQ w B A ss) :
    Calls Tryd.prog 25 #[.slice A ss.length c] w fun e w' => e = .returned (.bool (greatB ss)) ∧ w' = w := by
  by_cases h40 : (40 : Int) < ss.length
  · have hg : greatB ss = true := by unfold greatB; rw [decide_eq_true (by omega)]; rfl
    rw [hg]
    have hd : decide ((40 : Int) < (ss.length : Int)) = true := decide_eq_true h40
    go_enter Tryd.func25, Tryd.ntmps25
    go_wp2_with fail
    go_ret
    exact ⟨rfl, rfl⟩
  · have hd : decide ((40 : Int) < (ss.length : Int)) = false := decide_eq_false h40
    go_enter Tryd.func25, Tryd.ntmps25
    go_wp2_with fail
    go_loopw [3] (fun s wr => ∃ i : Nat, i ≤ ss.length ∧ s = .int .i64 i ∧ (ss.take i).any stepGreat = false ∧ wr = w) (fun s _ => ss.length - (intOf s).toNat)
    case atStart => exact ⟨0, Nat.zero_le _, rfl, by simp, rfl⟩
    case round =>
      obtain ⟨i, hi, rfl, hpre, rfl⟩ := hrel
      by_cases hlt : i < ss.length
      · obtain ⟨b, off, rfl, hbl, hra, -, -⟩ := stepAt25 hr hlt
        have c6 : wr.cell? ⟨b, off + i * 8 + 6, none⟩ = some (.slice ss[i].A ss[i].bs.length ss[i].cap) := hra 6 _ rfl
        have c7 : wr.cell? ⟨b, off + i * 8 + 7, none⟩ = some (.slice ss[i].A2 ss[i].zs.length ss[i].cap2) := hra 7 _ rfl
        have hnext : ss.take (i + 1) = ss.take i ++ [ss[i]] := (List.take_append_getElem hlt).symm
        have hmem := List.getElem_mem hlt
        have d0 : decide ((i : Int) < (ss.length : Int)) = true := decide_eq_true (by omega)
        generalize ss[i] = s at *
        clear hra
        by_cases hz : stepGreat s = true
        · have hg : greatB ss = true := by
            unfold greatB
            rw [show ss.any stepGreat = true from List.any_eq_true.2 ⟨s, hmem, hz⟩, Bool.or_true]
          have hd9 : decide ((1000 : Int) < (s.bs.length : Int)) = true ∨ (decide ((1000 : Int) < (s.bs.length : Int)) = false ∧ decide ((60 : Int) < (s.zs.length : Int)) = true) := by
            unfold stepGreat at hz
            rw [Bool.or_eq_true] at hz
            simp only [decide_eq_true_eq, decide_eq_false_iff_not] at hz ⊢
            omega
          have HG := Lib.hid hg
          clear hg hnext hmem hpre hz
          rcases hd9 with e1 | ⟨e1, e2⟩
          all_goals
            go_wp2_with fail
            go_ret
            exact ⟨by rw [HG.out] <;> rfl, rfl⟩
        · have hz : stepGreat s = false := by simpa using hz
          have hz2 := hz
          unfold stepGreat at hz2
          rw [Bool.or_eq_false_iff] at hz2
          have h1 := of_decide_eq_false hz2.1
          have h2 := of_decide_eq_false hz2.2
          have e1 : decide ((1000 : Int) < (s.bs.length : Int)) = false := decide_eq_false (by omega)
          have e2 : decide ((60 : Int) < (s.zs.length : Int)) = false := decide_eq_false (by omega)
          have hpre2 : (ss.take (i + 1)).any stepGreat = false := by
            rw [hnext, List.any_append, hpre, List.any_cons, List.any_nil, hz]
            rfl
          have HP := Lib.hid hpre2
          clear hpre2 hnext hmem hpre hz hz2 h1 h2
          go_wp2_with fail
          go_roundw
          case rel => exact ⟨i + 1, by omega, by go_num, HP.out, by first | rfl | trivial⟩
          case measure => simp [intOf]; omega
      · have d0 : decide ((i : Int) < (ss.length : Int)) = false := decide_eq_false (by omega)
        obtain rfl : i = ss.length := by omega
        rw [List.take_length] at hpre
        have hg : greatB ss = false := by
          unfold greatB
          rw [hpre, decide_eq_false (by omega)]
          rfl
        have HG := Lib.hid hg
        clear hg hpre
        go_wp2_with fail
        go_ret
        exact ⟨by rw [HG.out] <;> rfl, rfl⟩
end Go.Proofs.YtpnodocjpedcmaaDoor.Im

namespace Go.Proofs.YtpnodocjpedcmaaDoor.Im
open Go.ChangeShapes Go.WideShapes Go.ChangeAt Go.RowKit Go.Proofs.YtpnodocjpedcmaaDoor.Kit Go.Proofs.YtpnodocjpedcmaaDoor.Sec Go.Proofs.YtpnodocjpedcmaaDoor.Pt

/-- A device that stays on, whose sectors are all whole. -/
structure AllOn (s : Dv) (N M : Nat) : Prop where
  on : On s
  z : s.size = N
  c : s.count = M
  r : ∀ j : Int, 0 ≤ j → j < M → (s.read j).2 = 0
theorem AllOn.new {N M : Nat} (h1 : 128 ≤ N) (h2 : N ≤ 4096) (h3 : 1 ≤ M) (h4 : M ≤ 1048576) : AllOn (Dv.new N M) N M := by
  refine ⟨On.new h1 h2 h3 h4, rfl, rfl, fun j h0 hj => ?_⟩
  unfold Dv.read
  have e1 : (Dv.new N M).off = false := rfl
  have e2 : (Dv.new N M).count = M := rfl
  have e3 : (Dv.new N M).waits = [] := rfl
  have e4 : (Dv.new N M).kept = [] := rfl
  rw [e1, e2, e3, e4, if_neg (by decide), if_neg (by omega)]
  rfl
theorem AllOn.write {s : Dv} {N M : Nat} (h : AllOn s N M) {j : Nat} {bs : List Int} (hj : j + manyP N bs ≤ M) {r : Int × Dv} (hr : WritesP s j bs r) :
    r.1 = 0 ∧ AllOn r.2 N M ∧ ∀ t : Int, r.2.read t = if (j : Int) ≤ t ∧ t < j + manyP N bs then (chunkP N bs (t - j).toNat, 0) else s.read t := by
  have hz := h.z
  have hc := h.c
  obtain ⟨a1, a2, a3, a4, a5⟩ := on_wrS h.on (i := (j : Int)) (bs := bs) (by omega) (manyP N bs) (by rw [hc]; omega)
  have hres : r = (0, wrS s j bs (manyP N bs)) := by
    rcases hr with ⟨k, hk, _, h2, _⟩ | ⟨_, e⟩
    · rw [hz] at hk
      exact absurd (a1 k hk) h2
    · rw [hz] at e
      exact e
  subst hres
  have hread : ∀ t : Int, (wrS s j bs (manyP N bs)).read t = if (j : Int) ≤ t ∧ t < j + manyP N bs then (chunkP N bs (t - j).toNat, 0) else s.read t := fun t => by
    rw [a5 t, hz]
  refine ⟨rfl, ⟨a2, a3.trans hz, a4.trans hc, fun t h0 ht => ?_⟩, hread⟩
  show ((wrS s j bs (manyP N bs)).read t).2 = 0
  rw [hread t]
  split
  · rfl
  · exact h.r t h0 ht
theorem AllOn.reads {s : Dv} {N M F C a n : Nat} (h : AllOn s N M) (hN : 0 < N) (hF : F + C ≤ M) (ha : a + n ≤ C * N) {r : List Int × Int} (hr : ReadsP s F a n r) : r = (rowP s F a n, 0) := by
  rcases hr with ⟨k, hk, _, h2, _⟩ | ⟨_, e⟩
  · refine absurd ?_ h2
    unfold secP
    rw [h.z]
    have hd : (a + k) / N < C := Nat.div_lt_of_lt_mul (by rw [Nat.mul_comm]; omega)
    generalize (a + k) / N = d at *
    exact h.r _ (by omega) (by omega)
  · exact e
theorem row_same {s s' : Dv} {N F C a n : Nat} (hz : s.size = N) (hz' : s'.size = N) (_ : 0 < N) (ha : a + n ≤ C * N) (h : ∀ t : Int, (F : Int) ≤ t → t < F + C → s.read t = s'.read t) : rowP s F a n = rowP s' F a n := by
  unfold rowP
  refine List.map_congr_left fun j hj => ?_
  have hj := List.mem_range.1 hj
  unfold byteP secP
  rw [hz, hz']
  have hd : (a + j) / N < C := Nat.div_lt_of_lt_mul (by rw [Nat.mul_comm]; omega)
  have key := h ((F : Int) + ((a + j) / N : Nat)) (by generalize (a + j) / N = d at *; omega) (by generalize (a + j) / N = d at *; omega)
  rw [key]
theorem row_is {s : Dv} {N F a : Nat} {bs : List Int} (hz : s.size = N) (h : ∀ j, j < bs.length → s.read ((F : Int) + ((a + j) / N : Nat)) = (chunkP N bs (j / N), 0) ∧ (a + j) % N = j % N) (hN : 0 < N) : rowP s F a bs.length = bs := by
  apply List.ext_getElem
  · rw [rowP_length]
  · intro j h1 h2
    have e : (rowP s F a bs.length)[j]'h1 = byteP s F (a + j) := by simp [rowP]
    rw [e]
    unfold byteP secP
    obtain ⟨q1, q2⟩ := h j h2
    rw [hz, q1, q2]
    show (chunkP N bs (j / N)).getD (j % N) 0 = bs[j]
    rw [chunkP_getD N bs (j / N) (j % N) (Nat.mod_lt _ hN)]
    have hd : j / N * N + j % N = j := by rw [Nat.mul_comm]; exact Nat.div_add_mod j N
    rw [hd, if_pos h2, List.getD, List.getElem?_eq_getElem h2]
    rfl
/-- Where a block's bytes stand. -/
theorem block_at {N q k j : Nat} (hN : 0 < N) : (k * (q * N) + j) / N = k * q + j / N ∧ (k * (q * N) + j) % N = j % N := by
  have e : k * (q * N) + j = j + (k * q) * N := by rw [Nat.mul_assoc]; omega
  rw [e]
  exact ⟨by rw [Nat.add_mul_div_right _ _ hN]; omega, Nat.add_mul_mod_self_right _ _ _⟩

/-- What is put is seen in its slot alone, and what is kept aside is aside alone. -/
theorem apart {N M q sl k F F' : Nat} {bs cs : List Int} {s0 : Dv} (h : AllOn s0 N M) (hN : 0 < N) (hq : 1 ≤ q) (hk : k < sl) (hM : 2 + q + sl * q + sl * q ≤ M)
    (hF : (F = 2 + q ∧ F' = 2 + q + sl * q) ∨ (F = 2 + q + sl * q ∧ F' = 2 + q)) (hb : bs.length ≤ q * N) (ha : cs.length ≤ q * N)
    {r1 r2 : Int × Dv} (h1 : PWrite s0 F (sl * q * N) ((k * (q * N) : Nat) : Int) bs r1) (h2 : PWrite r1.2 2 (q * N) 0 cs r2) :
    (∀ r r', ReadsP s0 F' 0 (sl * q * N) r → ReadsP r2.2 F' 0 (sl * q * N) r' → r = r' ∧ r.2 = 0) ∧
    (∀ r, PRead r2.2 F (sl * q * N) ((k * (q * N) : Nat) : Int) bs.length r → r = (bs, 0)) ∧ (∀ r, PRead r2.2 2 (q * N) 0 cs.length r → r = (cs, 0)) := by
  have hkq : k * (q * N) + q * N ≤ sl * q * N := by
    have : (k + 1) * (q * N) ≤ sl * (q * N) := Nat.mul_le_mul_right _ hk
    rw [Nat.mul_assoc]
    rw [Nat.add_mul, Nat.one_mul] at this
    exact this
  have hkq2 : k * q + q ≤ sl * q := by
    have : (k + 1) * q ≤ sl * q := Nat.mul_le_mul_right _ hk
    rwa [Nat.add_mul, Nat.one_mul] at this
  have hmb : manyP N bs ≤ q := many_le hN hb
  have hma : manyP N cs ≤ q := many_le hN ha
  unfold PWrite at h1
  rw [h.z] at h1
  have htm : (((k * (q * N) : Nat) : Int)).tmod (N : Int) = 0 := by
    rw [← Nat.mul_assoc]
    show Int.tmod ((k * q * N : Nat) : Int) (N : Int) = 0
    rw [Int.natCast_mul]
    exact Int.mul_tmod_left _ _
  rw [if_neg (by rw [htm]; decide), if_pos (by omega)] at h1
  have hst : (((k * (q * N) : Nat) : Int)).toNat / N = k * q := by
    rw [Int.toNat_natCast]
    have := (block_at (q := q) (k := k) (j := 0) hN).1
    simpa using this
  rw [hst] at h1
  have h1' : WritesP s0 ((F + k * q : Nat) : Int) bs r1 := by rw [Int.natCast_add]; exact h1
  obtain ⟨e1, on1, rd1⟩ := h.write (j := F + k * q) (by omega) h1'
  unfold PWrite at h2
  rw [on1.z, if_neg (by rw [Int.zero_tmod]; decide), if_pos (by omega)] at h2
  have hst0 : (0 : Int).toNat / N = 0 := Nat.zero_div _
  rw [hst0] at h2
  have h2' : WritesP r1.2 ((2 : Nat) : Int) cs r2 := by simpa using h2
  obtain ⟨e2, on2, rd2⟩ := on1.write (j := 2) (by omega) h2'
  refine ⟨fun r r' hr hr' => ?_, fun r hr => ?_, fun r hr => ?_⟩
  · have g1 := h.reads (C := sl * q) hN (by omega) (by omega) hr
    have g2 := on2.reads (C := sl * q) hN (by omega) (by omega) hr'
    have g3 : rowP s0 F' 0 (sl * q * N) = rowP r2.2 F' 0 (sl * q * N) := row_same (C := sl * q) h.z on2.z hN (by omega) fun t h0 ht => by
      rw [rd2 t, if_neg (by omega), rd1 t, if_neg (by omega)]
    rw [g1, g2, g3]
    exact ⟨rfl, rfl⟩
  · have g0 := pread_in (a := k * (q * N)) (m := bs.length) hr (by omega)
    have g1 := on2.reads (C := sl * q) hN (by omega) (by omega) g0
    rw [g1, row_is on2.z (fun j hj => ?_) hN]
    obtain ⟨b1, b2⟩ := block_at (q := q) (k := k) (j := j) hN
    refine ⟨?_, b2⟩
    have hjm : j / N < manyP N bs := by
      rw [manyP_iff hN]
      exact Nat.lt_of_le_of_lt (Nat.div_mul_le_self j N) hj
    rw [b1]
    clear b1 b2 hst h1 hkq
    generalize j / N = d at *
    generalize k * q = e at *
    generalize sl * q = f at *
    rw [rd2, if_neg (by omega), rd1, if_pos (by omega)]
    have : ((F : Int) + ((e + d : Nat) : Int) - ((F + e : Nat) : Int)).toNat = d := by omega
    rw [this]
  · have g0 := pread_in (F := 2) (a := 0) (m := cs.length) (by simpa using hr) (by omega)
    have g0' : ReadsP r2.2 ((2 : Nat) : Int) 0 cs.length r := by simpa using g0
    have g1 := on2.reads (C := q) hN (by omega) (by omega) g0'
    rw [g1, row_is on2.z (fun j hj => ?_) hN]
    have hjm : j / N < manyP N cs := by
      rw [manyP_iff hN]
      exact Nat.lt_of_le_of_lt (Nat.div_mul_le_self j N) hj
    refine ⟨?_, by rw [Nat.zero_add]⟩
    rw [Nat.zero_add]
    generalize j / N = d at *
    rw [rd2, if_pos (by omega)]
    have : (((2 : Nat) : Int) + ((d : Nat) : Int) - ((2 : Nat) : Int)).toNat = d := by omega
    rw [this]
end Go.Proofs.YtpnodocjpedcmaaDoor.Im
