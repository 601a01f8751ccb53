/-
  Layer 7, the document's Write: contract. Conditions: as each theorem names.
  Layer 7, the document's Read: contract. Conditions: as each theorem names.
  Layer 7, part: the law's steps: how they come in; the law's great: contract. Conditions: as each theorem names.
  Layer 7, part: the law's great: contract. Conditions: as each theorem names.
  Layer 7, part: what stands between the law's steps: both devices, the part, the region. Conditions: as each theorem names.
  Layer 7, part: a device that stays on: what is written is read, plain. Conditions: as each theorem names.
  Layer 25, image: bytes read piece by piece are those that are read at once; plain. Conditions: as each theorem names.
  Layer 24, journal: the closure that reads on, the document's get and May: contracts. Conditions: as each theorem names.
  Layer 24, journal: the example; nil journals: contracts. Conditions: as each theorem names.
  Layer 24, journal: where Get stands while it reads on. Conditions: as each theorem names.
  Layer 24, journal: a record's sum, byte by byte. No program's walk. Conditions: as each theorem names.
  Layer 24, journal: any record is itself. Conditions: as each theorem names.
  Layer 25, image: on a device that stays on; plain. Conditions: as each theorem names.
-/
import Derived.Test.YtpnodocjpedcmaaDoorMGIays6
import Derived.Test.YtpnodocjpedcmaaDoorMSfG
import Derived.Test.YtpnodocjpedcmaaDoorMGIays0
import Derived.Deep.RegionHeld
import Derived.OpenShut
import Derived.Test.YtpnodocjpedcmaaDoorMJrC
namespace Go.Proofs.YtpnodocjpedcmaaDoor.Pt
open Go.ChangeShapes Go.WideShapes Go.ChangeAt Go.RowKit Go.Proofs.YtpnodocjpedcmaaDoor.Kit Go.Proofs.YtpnodocjpedcmaaDoor.Sec

theorem write_ok {s : Dv} (h : s.Ok) (i : Int) (xs : List Int) : (s.write i xs).2.Ok := by
  unfold Dv.write
  split
  · exact h
  split
  · exact h
  split
  · exact h
  rename_i hr _
  have ht := (h.writes (xs := xs) (by omega : 0 ≤ i) (by omega)).tick
  split
  · exact ht
  · exact ⟨ht.s1, ht.s2, ht.c1, ht.c2, ht.ku, ht.wu, ht.kr, ht.wr_, ht.wn, ht.f1, ht.f2, ht.o1, by have := h.w1; show 0 ≤ s.wr + 1; omega⟩
theorem wrS_ok {s : Dv} (h : s.Ok) (i : Int) (bs : List Int) : ∀ k, (wrS s i bs k).Ok
  | 0 => h
  | k + 1 => write_ok (wrS_ok h i bs k) _ _
theorem back_ok {s : Dv} (h : s.Ok) (picks : List Int) : (s.back picks).Ok := by
  have hd := h.down
  obtain ⟨h1, h2⟩ := backK_ok hd picks s.down.waits.length (Nat.le_refl _)
  rw [back_form]
  exact ⟨hd.s1, hd.s2, hd.c1, hd.c2, h1, up_nil, h2, fun _ h => (List.not_mem_nil h).elim, fun _ h => (List.not_mem_nil h).elim, Int.le_refl _, by show (-1 : Int) ≤ _; omega, hd.o1, hd.w1⟩
theorem below_three (w : World) (o p q : Obj) : Below w.heap.size w (((w.alloc o).alloc p).alloc q) := (below_two w o p).alloc (by simp; omega) q
theorem block_three (w : World) (o p : Obj) (t : TypeId) (cs : Array Value) : Block (((w.alloc o).alloc p).alloc (.cells cs t)) (w.heap.size + 1 + 1) t cs := by
  have := Block.new ((w.alloc o).alloc p) t cs
  rwa [show ((w.alloc o).alloc p).heap.size = w.heap.size + 1 + 1 by simp] at this

/-- Behind k writes of the document's. -/
structure DGoing (w wr : World) (g : Nat) (F C i : Int) (s : Dv) (bs : List Int) (k : Nat) (cs : Array Value) : Prop where
  x : Block wr g 31 cs
  r : Block wr (g + 1) 42 #[.int .i64 F, .int .i64 C]
  z : Block wr (g + 1 + 1) 31 zD
  v : RDv wr (.agg cs) (wrS s i bs k)
  b : Below w.heap.size w wr
  ok : OkW s i bs k
  g : w.heap.size ≤ g
theorem DGoing.below {w wr w' : World} {g : Nat} {F C i : Int} {s : Dv} {bs : List Int} {k : Nat} {cs : Array Value} (h : DGoing w wr g F C i s bs k cs) (hb : Below wr.heap.size wr w') : DGoing w w' g F C i s bs k cs :=
  ⟨h.x.below hb h.x.lt, h.r.below hb h.r.lt, h.z.below hb h.z.lt, h.v.below hb, h.b.trans (hb.mono h.b.size), h.ok, h.g⟩
/-- Behind a write: the next device lies in a block beside. -/
def Mid7 (w wx : World) (g : Nat) (F C : Int) (s : Dv) (v : Value) : Prop :=
  ∃ (g2 : Nat) (cs cs2 : Array Value), v = .pointer (some ⟨g2, 0, none⟩) ∧ (cs.size = 8 ∧ NoText cs) ∧ Block wx g 31 cs ∧ Block wx (g + 1) 42 #[.int .i64 F, .int .i64 C] ∧ Block wx (g + 1 + 1) 31 zD ∧ Block wx g2 31 cs2 ∧ RDv wx (.agg cs2) s ∧ Below w.heap.size w wx ∧ g + 1 + 1 < g2
theorem step_store_blk {P : Program} {ops : Array Oper} {o : Oper} {a : Act} {w : World} {K : Act → World → Prop} {Q : Exit → Act → World → Prop} {E : Prop} (hgd : o.guard = none) (ty : TypeId) (x y : Operand) (ho : o.op = .store ty x y)
    {g : Nat} {t : TypeId} {cs : Array Value} {ds : List Value} (h : Block w g t cs) (hx : a.eval x = .pointer (some ⟨g, 0, none⟩)) (hy : a.eval y = .agg ds.toArray) (hl : ds.length = cs.size) (hi : (P.info? ty).map (·.size) = some ds.length) (hone : ∀ u ∈ ds, u.oneCell' = true)
    (hK : ∀ w', Block w' g t ds.toArray → w.grownBy w' (some g) → K (a.put o.dst undef) w') : if Region.wanted o (yielded ops a.tmps) = true then Oper.wp P o a w K Q else E :=
  step_of_list (by simp [Region.wanted, hgd]) fun Q' hn => wpList_store_blk hgd ty x y ho h hx hy hl hi hone fun w' h1 h2 => hn _ _ (hK w' h1 h2)

set_option maxRecDepth 100000 in
set_option maxHeartbeats 6400000 in
theorem rpwrite_yes (v : Value) (s : Dv) (F C : Int) (T b : Nat) (bs : List Int) (w : World) (h : RDv w v s) (hok : s.Ok) (hl : Lies s F C T) (hbl : bs.length ≤ 1000000) (hof : s.offs ≤ 100000000) (hwr : s.wr ≤ 100000000)
    (hm : b % s.size = 0) (hin : b ≤ T ∧ bs.length ≤ T - b) :
    Calls Tryd.prog 85 #[v, .agg #[.int .i64 F, .int .i64 C], .int .i64 (b : Int), .string (strOfNums bs)] w fun e w' => ∃ r, WritesP s (F + (b / s.size : Nat)) bs r ∧ GivesED r.1 r.2 w e w' := by
  have hT := hl.most hok
  have hs1 := hok.s1
  have hs2 := hok.s2
  have hc1 := hl.c1
  have hf0 := hl.f0
  have hfc := hl.fc
  have hct := hok.c2
  have hCS := hl.t
  have HSz := Lib.hid (strOfNums_size bs)
  have hrem : (b : Int).tmod (s.size : Int) = 0 := by rw [← Int.ofNat_tmod, hm]; rfl
  obtain ⟨i0, hi0⟩ : ∃ i0, F + ((b / s.size : Nat) : Int) = i0 := ⟨_, rfl⟩
  rw [hi0]
  have HNear := Lib.hid (fun k => wrS_near s i0 bs k)
  have HOkW := Lib.hid (fun k => wrS_ok hok i0 bs k)
  have HCut := Lib.hid (fun k => chunk_cut bs s.size k)
  have HFill := Lib.hid (fun k => chunk_fill bs s.size k)
  have HMany := Lib.hid (manyP_iff (n := s.size) (by omega) bs)
  have HV := Lib.hid h
  obtain ⟨Ak, ck, Aw, cw, rfl, hr0⟩ := h
  have G0 : Hid (DGoing w (((w.alloc (.cells (dCells Ak ck Aw cw s) 31)).alloc (.cells #[.int .i64 F, .int .i64 C] 42)).alloc (.cells zD 31)) w.heap.size F C i0 s bs 0 (dCells Ak ck Aw cw s)) := Lib.hid
    ⟨((Block.new w _ _).alloc _).alloc _, (block_two w _ _ _).alloc _, block_three w _ _ _ _, RDv.below ⟨Ak, ck, Aw, cw, rfl, hr0⟩ (below_three w _ _ _), below_three w _ _ _, fun j hj => absurd hj (by omega), Nat.le_refl _⟩
  obtain ⟨z, hz⟩ : ∃ z, s.size = z := ⟨_, rfl⟩
  have HZ := Lib.hid hz
  rw [hz] at hs1 hs2 hCS hrem HCut HFill HMany HNear
  obtain ⟨S, hS⟩ : ∃ S, strOfNums bs = S := ⟨_, rfl⟩
  rw [hS] at HCut HSz ⊢
  obtain ⟨L, hL⟩ : ∃ L, bs.length = L := ⟨_, rfl⟩
  rw [hL] at HCut HSz hin hbl HMany
  have hsz : S.size = L := HSz.out
  have HI0 := Lib.hid hi0
  have HL := Lib.hid hL
  have d1 : decide ((b : Int) < 0) = false := decide_eq_false (by omega)
  have d2 : decide (T < b) = false := decide_eq_false (by omega)
  have d3 : decide ((T : Int) - (b : Int) < (L : Int)) = false := decide_eq_false (by omega)
  have HOK := Lib.hid hok
  have hzz : ¬ z = 0 := by omega
  unfold zD at G0
  unfold dCells at G0 ⊢
  rw [hz] at G0 ⊢
  clear hr0 hS hL hi0 hl hok HV hm
  go_enter Tryd.func85, Tryd.ntmps85
  go_wp2_with fail
  generalize hW3 : ((w.alloc _).alloc _).alloc _ = w3 at *
  have hg0 : w.heap.size ≤ w.heap.size := Nat.le_refl _
  generalize hg : w.heap.size = g at hg0 G0 ⊢
  have HG := Lib.hid hg
  clear hW3 hg d1 d2 d3 hrem
  go_loopw [11] (fun q wr => ∃ (k : Nat) (cs : Array Value), k ≤ manyP z bs ∧ q = .int .i64 k ∧ DGoing w wr g F C i0 s bs k cs) (fun q _ => manyP z bs - (intOf q).toNat)
  case atStart => exact ⟨0, _, Nat.zero_le _, rfl, G0.out⟩
  case round =>
    clear G0
    obtain ⟨k, cs, hk, rfl, G⟩ := hrel
    obtain ⟨Ak, ck, Aw, cw, hce, hrv⟩ := G.v
    injection hce with hce
    subst hce
    obtain ⟨K, hK⟩ : ∃ K : Nat, k * z = K := ⟨_, rfl⟩
    have hKz : (k : Int) * (z : Int) = (K : Int) := by rw [← hK, Int.natCast_mul]
    have hKz1 : ((k : Int) + 1) * (z : Int) = (K : Int) + (z : Int) := by rw [Int.add_mul, hKz, Int.one_mul]
    have hKb : K ≤ 1004096 := by
      have h1 : k * z ≤ manyP z bs * z := Nat.mul_le_mul_right z hk
      have h2 : manyP z bs * z ≤ bs.length + z - 1 := Nat.div_mul_le_self _ _
      rw [hK] at h1
      rw [HL.out] at h2
      omega
    have hmany := HMany.out k
    rw [hK] at hmany
    obtain ⟨n1, n2, n3, n4⟩ := HNear.out k
    have ok1 := HOkW.out k
    generalize hsk : wrS s i0 bs k = sk at *
    have hzk : sk.size = z := n3
    have x0 : wr.cell? ⟨g, 0, none⟩ = some (.int .i64 (z : Int)) := by rw [G.x.cell 0]; unfold dCells; rw [hzk]; rfl
    have r0 : wr.cell? ⟨g + 1, 0, none⟩ = some (.int .i64 F) := G.r.cell 0
    have XG := Lib.hid (show DGoing w wr g F C i0 s bs k (dCells Ak ck Aw cw sk) from G)
    have HSK := Lib.hid hsk
    have HN := Lib.hid (⟨n1, n2, n3, n4⟩ : _ ∧ _ ∧ _ ∧ _)
    have HOK1 := Lib.hid ok1
    have HZK := Lib.hid hzk
    have HMK := Lib.hid hmany
    have HRV := Lib.hid hrv
    have HKK := Lib.hid hK
    clear n1 n2 n3 n4 ok1 hzk hsk G hmany hrv hK
    by_cases hlt : K < L
    · have d0 : decide (K < L) = true := decide_eq_true hlt
      have hkb : k ≤ 1000000 := by
        have h1 : k * 1 ≤ k * z := Nat.mul_le_mul_left k (by omega)
        have := HKK.out
        omega
      obtain ⟨M, hM⟩ : ∃ M : Nat, min L (K + z) = M := ⟨_, rfl⟩
      have hmin : min (L : Int) ((K : Int) + (z : Int)) = (M : Int) := by omega
      have hM1 : M ≤ L := by omega
      have hM2 : K ≤ M := by omega
      have hcut0 := HCut.out k
      have hfill0 := HFill.out k
      have hKS : (k + 1) * z = K + z := by rw [Nat.add_mul, HKK.out, Nat.one_mul]
      rw [hKS, HKK.out, hM] at hcut0
      rw [HKK.out] at hfill0
      obtain ⟨ch, hch⟩ : ∃ ch, (bs.drop K).take z = ch := ⟨_, rfl⟩
      rw [hch] at hcut0 hfill0
      have hcl : ch.length = M - K := by rw [← hch, List.length_take, List.length_drop, HL.out]; omega
      obtain ⟨S1, hS1⟩ : ∃ S1, strOfNums ch = S1 := ⟨_, rfl⟩
      have hs1z : S1.size = M - K := by rw [← hS1, strOfNums_size, hcl]
      rw [hS1] at hcut0 hfill0
      rw [hcl] at hfill0
      obtain ⟨n, hn⟩ : ∃ n : Nat, z - (M - K) = n := ⟨_, rfl⟩
      have hzn : (z : Int) - ((M - K : Nat) : Int) = (n : Int) := by omega
      have hn1 : n ≤ z := by omega
      rw [hn] at hfill0
      obtain ⟨Z1, hZ1⟩ : ∃ Z1, strOfNums (List.replicate n 0) = Z1 := ⟨_, rfl⟩
      have hz1z : Z1.size = n := by rw [← hZ1, strOfNums_size, List.length_replicate]
      rw [hZ1] at hfill0
      have HZ1 := Lib.hid hZ1
      have HCH := Lib.hid hfill0
      have hadd : ∀ W, (Op.stringOp .add S1 Z1).run Tryd.prog W = .ok (.string (strOfNums (chunkP z bs k))) W := fun W => by
        rw [← HCH.out]
        exact run_string_add W S1 Z1 (by omega) (by omega)
      have HM := Lib.hid (⟨hM, hn, hlt⟩ : _ ∧ _ ∧ _)
      have HKM : Hid (k < manyP z bs) := Lib.hid (HMK.out.2 hlt)
      clear hM hS1 hn hZ1 hch hKS hfill0 hcl hlt hz1z
      go_wp2_with (at_make; refine wpList_make_ints _ rfl _ _ _ rfl elem8 n n rfl rfl rfl rfl (Nat.le_refl _) (by omega) ?_; intro w5 own5 hb5 hl5; obtain ⟨A5, c5, he5, _, _, hh5⟩ := own5.opened; have kc := conv_bytes (P := Tryd.prog) Tryd.underlying22 Tryd.underlying5 Tryd.underlying9 w5 A5 (List.replicate n 0) c5 _ hh5; rw [← he5, HZ1.out] at kc; clear he5 hh5 own5)
      have G5 := XG.out.below hb5
      have P0 := Lib.hid G5.ok
      obtain ⟨Q, hQ⟩ : ∃ Q : Nat, b / z = Q := ⟨_, rfl⟩
      have HQ : Hid ((b : Int).tdiv (z : Int) = (Q : Int)) := Lib.hid (by rw [← hQ]; exact (Int.ofNat_tdiv b z).symm)
      have HQ3 : Hid ((b : Int) / (z : Int) = (Q : Int)) := Lib.hid (by rw [← hQ]; exact (Int.natCast_ediv b z).symm)
      have HI2 : Hid (F + (Q : Int) = i0) := Lib.hid (by rw [← hQ, ← HZ.out]; exact HI0.out)
      have hQb : Q ≤ b := by rw [← hQ]; exact Nat.div_le_self _ _
      have hi0b : -1000000 ≤ i0 ∧ i0 ≤ 8589934592 := by have := HI2.out; omega
      obtain ⟨n1, n2, n3, n4⟩ := HN.out
      obtain ⟨E, hE⟩ : ∃ E, errS s i0 bs k = E := ⟨_, rfl⟩
      obtain ⟨s1, hs1⟩ : ∃ s1, wrS s i0 bs (k + 1) = s1 := ⟨_, rfl⟩
      have GW : Hid (∀ W, RDv W (.agg (dCells Ak ck Aw cw sk)) (wrS s i0 bs k) → Calls Tryd.prog 13 #[.agg (dCells Ak ck Aw cw sk), .int .i64 (i0 + (k : Int)), .string (strOfNums (chunkP z bs k))] W (GivesED E s1 W)) := Lib.hid (fun W hv => by
        rw [HSK.out] at hv
        have := rwrite_any _ sk (i0 + (k : Int)) (chunkP z bs k) W hv HOK1.out (by omega) (by rw [chunkP_length]; omega) (by omega) (by omega)
        have e : sk.write (i0 + (k : Int)) (chunkP z bs k) = (E, s1) := by
          rw [← hE, ← hs1, ← HSK.out, ← HZ.out]
          rfl
        rwa [e] at this)
      have HE := Lib.hid hE
      have HS1 := Lib.hid hs1
      have RV5 : RDv w5 (.agg (dCells Ak ck Aw cw sk)) sk := by have := G5.v; rwa [HSK.out] at this
      clear n1 n2 n3 n4 hE hs1 kc hadd hcut0 hs1z hmin hzn hQ XG
      go_cut [13, 14] (fun v13 v14 wx => v13 = .int .i64 E ∧ Mid7 w wx g F C s1 v14)
      case first =>
        have P : DGoing w w5.drew g F C i0 s bs k (dCells Ak ck Aw cw sk) := G5.below (below_draws (Below.refl _ _) 1)
        have hZ0 : ∀ W, Block W g 31 (dCells Ak ck Aw cw sk) → W.cell? ⟨g, 0, none⟩ = some (.int .i64 (z : Int)) := fun W hW => by (rw [hW.cell 0]; unfold dCells; rw [HZK.out]; rfl)
        refine wp_region_held_drew (S := fun W => Block W g 31 (dCells Ak ck Aw cw sk) ∧ Block W (g + 1) 42 #[.int .i64 F, .int .i64 C]) (by kernel_rfl) ⟨P.x, P.r⟩ (fun hS => ?_)
        refine wpAnyH_take (i := 0) (oi := ⟨some 75, _, _, _, _, _⟩) (v := .agg (dCells Ak ck Aw cw sk)) rfl (by kernel_rfl) (by kernel_rfl) (by kernel_rfl) (fun _ _ _ h => h) (yieldsIf_load_mid (by rfl) _ _ rfl g (0) rfl (dCells Ak ck Aw cw sk).toList _ (fun W hW => block_range hW.1) Tryd.underlying31 rfl (by kernel_rfl)) hS ?_
        try simp only [Act.put, List.setIfInBounds_toArray, List.set_cons_zero, List.set_cons_succ]
        refine wpAnyH_take (i := 1) (oi := ⟨some 76, _, _, _, _, _⟩) (v := .pointer (some ⟨g + 1, 0, none⟩)) rfl (by kernel_rfl) (by kernel_rfl) (by kernel_rfl) (fun _ _ _ h => h) (Or.inl ⟨by rfl, fun W hW => by go_simp⟩) hS ?_
        try simp only [Act.put, List.setIfInBounds_toArray, List.set_cons_zero, List.set_cons_succ]
        refine wpAnyH_take (i := 3) (oi := ⟨some 78, _, _, _, _, _⟩) (v := .int .i64 (b : Int)) rfl (by kernel_rfl) (by kernel_rfl) (by kernel_rfl) (fun _ _ _ h => h) (Or.inl ⟨by rfl, fun W hW => by go_simp⟩) hS ?_
        try simp only [Act.put, List.setIfInBounds_toArray, List.set_cons_zero, List.set_cons_succ]
        refine wpAnyH_take (i := 4) (oi := ⟨some 79, _, _, _, _, _⟩) (v := .pointer (some ⟨g, 0, none⟩)) rfl (by kernel_rfl) (by kernel_rfl) (by kernel_rfl) (fun _ _ _ h => h) (Or.inl ⟨by rfl, fun W hW => by go_simp⟩) hS ?_
        try simp only [Act.put, List.setIfInBounds_toArray, List.set_cons_zero, List.set_cons_succ]
        refine wpAnyH_take (i := 8) (oi := ⟨some 83, _, _, _, _, _⟩) (v := .int .i64 (k : Int)) rfl (by kernel_rfl) (by kernel_rfl) (by kernel_rfl) (fun _ _ _ h => h) (Or.inl ⟨by rfl, fun W hW => by go_simp⟩) hS ?_
        try simp only [Act.put, List.setIfInBounds_toArray, List.set_cons_zero, List.set_cons_succ]
        refine wpAnyH_take (i := 10) (oi := ⟨some 85, _, _, _, _, _⟩) (v := .string (strOfNums (chunkP z bs k))) rfl (by kernel_rfl) (by kernel_rfl) (by kernel_rfl) (fun _ _ _ h => h) (Or.inl ⟨by rfl, fun W hW => by go_simp⟩) hS ?_
        try simp only [Act.put, List.setIfInBounds_toArray, List.set_cons_zero, List.set_cons_succ]
        refine wpAnyH_take (i := 2) (oi := ⟨some 77, _, _, _, _, _⟩) (v := .int .i64 F) rfl (by kernel_rfl) (by kernel_rfl) (by kernel_rfl) (fun _ _ _ h => h) (Or.inl ⟨by rfl, fun W hW => by have q0 : W.cell? ⟨g + 1, 0, none⟩ = some (.int .i64 F) := Block.cell hW.2 0; go_simp⟩) hS ?_
        try simp only [Act.put, List.setIfInBounds_toArray, List.set_cons_zero, List.set_cons_succ]
        refine wpAnyH_take (i := 5) (oi := ⟨some 80, _, _, _, _, _⟩) (v := .int .i64 (z : Int)) rfl (by kernel_rfl) (by kernel_rfl) (by kernel_rfl) (fun _ _ _ h => h) (Or.inl ⟨by rfl, fun W hW => by have q0 := hZ0 W hW.1; go_simp⟩) hS ?_
        try simp only [Act.put, List.setIfInBounds_toArray, List.set_cons_zero, List.set_cons_succ]
        refine wpAnyH_take (i := 6) (oi := ⟨some 81, _, _, _, _, _⟩) (v := .int .i64 (Q : Int)) rfl (by kernel_rfl) (by kernel_rfl) (by kernel_rfl) (fun _ _ _ h => h) (Or.inl ⟨by rfl, fun W hW => by go_simp; first | exact IntWalk.i64_in _ (by omega) | (rw [HQ.out]; exact IntWalk.i64_in _ (by omega)) | (rw [HQ3.out]; exact IntWalk.i64_in _ (by omega))⟩) hS ?_
        try simp only [Act.put, List.setIfInBounds_toArray, List.set_cons_zero, List.set_cons_succ]
        refine wpAnyH_take (i := 7) (oi := ⟨some 82, _, _, _, _, _⟩) (v := .int .i64 i0) rfl (by kernel_rfl) (by kernel_rfl) (by kernel_rfl) (fun _ _ _ h => h) (Or.inl ⟨by rfl, fun W hW => by go_simp; rw [HI2.out]; exact IntWalk.i64_in _ (by omega)⟩) hS ?_
        try simp only [Act.put, List.setIfInBounds_toArray, List.set_cons_zero, List.set_cons_succ]
        refine wpAnyH_take (i := 9) (oi := ⟨some 84, _, _, _, _, _⟩) (v := .int .i64 (i0 + (k : Int))) rfl (by kernel_rfl) (by kernel_rfl) (by kernel_rfl) (fun _ _ _ h => h) (Or.inl ⟨by rfl, fun W hW => by go_simp; exact IntWalk.i64_in _ (by omega)⟩) hS ?_
        try simp only [Act.put, List.setIfInBounds_toArray, List.set_cons_zero, List.set_cons_succ]
        refine wpAnyH_ready (rs := [11, 15]) (by kernel_rfl) (by simp) ?_
        refine AllReadyH.cons rfl (fun K hK => ?_) (AllReadyH.cons rfl (fun K hK => ?_) AllReadyH.nil)
        · go_simp
          go_at_call 13
          refine (GW.out _ P.v).mono ?_
          rintro e x1 ⟨v1, rfl, RV1, hb1⟩
          obtain ⟨Ak1, ck1, Aw1, cw1, rfl, hr1⟩ := RV1
          have RV1 : RDv x1 (.agg (dCells Ak1 ck1 Aw1 cw1 s1)) s1 := ⟨Ak1, ck1, Aw1, cw1, rfl, hr1⟩
          have P1 := P.below hb1
          clear hr1
          refine hK.out _ _ ⟨P1.x, P1.r⟩ (fun hS => ?_)
          clear hK K
          try simp only [Act.put, List.setIfInBounds_toArray, List.set_cons_zero, List.set_cons_succ]
          refine wpAnyH_take (i := 12) (oi := ⟨some 74, _, _, _, _, _⟩) (v := .tuple #[.int .i64 E, .agg (dCells Ak1 ck1 Aw1 cw1 s1)]) rfl (by kernel_rfl) (by kernel_rfl) (by kernel_rfl) (fun _ _ _ h => h) (Or.inl ⟨by rfl, fun W hW => by go_simp⟩) hS ?_
          try simp only [Act.put, List.setIfInBounds_toArray, List.set_cons_zero, List.set_cons_succ]
          refine wpAnyH_take (i := 13) (oi := ⟨some 87, _, _, _, _, _⟩) (v := .int .i64 E) rfl (by kernel_rfl) (by kernel_rfl) (by kernel_rfl) (fun _ _ _ h => h) (Or.inl ⟨by rfl, fun W hW => by go_simp⟩) hS ?_
          try simp only [Act.put, List.setIfInBounds_toArray, List.set_cons_zero, List.set_cons_succ]
          refine wpAnyH_take (i := 14) (oi := ⟨some 88, _, _, _, _, _⟩) (v := .agg (dCells Ak1 ck1 Aw1 cw1 s1)) rfl (by kernel_rfl) (by kernel_rfl) (by kernel_rfl) (fun _ _ _ h => h) (Or.inl ⟨by rfl, fun W hW => by go_simp⟩) hS ?_
          try simp only [Act.put, List.setIfInBounds_toArray, List.set_cons_zero, List.set_cons_succ]
          refine wpAnyH_ready (rs := [15]) (by kernel_rfl) (by simp) ?_
          refine AllReadyH.cons rfl (fun K hK => ?_) AllReadyH.nil
          go_simp
          have B2 : Below x1.heap.size x1 (x1.alloc (.cells zD 31)) := (Below.refl _ _).alloc (Nat.le_refl _) _
          have Z2 : Block (x1.alloc (.cells zD 31)) x1.heap.size 31 zD := Block.new _ _ _
          have P2 := P1.below B2
          have RV2 := RV1.below B2
          have hg2 := P1.b.size
          have hne := P1.z.lt
          refine hK.out _ _ ⟨P2.x, P2.r⟩ (fun hS => ?_)
          clear hK K
          try simp only [Act.put, List.setIfInBounds_toArray, List.set_cons_zero, List.set_cons_succ]
          refine wpAnyH_ready (rs := [16]) (by kernel_rfl) (by simp) ?_
          refine AllReadyH.cons rfl (fun K hK => ?_) AllReadyH.nil
          go_simp
          refine hK.out _ _ ⟨P2.x, P2.r⟩ (fun hS => ?_)
          clear hK K
          try simp only [Act.put, List.setIfInBounds_toArray, List.set_cons_zero, List.set_cons_succ]
          refine wpAnyH_ready (rs := [17]) (by kernel_rfl) (by simp) ?_
          refine AllReadyH.cons rfl (fun K hK => ?_) AllReadyH.nil
          refine step_store_blk rfl _ _ _ rfl (cs := zD) (ds := (dCells Ak1 ck1 Aw1 cw1 s1).toList) (by exact Z2) rfl rfl rfl (by kernel_rfl) (dCells_one _ _ _ _ _) ?_
          intro x3 Z3 g3
          have X3 := P2.x.grown g3 (by intro h; injection h with h; omega)
          have R3 := P2.r.grown g3 (by intro h; injection h with h; omega)
          have Y3 := P2.z.grown g3 (by intro h; injection h with h; omega)
          have RV3 := RV2.kept Z2 zD_noText g3
          have B3 := P2.b.trans (below_of_grown g3 P2.b.size fun b hb => by injection hb with hb; omega)
          refine hK.out _ _ ⟨X3, R3⟩ (fun hS => ?_)
          clear hK K
          try simp only [Act.put, List.setIfInBounds_toArray, List.set_cons_zero, List.set_cons_succ]
          refine wpAnyH_done (by kernel_rfl) ?_ _
          go_wp2_with fail
          go_meet
          exact ⟨rfl, _, _, _, rfl, ⟨rfl, dCells_noText _ _ _ _ _⟩, X3, R3, Y3, Z3, RV3, B3, by omega⟩
        · go_simp
          have B0 : Below w5.drew.heap.size w5.drew (w5.drew.alloc (.cells zD 31)) := (Below.refl _ _).alloc (Nat.le_refl _) _
          have Z0 : Block (w5.drew.alloc (.cells zD 31)) w5.drew.heap.size 31 zD := Block.new _ _ _
          have P0 := P.below B0
          have hg2 : w.heap.size ≤ w5.heap.size := P.b.size
          have hne : g + 1 + 1 < w5.heap.size := P.z.lt
          refine hK.out _ _ ⟨P0.x, P0.r⟩ (fun hS => ?_)
          clear hK K
          try simp only [Act.put, List.setIfInBounds_toArray, List.set_cons_zero, List.set_cons_succ]
          refine wpAnyH_ready (rs := [11]) (by kernel_rfl) (by simp) ?_
          refine AllReadyH.cons rfl (fun K hK => ?_) AllReadyH.nil
          go_simp
          go_at_call 13
          refine (GW.out _ P0.v).mono ?_
          rintro e x1 ⟨v1, rfl, RV1, hb1⟩
          obtain ⟨Ak1, ck1, Aw1, cw1, rfl, hr1⟩ := RV1
          have RV1 : RDv x1 (.agg (dCells Ak1 ck1 Aw1 cw1 s1)) s1 := ⟨Ak1, ck1, Aw1, cw1, rfl, hr1⟩
          have P1 := P0.below hb1
          clear hr1
          refine hK.out _ _ ⟨P1.x, P1.r⟩ (fun hS => ?_)
          clear hK K
          try simp only [Act.put, List.setIfInBounds_toArray, List.set_cons_zero, List.set_cons_succ]
          refine wpAnyH_take (i := 12) (oi := ⟨some 74, _, _, _, _, _⟩) (v := .tuple #[.int .i64 E, .agg (dCells Ak1 ck1 Aw1 cw1 s1)]) rfl (by kernel_rfl) (by kernel_rfl) (by kernel_rfl) (fun _ _ _ h => h) (Or.inl ⟨by rfl, fun W hW => by go_simp⟩) hS ?_
          try simp only [Act.put, List.setIfInBounds_toArray, List.set_cons_zero, List.set_cons_succ]
          refine wpAnyH_take (i := 13) (oi := ⟨some 87, _, _, _, _, _⟩) (v := .int .i64 E) rfl (by kernel_rfl) (by kernel_rfl) (by kernel_rfl) (fun _ _ _ h => h) (Or.inl ⟨by rfl, fun W hW => by go_simp⟩) hS ?_
          try simp only [Act.put, List.setIfInBounds_toArray, List.set_cons_zero, List.set_cons_succ]
          refine wpAnyH_take (i := 14) (oi := ⟨some 88, _, _, _, _, _⟩) (v := .agg (dCells Ak1 ck1 Aw1 cw1 s1)) rfl (by kernel_rfl) (by kernel_rfl) (by kernel_rfl) (fun _ _ _ h => h) (Or.inl ⟨by rfl, fun W hW => by go_simp⟩) hS ?_
          try simp only [Act.put, List.setIfInBounds_toArray, List.set_cons_zero, List.set_cons_succ]
          have Z2 := Z0.below hb1 Z0.lt
          have P2 := P1
          have RV2 := RV1
          refine wpAnyH_ready (rs := [16]) (by kernel_rfl) (by simp) ?_
          refine AllReadyH.cons rfl (fun K hK => ?_) AllReadyH.nil
          go_simp
          refine hK.out _ _ ⟨P2.x, P2.r⟩ (fun hS => ?_)
          clear hK K
          try simp only [Act.put, List.setIfInBounds_toArray, List.set_cons_zero, List.set_cons_succ]
          refine wpAnyH_ready (rs := [17]) (by kernel_rfl) (by simp) ?_
          refine AllReadyH.cons rfl (fun K hK => ?_) AllReadyH.nil
          refine step_store_blk rfl _ _ _ rfl (cs := zD) (ds := (dCells Ak1 ck1 Aw1 cw1 s1).toList) (by exact Z2) rfl rfl rfl (by kernel_rfl) (dCells_one _ _ _ _ _) ?_
          intro x3 Z3 g3
          have X3 := P2.x.grown g3 (by intro h; injection h with h; omega)
          have R3 := P2.r.grown g3 (by intro h; injection h with h; omega)
          have Y3 := P2.z.grown g3 (by intro h; injection h with h; omega)
          have RV3 := RV2.kept Z2 zD_noText g3
          have B3 := P2.b.trans (below_of_grown g3 P2.b.size fun b hb => by injection hb with hb; omega)
          refine hK.out _ _ ⟨X3, R3⟩ (fun hS => ?_)
          clear hK K
          try simp only [Act.put, List.setIfInBounds_toArray, List.set_cons_zero, List.set_cons_succ]
          refine wpAnyH_done (by kernel_rfl) ?_ _
          go_wp2_with fail
          go_meet
          exact ⟨rfl, _, _, _, rfl, ⟨rfl, dCells_noText _ _ _ _ _⟩, X3, R3, Y3, Z3, RV3, B3, by omega⟩
      case rest =>
        obtain ⟨rfl, g2, cs, cs2, rfl, ⟨hcz, hnt⟩, X4, R4, Y4, Z4, RV4, B4, hgg⟩ := hcut
        rename World => w4
        obtain ⟨Ak1, ck1, Aw1, cw1, hce, hr4⟩ := RV4
        injection hce with hce
        subst hce
        have RV4 : RDv w4 (.agg (dCells Ak1 ck1 Aw1 cw1 s1)) s1 := ⟨Ak1, ck1, Aw1, cw1, rfl, hr4⟩
        clear hr4
        have hgw := G5.g
        clear G5 RV5 GW hb5
        go_upto_region 13 with (first
          | (have _t := Z4; refine wpList_load_midV (by rfl) _ _ rfl g2 0 rfl (dCells Ak1 ck1 Aw1 cw1 s1).toList (block_range Z4) Tryd.underlying31 rfl (by kernel_rfl) ?_; clear _t Z4)
          | (have _t := X4; refine wpList_store_blk (cs := cs) rfl _ _ _ rfl (ds := (dCells Ak1 ck1 Aw1 cw1 s1).toList) (by exact X4) rfl rfl (by rw [hcz]; rfl) (by kernel_rfl) (dCells_one _ _ _ _ _) ?_; clear _t; intro w6 X6 g6))
        try simp only [Act.put]
        have R6 := R4.grown g6 (by intro h; injection h with h; omega)
        have Y6 := Y4.grown g6 (by intro h; injection h with h; omega)
        have RV6 := RV4.kept X4 hnt g6
        have B6 := B4.trans (below_of_grown g6 B4.size fun b hb => by injection hb with hb; omega)
        clear X4 R4 Y4 RV4 B4 g6
        by_cases hE0 : E = 0
        · subst hE0
          have HG6 : Hid (DGoing w w6 g F C i0 s bs (k + 1) (dCells Ak1 ck1 Aw1 cw1 s1)) := Lib.hid ⟨X6, R6, Y6, by rw [HS1.out]; exact RV6, B6, fun j hj => by
            rcases Nat.lt_or_ge j k with h | h
            · exact P0.out j h
            · obtain rfl : j = k := by omega
              exact HE.out, hgw⟩
          have HK1 : Hid (k + 1 ≤ manyP z bs) := Lib.hid HKM.out
          clear X6 R6 Y6 RV6 B6
          go_wp2_with fail
          go_roundw
          case rel => exact ⟨k + 1, _, HK1.out, by go_num, HG6.out⟩
          case measure =>
            have := HKM.out
            simp only [intOf]
            omega
        · have d1 : (E != 0) = true := by simpa using hE0
          go_wp2_with fail
          have X9 : Block w6.drew g 31 (dCells Ak1 ck1 Aw1 cw1 s1) := Block.drewN X6 1
          have Y9 : Block w6.drew (g + 1 + 1) 31 zD := Block.drewN Y6 1
          have B9 : Below w.heap.size w w6.drew := below_draws B6 1
          have RV9 := RDv.below RV6 (below_draws (Below.refl _ _) 1)
          refine wp_region_held_drew (S := fun W => Block W g 31 (dCells Ak1 ck1 Aw1 cw1 s1)) (by kernel_rfl) X6 (fun hS => ?_)
          refine wpAnyH_take (i := 0) (oi := ⟨some 92, _, _, _, _, _⟩) (v := .int .i64 E) rfl (by kernel_rfl) (by kernel_rfl) (by kernel_rfl) (fun _ _ _ h => h) (Or.inl ⟨by rfl, fun W hW => by go_simp⟩) hS ?_
          try simp only [Act.put, List.setIfInBounds_toArray, List.set_cons_zero, List.set_cons_succ]
          refine wpAnyH_take (i := 1) (oi := ⟨some 93, _, _, _, _, _⟩) (v := .agg (dCells Ak1 ck1 Aw1 cw1 s1)) rfl (by kernel_rfl) (by kernel_rfl) (by kernel_rfl) (fun _ _ _ h => h) (yieldsIf_load_mid (by rfl) _ _ rfl g (0) rfl (dCells Ak1 ck1 Aw1 cw1 s1).toList _ (fun W hW => block_range hW) Tryd.underlying31 rfl (by kernel_rfl)) hS ?_
          try simp only [Act.put, List.setIfInBounds_toArray, List.set_cons_zero, List.set_cons_succ]
          refine wpAnyH_ready (rs := [2]) (by kernel_rfl) (by simp) ?_
          refine AllReadyH.cons rfl (fun K hK => ?_) AllReadyH.nil
          go_simp
          refine hK.out _ _ X9 (fun hS => ?_)
          clear hK K
          try simp only [Act.put, List.setIfInBounds_toArray, List.set_cons_zero, List.set_cons_succ]
          refine wpAnyH_ready (rs := [3]) (by kernel_rfl) (by simp) ?_
          refine AllReadyH.cons rfl (fun K hK => ?_) AllReadyH.nil
          refine step_store_blk rfl _ _ _ rfl (cs := zD) (ds := (dCells Ak1 ck1 Aw1 cw1 s1).toList) (by exact Y9) rfl rfl rfl (by kernel_rfl) (dCells_one _ _ _ _ _) ?_
          intro x9 Z9 g9
          have X10 := X9.grown g9 (by intro h; injection h with h; omega)
          have RV10 := RV9.kept Y9 zD_noText g9
          have B10 := B9.trans (below_of_grown g9 B9.size fun b hb => by injection hb with hb; omega)
          refine hK.out _ _ X10 (fun hS => ?_)
          clear hK K
          try simp only [Act.put, List.setIfInBounds_toArray, List.set_cons_zero, List.set_cons_succ]
          refine wpAnyH_done (by kernel_rfl) ?_ _
          go_wp2_with fail
          exact bodyPost_ret (v := .tuple #[.int .i64 E, .agg (dCells Ak1 ck1 Aw1 cw1 s1)]) (results_tmp_row rfl _ _ (g + 1 + 1) 31 _ (0, 0) _ _ rfl rfl Z9 Tryd.underlying31 rfl (by kernel_rfl)) rfl ⟨(E, s1), Or.inl ⟨k, by rw [HZ.out]; exact HKM.out, P0.out, by rw [HE.out]; exact hE0, by rw [HE.out, HS1.out]⟩, _, rfl, RV10, B10⟩
    · have d0 : decide (K < L) = false := decide_eq_false hlt
      have hke : k = manyP z bs := by
        rcases Nat.lt_or_ge k (manyP z bs) with h | h
        · exact absurd (HMK.out.1 h) hlt
        · omega
      have HV2 : Hid (RDv wr (.agg (dCells Ak ck Aw cw sk)) sk) := Lib.hid (by have := XG.out.v; rwa [HSK.out] at this)
      have hgw := XG.out.g
      have HKE := Lib.hid hke
      clear hke
      go_wp2_with fail
      have hke := HKE.out
      have X9 : Block wr.drew g 31 (dCells Ak ck Aw cw sk) := Block.drewN XG.out.x 1
      have Y9 : Block wr.drew (g + 1 + 1) 31 zD := Block.drewN XG.out.z 1
      have B9 : Below w.heap.size w wr.drew := below_draws XG.out.b 1
      have RV9 := RDv.below HV2.out (below_draws (Below.refl _ _) 1)
      refine wp_region_held_drew (S := fun W => Block W g 31 (dCells Ak ck Aw cw sk)) (by kernel_rfl) XG.out.x (fun hS => ?_)
      refine wpAnyH_take (i := 0) (oi := ⟨some 94, _, _, _, _, _⟩) (v := .agg (dCells Ak ck Aw cw sk)) rfl (by kernel_rfl) (by kernel_rfl) (by kernel_rfl) (fun _ _ _ h => h) (yieldsIf_load_mid (by rfl) _ _ rfl g (0) rfl (dCells Ak ck Aw cw sk).toList _ (fun W hW => block_range hW) Tryd.underlying31 rfl (by kernel_rfl)) hS ?_
      try simp only [Act.put, List.setIfInBounds_toArray, List.set_cons_zero, List.set_cons_succ]
      refine wpAnyH_ready (rs := [1]) (by kernel_rfl) (by simp) ?_
      refine AllReadyH.cons rfl (fun K hK => ?_) AllReadyH.nil
      go_simp
      refine hK.out _ _ X9 (fun hS => ?_)
      clear hK K
      try simp only [Act.put, List.setIfInBounds_toArray, List.set_cons_zero, List.set_cons_succ]
      refine wpAnyH_ready (rs := [2]) (by kernel_rfl) (by simp) ?_
      refine AllReadyH.cons rfl (fun K hK => ?_) AllReadyH.nil
      refine step_store_blk rfl _ _ _ rfl (cs := zD) (ds := (dCells Ak ck Aw cw sk).toList) (by exact Y9) rfl rfl rfl (by kernel_rfl) (dCells_one _ _ _ _ _) ?_
      intro x9 Z9 g9
      have X10 := X9.grown g9 (by intro h; injection h with h; omega)
      have RV10 := RV9.kept Y9 zD_noText g9
      have B10 := B9.trans (below_of_grown g9 B9.size fun b hb => by injection hb with hb; omega)
      refine hK.out _ _ X10 (fun hS => ?_)
      clear hK K
      try simp only [Act.put, List.setIfInBounds_toArray, List.set_cons_zero, List.set_cons_succ]
      refine wpAnyH_done (by kernel_rfl) ?_ _
      go_wp2_with fail
      exact bodyPost_ret (v := .tuple #[.int .i64 0, .agg (dCells Ak ck Aw cw sk)]) (results_tmp_row rfl _ _ (g + 1 + 1) 31 _ (0, 0) _ _ rfl rfl Z9 Tryd.underlying31 rfl (by kernel_rfl)) rfl ⟨(0, sk), Or.inr ⟨by rw [HZ.out, ← hke]; exact XG.out.ok, by rw [HZ.out, ← hke, HSK.out]⟩, _, rfl, RV10, B10⟩

set_option maxRecDepth 100000 in
set_option maxHeartbeats 6400000 in
theorem rpwrite_no (v : Value) (s : Dv) (F C : Int) (T : Nat) (x : Int) (bs : List Int) (w : World) (h : RDv w v s) (hok : s.Ok) (hl : Lies s F C T) (hx : -9223372036854775808 ≤ x ∧ x ≤ 9223372036854775807) (hbl : bs.length ≤ 1000000)
    (hno : ¬ (x.tmod s.size = 0 ∧ 0 ≤ x ∧ x ≤ T ∧ 0 ≤ (bs.length : Int) ∧ (bs.length : Int) ≤ T - x)) :
    Calls Tryd.prog 85 #[v, .agg #[.int .i64 F, .int .i64 C], .int .i64 x, .string (strOfNums bs)] w fun e w' => ∃ r : Int × Dv, r = (if x.tmod s.size ≠ 0 then 1 else 5, s) ∧ GivesED r.1 r.2 w e w' := by
  have hT := hl.most hok
  have hs1 := hok.s1
  have hs2 := hok.s2
  have hCS := hl.t
  have HSz := Lib.hid (strOfNums_size bs)
  obtain ⟨Ak, ck, Aw, cw, rfl, hr0⟩ := h
  have G0 : Hid (DGoing w (((w.alloc (.cells (dCells Ak ck Aw cw s) 31)).alloc (.cells #[.int .i64 F, .int .i64 C] 42)).alloc (.cells zD 31)) w.heap.size F C 0 s bs 0 (dCells Ak ck Aw cw s)) := Lib.hid
    ⟨((Block.new w _ _).alloc _).alloc _, (block_two w _ _ _).alloc _, block_three w _ _ _ _, RDv.below ⟨Ak, ck, Aw, cw, rfl, hr0⟩ (below_three w _ _ _), below_three w _ _ _, fun j hj => absurd hj (by omega), Nat.le_refl _⟩
  obtain ⟨S, hS⟩ : ∃ S, strOfNums bs = S := ⟨_, rfl⟩
  rw [hS] at HSz ⊢
  have hsz : S.size = bs.length := HSz.out
  have hzz : ¬ s.size = 0 := by omega
  unfold zD at G0
  unfold dCells at G0 ⊢
  clear hr0 hS hok hl
  by_cases hm : x.tmod s.size = 0
  · have hin : ¬ (0 ≤ x ∧ x ≤ (T : Int) ∧ 0 ≤ (bs.length : Int) ∧ (bs.length : Int) ≤ (T : Int) - x) := fun h => hno ⟨hm, h⟩
    simp only [if_neg (not_not_intro hm)]
    have hrem := hm
    have h3 : (decide (x < 0) = true) ∨ (decide (x < 0) = false ∧ decide ((T : Int) < x) = true) ∨ (decide (x < 0) = false ∧ decide ((T : Int) < x) = false ∧ decide ((T : Int) - x < (bs.length : Int)) = true) := by
      by_cases h1 : x < 0
      · exact Or.inl (decide_eq_true h1)
      · by_cases h2 : (T : Int) < x
        · exact Or.inr (Or.inl ⟨decide_eq_false h1, decide_eq_true h2⟩)
        · exact Or.inr (Or.inr ⟨decide_eq_false h1, decide_eq_false h2, decide_eq_true (by omega)⟩)
    clear hno hin hm
    generalize bs.length = L at *
    rcases h3 with d1 | ⟨d1, d2⟩ | ⟨d1, d2, d3⟩
    · have b0 : (x.tmod (s.size : Int) != 0) = false := by rw [hrem]; rfl
      clear hrem
      go_enter Tryd.func85, Tryd.ntmps85
      go_wp2_with fail
      generalize hW3 : ((w.alloc _).alloc _).alloc _ = w3 at *
      generalize hg : w.heap.size = g at G0 ⊢
      clear hW3
      have X9 : Block w3.drew g 31 (dCells Ak ck Aw cw s) := Block.drewN G0.out.x 1
      have Y9 : Block w3.drew (g + 1 + 1) 31 zD := Block.drewN G0.out.z 1
      have B9 : Below w.heap.size w w3.drew := below_draws G0.out.b 1
      have RV9 := RDv.below G0.out.v (below_draws (Below.refl _ _) 1)
      refine wp_region_held_drew (S := fun W => Block W g 31 (dCells Ak ck Aw cw s)) (by kernel_rfl) G0.out.x (fun hS => ?_)
      refine wpAnyH_take (i := 0) (oi := ⟨some 41, _, _, _, _, _⟩) (v := .agg (dCells Ak ck Aw cw s)) rfl (by kernel_rfl) (by kernel_rfl) (by kernel_rfl) (fun _ _ _ h => h) (yieldsIf_load_mid (by rfl) _ _ rfl g (0) rfl (dCells Ak ck Aw cw s).toList _ (fun W hW => block_range hW) Tryd.underlying31 rfl (by kernel_rfl)) hS ?_
      try simp only [Act.put, List.setIfInBounds_toArray, List.set_cons_zero, List.set_cons_succ]
      refine wpAnyH_ready (rs := [1]) (by kernel_rfl) (by simp) ?_
      refine AllReadyH.cons rfl (fun K hK => ?_) AllReadyH.nil
      go_simp
      refine hK.out _ _ X9 (fun hS => ?_)
      clear hK K
      try simp only [Act.put, List.setIfInBounds_toArray, List.set_cons_zero, List.set_cons_succ]
      refine wpAnyH_ready (rs := [2]) (by kernel_rfl) (by simp) ?_
      refine AllReadyH.cons rfl (fun K hK => ?_) AllReadyH.nil
      refine step_store_blk rfl _ _ _ rfl (cs := zD) (ds := (dCells Ak ck Aw cw s).toList) (by exact Y9) rfl rfl rfl (by kernel_rfl) (dCells_one _ _ _ _ _) ?_
      intro x9 Z9 g9
      have X10 := X9.grown g9 (by intro h; injection h with h; omega)
      have RV10 := RV9.kept Y9 zD_noText g9
      have B10 := B9.trans (below_of_grown g9 B9.size fun b hb => by injection hb with hb; omega)
      refine hK.out _ _ X10 (fun hS => ?_)
      clear hK K
      try simp only [Act.put, List.setIfInBounds_toArray, List.set_cons_zero, List.set_cons_succ]
      refine wpAnyH_done (by kernel_rfl) ?_ _
      go_wp2_with fail
      exact bodyPost_ret (v := .tuple #[.int .i64 5, .agg (dCells Ak ck Aw cw s)]) (results_tmp_row rfl _ _ (g + 1 + 1) 31 _ (0, 0) _ _ rfl rfl Z9 Tryd.underlying31 rfl (by kernel_rfl)) rfl ⟨(5, s), rfl, _, rfl, RV10, B10⟩
    · have b0 : (x.tmod (s.size : Int) != 0) = false := by rw [hrem]; rfl
      clear hrem
      go_enter Tryd.func85, Tryd.ntmps85
      go_wp2_with fail
      generalize hW3 : ((w.alloc _).alloc _).alloc _ = w3 at *
      generalize hg : w.heap.size = g at G0 ⊢
      clear hW3
      have X9 : Block w3.drew g 31 (dCells Ak ck Aw cw s) := Block.drewN G0.out.x 1
      have Y9 : Block w3.drew (g + 1 + 1) 31 zD := Block.drewN G0.out.z 1
      have B9 : Below w.heap.size w w3.drew := below_draws G0.out.b 1
      have RV9 := RDv.below G0.out.v (below_draws (Below.refl _ _) 1)
      refine wp_region_held_drew (S := fun W => Block W g 31 (dCells Ak ck Aw cw s)) (by kernel_rfl) G0.out.x (fun hS => ?_)
      refine wpAnyH_take (i := 0) (oi := ⟨some 41, _, _, _, _, _⟩) (v := .agg (dCells Ak ck Aw cw s)) rfl (by kernel_rfl) (by kernel_rfl) (by kernel_rfl) (fun _ _ _ h => h) (yieldsIf_load_mid (by rfl) _ _ rfl g (0) rfl (dCells Ak ck Aw cw s).toList _ (fun W hW => block_range hW) Tryd.underlying31 rfl (by kernel_rfl)) hS ?_
      try simp only [Act.put, List.setIfInBounds_toArray, List.set_cons_zero, List.set_cons_succ]
      refine wpAnyH_ready (rs := [1]) (by kernel_rfl) (by simp) ?_
      refine AllReadyH.cons rfl (fun K hK => ?_) AllReadyH.nil
      go_simp
      refine hK.out _ _ X9 (fun hS => ?_)
      clear hK K
      try simp only [Act.put, List.setIfInBounds_toArray, List.set_cons_zero, List.set_cons_succ]
      refine wpAnyH_ready (rs := [2]) (by kernel_rfl) (by simp) ?_
      refine AllReadyH.cons rfl (fun K hK => ?_) AllReadyH.nil
      refine step_store_blk rfl _ _ _ rfl (cs := zD) (ds := (dCells Ak ck Aw cw s).toList) (by exact Y9) rfl rfl rfl (by kernel_rfl) (dCells_one _ _ _ _ _) ?_
      intro x9 Z9 g9
      have X10 := X9.grown g9 (by intro h; injection h with h; omega)
      have RV10 := RV9.kept Y9 zD_noText g9
      have B10 := B9.trans (below_of_grown g9 B9.size fun b hb => by injection hb with hb; omega)
      refine hK.out _ _ X10 (fun hS => ?_)
      clear hK K
      try simp only [Act.put, List.setIfInBounds_toArray, List.set_cons_zero, List.set_cons_succ]
      refine wpAnyH_done (by kernel_rfl) ?_ _
      go_wp2_with fail
      exact bodyPost_ret (v := .tuple #[.int .i64 5, .agg (dCells Ak ck Aw cw s)]) (results_tmp_row rfl _ _ (g + 1 + 1) 31 _ (0, 0) _ _ rfl rfl Z9 Tryd.underlying31 rfl (by kernel_rfl)) rfl ⟨(5, s), rfl, _, rfl, RV10, B10⟩
    · have b0 : (x.tmod (s.size : Int) != 0) = false := by rw [hrem]; rfl
      have hx0 : 0 ≤ x := by have := of_decide_eq_false d1; omega
      have hx1 : x ≤ (T : Int) := by have := of_decide_eq_false d2; omega
      obtain ⟨y, rfl⟩ : ∃ y : Nat, x = (y : Int) := ⟨x.toNat, by omega⟩
      have d2 : decide (T < y) = false := decide_eq_false (by omega)
      clear hx0
      go_enter Tryd.func85, Tryd.ntmps85
      go_wp2_with fail
      generalize hW3 : ((w.alloc _).alloc _).alloc _ = w3 at *
      generalize hg : w.heap.size = g at G0 ⊢
      clear hW3
      have X9 : Block w3.drew g 31 (dCells Ak ck Aw cw s) := Block.drewN G0.out.x 1
      have Y9 : Block w3.drew (g + 1 + 1) 31 zD := Block.drewN G0.out.z 1
      have B9 : Below w.heap.size w w3.drew := below_draws G0.out.b 1
      have RV9 := RDv.below G0.out.v (below_draws (Below.refl _ _) 1)
      refine wp_region_held_drew (S := fun W => Block W g 31 (dCells Ak ck Aw cw s)) (by kernel_rfl) G0.out.x (fun hS => ?_)
      refine wpAnyH_take (i := 0) (oi := ⟨some 41, _, _, _, _, _⟩) (v := .agg (dCells Ak ck Aw cw s)) rfl (by kernel_rfl) (by kernel_rfl) (by kernel_rfl) (fun _ _ _ h => h) (yieldsIf_load_mid (by rfl) _ _ rfl g (0) rfl (dCells Ak ck Aw cw s).toList _ (fun W hW => block_range hW) Tryd.underlying31 rfl (by kernel_rfl)) hS ?_
      try simp only [Act.put, List.setIfInBounds_toArray, List.set_cons_zero, List.set_cons_succ]
      refine wpAnyH_ready (rs := [1]) (by kernel_rfl) (by simp) ?_
      refine AllReadyH.cons rfl (fun K hK => ?_) AllReadyH.nil
      go_simp
      refine hK.out _ _ X9 (fun hS => ?_)
      clear hK K
      try simp only [Act.put, List.setIfInBounds_toArray, List.set_cons_zero, List.set_cons_succ]
      refine wpAnyH_ready (rs := [2]) (by kernel_rfl) (by simp) ?_
      refine AllReadyH.cons rfl (fun K hK => ?_) AllReadyH.nil
      refine step_store_blk rfl _ _ _ rfl (cs := zD) (ds := (dCells Ak ck Aw cw s).toList) (by exact Y9) rfl rfl rfl (by kernel_rfl) (dCells_one _ _ _ _ _) ?_
      intro x9 Z9 g9
      have X10 := X9.grown g9 (by intro h; injection h with h; omega)
      have RV10 := RV9.kept Y9 zD_noText g9
      have B10 := B9.trans (below_of_grown g9 B9.size fun b hb => by injection hb with hb; omega)
      refine hK.out _ _ X10 (fun hS => ?_)
      clear hK K
      try simp only [Act.put, List.setIfInBounds_toArray, List.set_cons_zero, List.set_cons_succ]
      refine wpAnyH_done (by kernel_rfl) ?_ _
      go_wp2_with fail
      exact bodyPost_ret (v := .tuple #[.int .i64 5, .agg (dCells Ak ck Aw cw s)]) (results_tmp_row rfl _ _ (g + 1 + 1) 31 _ (0, 0) _ _ rfl rfl Z9 Tryd.underlying31 rfl (by kernel_rfl)) rfl ⟨(5, s), rfl, _, rfl, RV10, B10⟩
  · simp only [if_pos hm]
    have b0 : (x.tmod (s.size : Int) != 0) = true := by simpa using hm
    clear hno hm
    go_enter Tryd.func85, Tryd.ntmps85
    go_wp2_with fail
    generalize hW3 : ((w.alloc _).alloc _).alloc _ = w3 at *
    generalize hg : w.heap.size = g at G0 ⊢
    clear hW3
    have X9 : Block w3.drew g 31 (dCells Ak ck Aw cw s) := Block.drewN G0.out.x 1
    have Y9 : Block w3.drew (g + 1 + 1) 31 zD := Block.drewN G0.out.z 1
    have B9 : Below w.heap.size w w3.drew := below_draws G0.out.b 1
    have RV9 := RDv.below G0.out.v (below_draws (Below.refl _ _) 1)
    refine wp_region_held_drew (S := fun W => Block W g 31 (dCells Ak ck Aw cw s)) (by kernel_rfl) G0.out.x (fun hS => ?_)
    refine wpAnyH_take (i := 0) (oi := ⟨some 20, _, _, _, _, _⟩) (v := .agg (dCells Ak ck Aw cw s)) rfl (by kernel_rfl) (by kernel_rfl) (by kernel_rfl) (fun _ _ _ h => h) (yieldsIf_load_mid (by rfl) _ _ rfl g (0) rfl (dCells Ak ck Aw cw s).toList _ (fun W hW => block_range hW) Tryd.underlying31 rfl (by kernel_rfl)) hS ?_
    try simp only [Act.put, List.setIfInBounds_toArray, List.set_cons_zero, List.set_cons_succ]
    refine wpAnyH_ready (rs := [1]) (by kernel_rfl) (by simp) ?_
    refine AllReadyH.cons rfl (fun K hK => ?_) AllReadyH.nil
    go_simp
    refine hK.out _ _ X9 (fun hS => ?_)
    clear hK K
    try simp only [Act.put, List.setIfInBounds_toArray, List.set_cons_zero, List.set_cons_succ]
    refine wpAnyH_ready (rs := [2]) (by kernel_rfl) (by simp) ?_
    refine AllReadyH.cons rfl (fun K hK => ?_) AllReadyH.nil
    refine step_store_blk rfl _ _ _ rfl (cs := zD) (ds := (dCells Ak ck Aw cw s).toList) (by exact Y9) rfl rfl rfl (by kernel_rfl) (dCells_one _ _ _ _ _) ?_
    intro x9 Z9 g9
    have X10 := X9.grown g9 (by intro h; injection h with h; omega)
    have RV10 := RV9.kept Y9 zD_noText g9
    have B10 := B9.trans (below_of_grown g9 B9.size fun b hb => by injection hb with hb; omega)
    refine hK.out _ _ X10 (fun hS => ?_)
    clear hK K
    try simp only [Act.put, List.setIfInBounds_toArray, List.set_cons_zero, List.set_cons_succ]
    refine wpAnyH_done (by kernel_rfl) ?_ _
    go_wp2_with fail
    exact bodyPost_ret (v := .tuple #[.int .i64 1, .agg (dCells Ak ck Aw cw s)]) (results_tmp_row rfl _ _ (g + 1 + 1) 31 _ (0, 0) _ _ rfl rfl Z9 Tryd.underlying31 rfl (by kernel_rfl)) rfl ⟨(1, s), rfl, _, rfl, RV10, B10⟩

theorem rpwrite_any (v : Value) (s : Dv) (F C : Int) (T : Nat) (x : Int) (bs : List Int) (w : World) (h : RDv w v s) (hok : s.Ok) (hl : Lies s F C T) (hx : -9223372036854775808 ≤ x ∧ x ≤ 9223372036854775807) (hbl : bs.length ≤ 1000000) (hof : s.offs ≤ 100000000) (hwr : s.wr ≤ 100000000) :
    Calls Tryd.prog 85 #[v, .agg #[.int .i64 F, .int .i64 C], .int .i64 x, .string (strOfNums bs)] w fun e w' => ∃ r, PWrite s F T x bs r ∧ GivesED r.1 r.2 w e w' := by
  unfold PWrite
  by_cases hm : x.tmod s.size = 0
  · simp only [if_neg (not_not_intro hm)]
    by_cases hin : 0 ≤ x ∧ x ≤ (T : Int) ∧ 0 ≤ (bs.length : Int) ∧ (bs.length : Int) ≤ (T : Int) - x
    · simp only [if_pos hin]
      obtain ⟨b, rfl⟩ : ∃ b : Nat, x = (b : Int) := ⟨x.toNat, by omega⟩
      have hb : b % s.size = 0 := by have h1 : ((b % s.size : Nat) : Int) = 0 := by rw [← hm]; exact Int.ofNat_tmod b s.size
                                     omega
      exact rpwrite_yes v s F C T b bs w h hok hl hbl hof hwr hb (by omega)
    · simp only [if_neg hin]
      have := rpwrite_no v s F C T x bs w h hok hl hx hbl (fun h => hin h.2)
      rw [if_neg (not_not_intro hm)] at this
      exact this
  · simp only [if_pos hm]
    have := rpwrite_no v s F C T x bs w h hok hl hx hbl (fun h => hm h.1)
    rw [if_pos hm] at this
    exact this
end Go.Proofs.YtpnodocjpedcmaaDoor.Pt

namespace Go.Proofs.YtpnodocjpedcmaaDoor.Pt
open Go.ChangeShapes Go.WideShapes Go.ChangeAt Go.RowKit Go.Proofs.YtpnodocjpedcmaaDoor.Kit Go.Proofs.YtpnodocjpedcmaaDoor.Sec

/-- Before a sector is read. -/
structure RGoing (w wr : World) (g : Nat) (F C : Int) (s : Dv) (cs : Array Value) : Prop where
  x : Block wr g 31 cs
  r : Block wr (g + 1) 42 #[.int .i64 F, .int .i64 C]
  v : RDv wr (.agg cs) s
  b : Below w.heap.size w wr
theorem RGoing.below {w wr w' : World} {g : Nat} {F C : Int} {s : Dv} {cs : Array Value} (h : RGoing w wr g F C s cs) (hb : Below wr.heap.size wr w') : RGoing w w' g F C s cs :=
  ⟨h.x.below hb h.x.lt, h.r.below hb h.r.lt, h.v.below hb, h.b.trans (hb.mono h.b.size)⟩
theorem str_zero (s : Dv) (F : Int) (b : Nat) : strOfNums (rowP s F b 0) = ⟨#[]⟩ := rfl

set_option maxRecDepth 100000 in
set_option maxHeartbeats 6400000 in
theorem rpread_yes (v : Value) (s : Dv) (F C : Int) (T b N : Nat) (w : World) (h : RDv w v s) (hok : s.Ok) (hwh : Whole s) (hl : Lies s F C T) (hin : b ≤ T ∧ N ≤ T - b) :
    Calls Tryd.prog 87 #[v, .agg #[.int .i64 F, .int .i64 C], .int .i64 (b : Int), .int .i64 (N : Int)] w fun e w' => ∃ r, ReadsP s F b N r ∧ GivesS r.1 r.2 w e w' := by
  have hT := hl.most hok
  have hs1 := hok.s1
  have hs2 := hok.s2
  have hc1 := hl.c1
  have hf0 := hl.f0
  have hfc := hl.fc
  have hct := hok.c2
  have hCS := hl.t
  have GR := Lib.hid (fun W v i hv => rread_any v s i W hv hok)
  have HWH := Lib.hid hwh
  obtain ⟨Ak, ck, Aw, cw, rfl, hr0⟩ := h
  have G0 : Hid (RGoing w ((w.alloc (.cells (dCells Ak ck Aw cw s) 31)).alloc (.cells #[.int .i64 F, .int .i64 C] 42)) w.heap.size F C s (dCells Ak ck Aw cw s)) := Lib.hid
    ⟨(Block.new w _ _).alloc _, block_two w _ _ _, RDv.below ⟨Ak, ck, Aw, cw, rfl, hr0⟩ (below_two w _ _), below_two w _ _⟩
  have HZ0 : Hid (∀ W g, Block W g 31 (dCells Ak ck Aw cw s) → W.cell? ⟨g, 0, none⟩ = some (.int .i64 (s.size : Int))) := Lib.hid (fun W g hW => hW.cell 0)
  obtain ⟨z, hz⟩ : ∃ z, s.size = z := ⟨_, rfl⟩
  have HZ := Lib.hid hz
  have d1 : decide ((b : Int) < 0) = false := decide_eq_false (by omega)
  have d4 : decide ((N : Int) < 0) = false := decide_eq_false (by omega)
  have d2 : decide (T < b) = false := decide_eq_false (by omega)
  have d3 : decide ((T : Int) - (b : Int) < (N : Int)) = false := decide_eq_false (by omega)
  unfold dCells at G0 HZ0 ⊢
  rw [hz] at hs1 hs2 hCS HZ0 G0 ⊢
  have hzz : ¬ z = 0 := by omega
  clear hr0 hl hok hwh hz
  go_enter Tryd.func87, Tryd.ntmps87
  go_wp2_with fail
  generalize hW3 : (w.alloc _).alloc _ = w3 at *
  generalize hg : w.heap.size = g at G0 ⊢
  have HG := Lib.hid hg
  clear hW3 hg d1 d2 d3 d4
  go_loopw [11, 12] (fun t q wr => ∃ (i k : Nat), (i : Int) ≤ C ∧ k = min N (i * z - b) ∧ q = .int .i64 i ∧ t = .string (strOfNums (rowP s F b k)) ∧ OkP s F b k ∧ RGoing w wr g F C s (dCells Ak ck Aw cw s)) (fun _ q _ => C.toNat - (intOf q).toNat)
  case atStart => exact ⟨0, 0, by omega, by omega, rfl, rfl, fun j hj => absurd hj (by omega), by have := G0.out; unfold dCells; rw [HZ.out]; exact this⟩
  case round =>
    clear G0
    obtain ⟨i, k, hi, hk, rfl, rfl, hok, G⟩ := hrel
    have x0 : wr.cell? ⟨g, 0, none⟩ = some (.int .i64 (z : Int)) := HZ0.out wr g (by have := G.x; unfold dCells at this; rw [HZ.out] at this; exact this)
    have r0 : wr.cell? ⟨g + 1, 0, none⟩ = some (.int .i64 F) := G.r.cell 0
    have r1 : wr.cell? ⟨g + 1, 1, none⟩ = some (.int .i64 C) := G.r.cell 1
    obtain ⟨K, hK⟩ : ∃ K : Nat, i * z = K := ⟨_, rfl⟩
    have hKz : (i : Int) * (z : Int) = (K : Int) := by rw [← hK, Int.natCast_mul]
    have hKz1 : ((i : Int) + 1) * (z : Int) = (K : Int) + (z : Int) := by rw [Int.add_mul, hKz, Int.one_mul]
    have hKT : K ≤ T := by
      have h1 : (i : Int) * (z : Int) ≤ C * (z : Int) := Int.mul_le_mul_of_nonneg_right hi (by omega)
      omega
    rw [hK] at hk
    have XG := Lib.hid G
    have HK := Lib.hid hk
    have HOK := Lib.hid hok
    have HKK := Lib.hid hK
    have hkN : k ≤ N := by omega
    have hi6 : i ≤ 1048576 := by omega
    by_cases hlt : (i : Int) < C
    · have d0 : decide ((i : Int) < C) = true := decide_eq_true hlt
      have hKT1 : K + z ≤ T := by
        have h1 : ((i : Int) + 1) * (z : Int) ≤ C * (z : Int) := Int.mul_le_mul_of_nonneg_right (by omega) (by omega)
        omega
      obtain ⟨lo, hlo⟩ : ∃ lo : Nat, max b K = lo := ⟨_, rfl⟩
      have hlo1 : max (b : Int) (K : Int) = (lo : Int) := by omega
      obtain ⟨hi', hhi⟩ : ∃ hi' : Nat, min (b + N) (K + z) = hi' := ⟨_, rfl⟩
      have hhi1 : min ((b : Int) + (N : Int)) ((K : Int) + (z : Int)) = (hi' : Int) := by omega
      have hKS : (i + 1) * z = K + z := by rw [Nat.add_mul, HKK.out, Nat.one_mul]
      have hb1 : lo ≤ T := by omega
      have hb2 : hi' ≤ T := by omega
      by_cases hc : hi' ≤ lo
      · have d1 : decide (hi' ≤ lo) = true := decide_eq_true hc
        have hk1 : k = min N ((i + 1) * z - b) := by rw [hKS]; omega
        have HK1 := Lib.hid hk1
        clear hk1 hK hk hok hKS hlo hhi G
        go_wp2_with fail
        go_roundw
        case rel => exact ⟨i + 1, k, by omega, HK1.out, by go_num, rfl, HOK.out, XG.out⟩
        case measure => simp [intOf]; omega
      · have d1 : decide (hi' ≤ lo) = false := decide_eq_false hc
        obtain ⟨xs, E, hsec⟩ : ∃ xs E, secP s F (b + k) = (xs, E) := ⟨_, _, rfl⟩
        have hbk : b + k = lo := by omega
        have hdv : (b + k) / z = i := by
          rw [hbk]
          exact Nat.div_eq_of_lt_le (by rw [HKK.out]; omega) (by rw [hKS]; omega)
        have hmd : (b + k) % z = lo - K := by
          have := Nat.div_add_mod (b + k) z
          rw [hdv, Nat.mul_comm, HKK.out] at this
          omega
        have GRD : Hid (∀ W, RDv W (.agg (dCells Ak ck Aw cw s)) s → Calls Tryd.prog 51 #[.agg (dCells Ak ck Aw cw s), .int .i64 (F + (i : Int))] W (GivesS xs E W)) := Lib.hid (fun W hv => by
          have := GR.out W _ (F + (i : Int)) hv
          have e : s.read (F + (i : Int)) = (xs, E) := by
            rw [← hsec]
            unfold secP
            rw [HZ.out, hdv]
          rwa [e] at this)
        have HS := Lib.hid hsec
        obtain ⟨r, hr⟩ : ∃ r : Nat, lo - K = r := ⟨_, rfl⟩
        obtain ⟨m, hm⟩ : ∃ m : Nat, hi' - lo = m := ⟨_, rfl⟩
        have hlr : (lo : Int) - (K : Int) = (r : Int) := by omega
        have hhr : (hi' : Int) - (K : Int) = (r : Int) + (m : Int) := by omega
        have hrm : r + m ≤ z := by omega
        have HM1 : Hid ((b + k) % z = r) := Lib.hid (by rw [hmd, hr])
        have HK1 : Hid (k + m = min N ((i + 1) * z - b)) := Lib.hid (by rw [hKS]; omega)
        have hkm : k < N := by omega
        have HB := Lib.hid (block_range (L := (dCells Ak ck Aw cw s).toList) XG.out.x)
        by_cases hE : E = 0
        · subst hE
          obtain ⟨t1, ht1⟩ : ∃ t1, strOfNums (rowP s F b k) = t1 := ⟨_, rfl⟩
          have ht1z : t1.size = k := by rw [← ht1, strOfNums_size, rowP_length]
          obtain ⟨r2, hr2⟩ : ∃ r2, r + m = r2 := ⟨_, rfl⟩
          have hhr2 : (hi' : Int) - (K : Int) = (r2 : Int) := by omega
          have hxl : xs.length = z := by
            have := (HWH.out (F + ((b + k) / s.size : Nat)) xs HS.out).1
            rwa [HZ.out] at this
          have hcut1 := piece_cut (s := s) (F := F) (p := b + k) (m := m) (xs := xs) (by rw [hxl, HZ.out]) HS.out (by rw [HZ.out, HM1.out]; omega)
          rw [HZ.out, HM1.out, hr2] at hcut1
          have hjoin1 := row_join s F b k m
          have HOK1 := Lib.hid (okP_add (m := m) HOK.out (by rw [HZ.out, HM1.out]; omega) (by rw [HS.out]))
          obtain ⟨S1, hS1⟩ : ∃ S1, strOfNums xs = S1 := ⟨_, rfl⟩
          have hS1z : S1.size = z := by rw [← hS1, strOfNums_size, hxl]
          obtain ⟨P1, hP1⟩ : ∃ P1, strOfNums (rowP s F (b + k) m) = P1 := ⟨_, rfl⟩
          have hP1z : P1.size = m := by rw [← hP1, strOfNums_size, rowP_length]
          rw [hS1, hP1] at hcut1
          rw [hP1, ht1] at hjoin1
          rw [ht1]
          obtain ⟨t2, ht2⟩ : ∃ t2, strOfNums (rowP s F b (k + m)) = t2 := ⟨_, rfl⟩
          rw [ht2] at hjoin1
          have hadd : ∀ W, (Op.stringOp .add t1 P1).run Tryd.prog W = .ok (.string t2) W := fun W => by
            rw [← hjoin1]
            exact run_string_add_sum W t1 P1 (by omega)
          have HT2 := Lib.hid ht2
          have HS1 := Lib.hid hS1
          have hr2z : r2 ≤ z := by omega
          have hrr2 : r ≤ r2 := by omega
          clear hsec hK hk hok hKS hlo hhi G hbk hdv hmd hr hm ht1 hc hxl hS1 hP1 hjoin1 ht2 hhr hr2 hP1z
          go_wp2_with (first
            | (have _t := x0; refine wpList_load_midV (by rfl) _ _ rfl g 0 rfl (dCells Ak ck Aw cw s).toList HB.out Tryd.underlying31 rfl (by kernel_rfl) ?_; clear _t)
            | (go_at_call 51; (with_reducible refine (GRD.out _ XG.out.v).mono ?_); rintro e x1 ⟨rfl, hb1⟩; rw [HS1.out]; have XG1 := Lib.hid (XG.out.below hb1); have y0 : x1.cell? ⟨g, 0, none⟩ = some (.int .i64 (z : Int)) := HZ0.out x1 g (by have := XG1.out.x; unfold dCells at this; rw [HZ.out] at this; exact this); clear x0 r0 r1))
          go_roundw
          case rel => exact ⟨i + 1, k + m, by omega, HK1.out, by go_num, by rw [HT2.out], HOK1.out, XG1.out⟩
          case measure => simp [intOf]; omega
        · have d5 : (E != 0) = true := by simpa using hE
          clear hsec hK hk hok hKS hlo hhi G hbk hdv hmd hr hm hc hhr
          go_wp2_with (first
            | (have _t := x0; refine wpList_load_midV (by rfl) _ _ rfl g 0 rfl (dCells Ak ck Aw cw s).toList HB.out Tryd.underlying31 rfl (by kernel_rfl) ?_; clear _t)
            | (go_at_call 51; (with_reducible refine (GRD.out _ XG.out.v).mono ?_); rintro e x1 ⟨rfl, hb1⟩))
          go_ret2
          exact ⟨([], E), Or.inl ⟨k, hkm, HOK.out, by rw [HS.out]; exact hE, by rw [HS.out]⟩, rfl, (XG.out.below hb1).b⟩
    · have d0 : decide ((i : Int) < C) = false := decide_eq_false hlt
      have hkN2 : k = N := by
        have h1 : (i : Int) = C := by omega
        have h2 : (K : Int) = (T : Int) := by rw [← hKz, h1, hCS]
        omega
      have HKN := Lib.hid hkN2
      clear hK hk hok G hKz hKz1 hkN2 hkN
      go_wp2_with fail
      go_ret2
      exact ⟨rowP s F b N, 0, Or.inr ⟨by rw [← HKN.out]; exact HOK.out, rfl⟩, by rw [HKN.out]; rfl, XG.out.b⟩

set_option maxRecDepth 100000 in
set_option maxHeartbeats 6400000 in
theorem rpread_no (v : Value) (s : Dv) (F C : Int) (T : Nat) (x n : Int) (w : World) (h : RDv w v s) (hok : s.Ok) (hl : Lies s F C T) (hx : -9223372036854775808 ≤ x ∧ x ≤ 9223372036854775807)
    (hno : ¬ (0 ≤ x ∧ x ≤ T ∧ 0 ≤ n ∧ n ≤ T - x)) :
    Calls Tryd.prog 87 #[v, .agg #[.int .i64 F, .int .i64 C], .int .i64 x, .int .i64 n] w (GivesS [] 5 w) := by
  have hT := hl.most hok
  have hs1 := hok.s1
  have hs2 := hok.s2
  have hCS := hl.t
  have HS := Lib.hid str_nil
  have B2 := Lib.hid (fun o p => below_two w o p)
  obtain ⟨Ak, ck, Aw, cw, rfl, hr0⟩ := h
  have h3 : (decide (x < 0) = true) ∨ (decide (x < 0) = false ∧ decide (n < 0) = true) ∨ (decide (x < 0) = false ∧ decide (n < 0) = false ∧ decide ((T : Int) < x) = true) ∨ (decide (x < 0) = false ∧ decide (n < 0) = false ∧ decide ((T : Int) < x) = false ∧ decide ((T : Int) - x < n) = true) := by
    by_cases h1 : x < 0
    · exact Or.inl (decide_eq_true h1)
    · by_cases h4 : n < 0
      · exact Or.inr (Or.inl ⟨decide_eq_false h1, decide_eq_true h4⟩)
      · by_cases h2 : (T : Int) < x
        · exact Or.inr (Or.inr (Or.inl ⟨decide_eq_false h1, decide_eq_false h4, decide_eq_true h2⟩))
        · exact Or.inr (Or.inr (Or.inr ⟨decide_eq_false h1, decide_eq_false h4, decide_eq_false h2, decide_eq_true (by omega)⟩))
  unfold dCells
  clear hr0 hl hok hno
  rcases h3 with d1 | ⟨d1, d2⟩ | ⟨d1, d2, d3⟩ | ⟨d1, d2, d3, d4⟩
  · go_enter Tryd.func87, Tryd.ntmps87
    go_wp2_with fail
    go_ret2
    exact ⟨by rw [HS.out]; rfl, B2.out _ _⟩
  · go_enter Tryd.func87, Tryd.ntmps87
    go_wp2_with fail
    go_ret2
    exact ⟨by rw [HS.out]; rfl, B2.out _ _⟩
  · go_enter Tryd.func87, Tryd.ntmps87
    go_wp2_with fail
    go_ret2
    exact ⟨by rw [HS.out]; rfl, B2.out _ _⟩
  · have hx0 : 0 ≤ x := by have := of_decide_eq_false d1; omega
    have hx1 : x ≤ (T : Int) := by have := of_decide_eq_false d3; omega
    obtain ⟨y, rfl⟩ : ∃ y : Nat, x = (y : Int) := ⟨x.toNat, by omega⟩
    have d3 : decide (T < y) = false := decide_eq_false (by omega)
    clear hx0
    go_enter Tryd.func87, Tryd.ntmps87
    go_wp2_with fail
    go_ret2
    exact ⟨by rw [HS.out]; rfl, B2.out _ _⟩

theorem rpread_any (v : Value) (s : Dv) (F C : Int) (T : Nat) (x n : Int) (w : World) (h : RDv w v s) (hok : s.Ok) (hwh : Whole s) (hl : Lies s F C T) (hx : -9223372036854775808 ≤ x ∧ x ≤ 9223372036854775807) :
    Calls Tryd.prog 87 #[v, .agg #[.int .i64 F, .int .i64 C], .int .i64 x, .int .i64 n] w fun e w' => ∃ r, PRead s F T x n r ∧ GivesS r.1 r.2 w e w' := by
  unfold PRead
  by_cases hin : 0 ≤ x ∧ x ≤ (T : Int) ∧ 0 ≤ n ∧ n ≤ (T : Int) - x
  · simp only [if_pos hin]
    obtain ⟨b, rfl⟩ : ∃ b : Nat, x = (b : Int) := ⟨x.toNat, by omega⟩
    obtain ⟨N, rfl⟩ : ∃ N : Nat, n = (N : Int) := ⟨n.toNat, by omega⟩
    exact rpread_yes v s F C T b N w h hok hwh hl (by omega)
  · simp only [if_neg hin]
    exact (rpread_no v s F C T x n w h hok hl hx hin).mono fun e w' h => ⟨([], 5), rfl, h⟩
end Go.Proofs.YtpnodocjpedcmaaDoor.Pt

namespace Go.Proofs.YtpnodocjpedcmaaDoor.Pt
open Go.ChangeShapes Go.WideShapes Go.ChangeAt Go.RowKit Go.Proofs.YtpnodocjpedcmaaDoor.Kit Go.Proofs.YtpnodocjpedcmaaDoor.Sec

/-- A step: its kind, a place, a number, bytes, picks. -/
structure Step7 where
  k : Int
  x : Int
  n : Int
  A : Option Addr
  cap : Nat
  bs : List Int
  A2 : Option Addr
  cap2 : Nat
  zs : List Int
def Step7.cells (s : Step7) : List Value := [.int .i64 s.k, .int .i64 s.x, .int .i64 s.n, .slice s.A s.bs.length s.cap, .slice s.A2 s.zs.length s.cap2]
/-- How it lies in memory. -/
def StepIn (w : World) (B : Nat) (s : Step7) (cs : List Value) : Prop :=
  cs = s.cells ∧ (Lit.int .i64 s.k).wf = true ∧ (Lit.int .i64 s.x).wf = true ∧ (Lit.int .i64 s.n).wf = true ∧ (s.bs.length ≤ s.cap ∧ s.cap ≤ maxLen ∧ Octets s.bs ∧ Holds w B .u8 s.A s.bs) ∧ (s.zs.length ≤ s.cap2 ∧ s.cap2 ≤ maxLen ∧ Octets s.zs ∧ Holds w B .u8 s.A2 s.zs)
def HoldsQ (w : World) (B : Nat) (A : Option Addr) (ss : List Step7) : Prop := HoldsE (StepIn w B) 5 w B A ss

section
variable {H : Type} {enc : TypeId × Value → H} {P : Program} {w : World} {b0 : Nat}
theorem read_step {t : TypeId} {fs : Array Field} (ht : P.underlying t = some (.struct fs)) (h0 : isInt P fs 0 0 .i64 = true) (h1 : isInt P fs 1 1 .i64 = true) (h2 : isInt P fs 2 2 .i64 = true) (h3 : isBytes P fs 3 3 = true) (h4 : isBytes P fs 4 4 = true)
    (hsz : fs.size = 5) (hc : P.cellsOf t = 5) {n : Nat} {cs : List Value} {y : DataW H × List MemPlace} (h : DataW.trod enc P w 0 (fun _ => true) true n t cs = some y) (hlt : ∀ x ∈ y.2, x.block < w.heap.size) :
    ∃ s : Step7, StepIn w w.heap.size s cs := by
  obtain ⟨xs, m, _, hx, hl, hxl, hg⟩ := DataW.trod_struct ht h
  obtain ⟨f0, e0, o0, s0, u0⟩ := isInt_of h0
  obtain ⟨f1, e1, o1, s1, u1⟩ := isInt_of h1
  obtain ⟨f2, e2, o2, s2, u2⟩ := isInt_of h2
  obtain ⟨f3, ea, e3, o3, s3, u3, ua, ca⟩ := isBytes_of h3
  obtain ⟨f4, e, e4, o4, s4, u4, ue, ce⟩ := isBytes_of h4
  have x0 : xs[0]? = some (xs[0]'(by omega)) := List.getElem?_eq_getElem (by omega)
  have x1 : xs[1]? = some (xs[1]'(by omega)) := List.getElem?_eq_getElem (by omega)
  have x2 : xs[2]? = some (xs[2]'(by omega)) := List.getElem?_eq_getElem (by omega)
  have x3 : xs[3]? = some (xs[3]'(by omega)) := List.getElem?_eq_getElem (by omega)
  have x4 : xs[4]? = some (xs[4]'(by omega)) := List.getElem?_eq_getElem (by omega)
  have g0 := hg 0 f0 e0
  have g1 := hg 1 f1 e1
  have g2 := hg 2 f2 e2
  have g3 := hg 3 f3 e3
  have g4 := hg 4 f4 e4
  rw [o0, s0, x0] at g0
  rw [o1, s1, x1] at g1
  rw [o2, s2, x2] at g2
  rw [o3, s3, x3] at g3
  rw [o4, s4, x4] at g4
  obtain ⟨a, ha, _, wa⟩ := DataW.trod_int u0 g0
  obtain ⟨b, hb, _, wb⟩ := DataW.trod_int u1 g1
  obtain ⟨x, hxx, _, wx⟩ := DataW.trod_int u2 g2
  obtain ⟨A, cap, zs, hs0, r1, r2, r3, r4⟩ := octets_of u3 ua ca g3 (fun p hp => hlt p (by
    have hps : y.2 = xs.flatMap (·.2) := congrArg Prod.snd hx
    rw [hps]
    exact List.mem_flatMap.2 ⟨_, List.getElem_mem _, hp⟩))
  obtain ⟨A2, cap2, zs2, hs, t1, t2, t3, t4⟩ := octets_of u4 ue ce g4 (fun p hp => hlt p (by
    have hps : y.2 = xs.flatMap (·.2) := congrArg Prod.snd hx
    rw [hps]
    exact List.mem_flatMap.2 ⟨_, List.getElem_mem _, hp⟩))
  refine ⟨⟨a, b, x, A, cap, zs, A2, cap2, zs2⟩, ?_, wa, wb, wx, ⟨r1, r2, r3, r4⟩, ⟨t1, t2, t3, t4⟩⟩
  have q0 := get_of_one ha
  have q1 := get_of_one hb
  have q2 := get_of_one hxx
  have q3 := get_of_one hs0
  have q4 := get_of_one hs
  have hl5 : cs.length = 5 := by omega
  match cs, hl5, q0, q1, q2, q3, q4 with
  | [y0, y1, y2, y3, y4], _, q0, q1, q2, q3, q4 =>
    simp at q0 q1 q2 q3 q4
    subst q0 q1 q2 q3 q4
    rfl
/-- A slice of steps that came in. -/
theorem open_steps7 {t e : TypeId} {fs : Array Field} (ht : P.underlying t = some (.slice e)) (he : P.underlying e = some (.struct fs)) (h0 : isInt P fs 0 0 .i64 = true) (h1 : isInt P fs 1 1 .i64 = true) (h2 : isInt P fs 2 2 .i64 = true) (h3 : isBytes P fs 3 3 = true) (h4 : isBytes P fs 4 4 = true)
    (hsz : fs.size = 5) (hc : P.cellsOf e = 5) {v : Value} {d : DataW H} {ps : List MemPlace} (hval : Value.okWide P w .any b0 t v) (h : DataW.Trod enc P w 0 (fun _ => true) true t v d ps) (hlt : ∀ x ∈ ps, x.block < w.heap.size) :
    ∃ (A : Option Addr) (cap : Nat) (ss : List Step7), v = .slice A ss.length cap ∧ ss.length ≤ cap ∧ cap ≤ maxLen ∧ HoldsQ w w.heap.size A ss :=
  open_slice_of (StepIn w w.heap.size) 5 ht hc (by omega) (fun _ _ _ h hp => read_step he h0 h1 h2 h3 h4 hsz hc h hp) hval h hlt
end

/-- The steps at A, element by element. -/
theorem stepAt7 {w : World} {B : Nat} {A : Option Addr} {ss : List Step7} (h : HoldsQ w B A ss) {i : Nat} (hi : i < ss.length) :
    ∃ b off : Nat, A = some ⟨b, off, none⟩ ∧ b < B ∧ w.rangeAt b (off + i * 5) ss[i].cells ∧ (Lit.int .i64 ss[i].k).wf = true ∧ (Lit.int .i64 ss[i].x).wf = true ∧ (Lit.int .i64 ss[i].n).wf = true ∧
      (ss[i].bs.length ≤ ss[i].cap ∧ ss[i].cap ≤ maxLen ∧ Octets ss[i].bs ∧ Holds w B .u8 ss[i].A ss[i].bs) ∧ (ss[i].zs.length ≤ ss[i].cap2 ∧ ss[i].cap2 ≤ maxLen ∧ Octets ss[i].zs ∧ Holds w B .u8 ss[i].A2 ss[i].zs) := by
  obtain ⟨b, off, rfl, hb, hc⟩ := h (by omega)
  obtain ⟨cs, ⟨rfl, r1, r2, r3, r4, r5⟩, _, hcs⟩ := hc i ss[i] (List.getElem?_eq_getElem hi)
  exact ⟨b, off, rfl, hb, fun j c hj => hcs j c hj, r1, r2, r3, r4, r5⟩
theorem HoldsQ.below {w w' : World} {B : Nat} {A : Option Addr} {ss : List Step7} (h : HoldsQ w B A ss) (hb : Below B w w') : HoldsQ w' B A ss :=
  h.keep (fun _ hp => hb.cell hp) fun _ _ ⟨r0, r1, r2, r3, ⟨r4, r5, r6, r7⟩, ⟨t4, t5, t6, t7⟩⟩ => ⟨r0, r1, r2, r3, ⟨r4, r5, r6, r7.below hb⟩, ⟨t4, t5, t6, t7.below hb⟩⟩
end Go.Proofs.YtpnodocjpedcmaaDoor.Pt

namespace Go.Proofs.YtpnodocjpedcmaaDoor.Pt
open Go.ChangeShapes Go.WideShapes Go.ChangeAt Go.RowKit Go.Proofs.YtpnodocjpedcmaaDoor.Kit
open Go.Proofs.YtpnodocjpedcmaaDoor.Sec (Tells)

def bigB (s : Step7) : Bool := decide (2000 < s.bs.length) || decide (60 < s.zs.length)
def greatB (ss : List Step7) : Bool := decide (40 < ss.length) || ss.any bigB
theorem great_no {ss : List Step7} (h : greatB ss = false) : ss.length ≤ 40 ∧ ∀ s ∈ ss, s.bs.length ≤ 2000 ∧ s.zs.length ≤ 60 := by
  unfold greatB at h
  rw [Bool.or_eq_false_iff] at h
  refine ⟨by have := of_decide_eq_false h.1; omega, fun s hs => ?_⟩
  have := (List.any_eq_false.1 h.2 s hs |> Bool.eq_false_iff.2)
  unfold bigB at this
  rw [Bool.or_eq_false_iff] at this
  have h1 := of_decide_eq_false this.1
  have h2 := of_decide_eq_false this.2
  omega

end Go.Proofs.YtpnodocjpedcmaaDoor.Pt

namespace Go.Proofs.YtpnodocjpedcmaaDoor.Sec
open Go.ChangeShapes Go.WideShapes Go.ChangeAt Go.RowKit Go.Proofs.YtpnodocjpedcmaaDoor.Kit

section
variable {w w' : World} {I : Nat → Prop} {a mk mw : Nat} {s : Dv}
theorem DvAt.not_text (h : DvAt w I a mk mw s) {g o : Nat} {z : ByteArray} (hg : w.cell? ⟨g, o, none⟩ = some (.string z)) : ¬ DSet a mk mw g := by
  obtain ⟨cs, t, f, h1, h2⟩ := Sort.cells_of_cell? hg
  rintro (rfl | rfl | rfl)
  · rw [h.blk.cell] at hg
    have := List.mem_of_getElem? (by rw [← Array.getElem?_toList] at hg; exact hg)
    unfold Dv.cells at this
    simp only [List.mem_cons, List.not_mem_nil, or_false] at this
    rcases this with e | e | e | e | e | e | e | e <;> cases e
  · exact h.k.no_row _ _ _ h1
  · exact h.wt.no_row _ _ _ h1
theorem HoldsF.dset (h : DvAt w I a mk mw s) (t : TurnsIn (DSet a mk mw) w w') {B : Nat} {A : Option Addr} {l : Sl} (hf : HoldsF w B A l) (hB : B ≤ w.heap.size) : HoldsF w' B A l := by
  intro hx
  obtain ⟨b, off, e, hb, hc⟩ := hf hx
  refine ⟨b, off, e, hb, fun j p hj i u hu => ?_⟩
  have h1 := hc 0 (l[0]'hx) (List.getElem?_eq_getElem hx) 1 _ rfl
  exact (World.cell?_of_block (w := w) (a := ⟨b, _, none⟩) (t.block b (by omega) (h.not_text h1))).trans (hc j p hj i u hu)
theorem RDv.dset (h : DvAt w I a mk mw s) (t : TurnsIn (DSet a mk mw) w w') {v : Value} {m : Dv} (hr : RDv w v m) : RDv w' v m := by
  obtain ⟨Ak, ck, Aw, cw, e, h1, h2, r⟩ := hr
  exact ⟨Ak, ck, Aw, cw, e, (h1.dset h t (Nat.le_refl _)).more t.size, (h2.dset h t (Nat.le_refl _)).more t.size, r⟩
theorem Block.dset (h : DvAt w I a mk mw s) (t : TurnsIn (DSet a mk mw) w w') {g : Nat} {ty : TypeId} {cs : Array Value} (X : Block w g ty cs) (ht : ty ≠ 91) : Block w' g ty cs := X.out t (h.not_cells X ht)
/-- A block of another type turns, and the device stays. -/
theorem DvAt.beside {g : Nat} {ty : TypeId} {cs : Array Value} (h : DvAt w I a mk mw s) (X : Block w g ty cs) (ht : ty ≠ 91) (hu : ty ≠ 5) (t : TurnsIn (fun b => b = g) w w') : DvAt w' I a mk mw s := by
  have hn := h.not_cells X ht
  exact h.out t (fun e => hn (Or.inl e.symm)) (fun e => hn (Or.inr (Or.inl e.symm))) (fun e => hn (Or.inr (Or.inr e.symm))) (fun b hb _ cs' f e => by
    subst hb
    unfold Block at X
    rw [X] at e
    injection e with e
    injection e with _ e _
    exact hu e)
end

/-- A whole row stays while another block grows. -/
theorem Dev.grown {w0 w w' : World} {a mk mw : Nat} {s : Dv} (h : Dev w0 w a mk mw s) {g : Nat} {ty : TypeId} {cs : Array Value} (X : Block w g ty cs) (ht : ty ≠ 91) (hu : ty ≠ 5) (hg : w0.heap.size ≤ g) (gr : w.grownBy w' (some g)) : Dev w0 w' a mk mw s := by
  have t : TurnsIn (fun b => b = g) w w' := .ofGrown gr fun b hb => by injection hb with hb; exact hb.symm
  exact ⟨h.d.beside X ht hu t, h.b.trans (t.toBelow h.b.size (fun b hb e => by omega)), h.ga, h.gk, h.gw⟩

/-- The document's fuse is set in its box. -/
theorem fuse_row {W : World} {g : Nat} {Ak : Option Addr} {ck : Nat} {Aw : Option Addr} {cw : Nat} {m : Dv} {cs : Array Value} (h : RDv W (.agg #[.int .i64 m.size, .int .i64 m.count, .slice Ak m.kept.length ck, .slice Aw m.waits.length cw, .bool m.off, .int .i64 m.offs, .int .i64 m.fuse, .int .u64 m.wr]) m)
    (X : Block W g 31 cs) (hc : cs = dCells Ak ck Aw cw m) (n : Int) : RDv (W.setCell ⟨g, 6, none⟩ (.int .i64 n)) (.agg (dCells Ak ck Aw cw { m with fuse := n })) { m with fuse := n } := by
  have t : TurnsIn (fun b => b = g) W (W.setCell ⟨g, 6, none⟩ (.int .i64 n)) := TurnsIn.setCell (S := fun b => b = g) (p := ⟨g, 6, none⟩) (TurnsIn.refl _ W) (Or.inl rfl) _
  obtain ⟨Ak2, ck2, Aw2, cw2, e, h1, h2, r⟩ := h.turn X (by rw [hc]; exact dCells_noText _ _ _ _ _) t
  injection e with e
  unfold dCells at e
  simp at e
  obtain ⟨⟨rfl, rfl⟩, rfl, rfl⟩ := e
  exact ⟨Ak, ck, Aw, cw, rfl, h1, h2, r⟩

end Go.Proofs.YtpnodocjpedcmaaDoor.Sec
namespace Go.Proofs.YtpnodocjpedcmaaDoor.Pt
open Go.ChangeShapes Go.WideShapes Go.ChangeAt Go.RowKit Go.Proofs.YtpnodocjpedcmaaDoor.Kit Go.Proofs.YtpnodocjpedcmaaDoor.Sec

theorem pwrite_one {s : Dv} {F : Int} {T : Nat} {x : Int} {bs : List Int} {r t : Int × Dv} (h : PWrite s F T x bs r) (g : PWrite s F T x bs t) : r = t := by
  unfold PWrite at h g
  split at h
  · rw [if_pos (by assumption)] at g
    rw [h, g]
  · rw [if_neg (by assumption)] at g
    split at h
    · rw [if_pos (by assumption)] at g
      exact writes_one h g
    · rw [if_neg (by assumption)] at g
      rw [h, g]
theorem pread_one {s : Dv} {F : Int} {T : Nat} {x n : Int} {r t : List Int × Int} (h : PRead s F T x n r) (g : PRead s F T x n t) : r = t := by
  unfold PRead at h g
  split at h
  · rw [if_pos (by assumption)] at g
    exact reads_one h g
  · rw [if_neg (by assumption)] at g
    rw [h, g]
theorem manyP_le {n : Nat} (hn : 1 ≤ n) (bs : List Int) : manyP n bs ≤ bs.length := by
  unfold manyP
  rw [Nat.div_le_iff_le_mul_add_pred (by omega)]
  have : bs.length * 1 ≤ n * bs.length := by rw [Nat.mul_comm n]; exact Nat.mul_le_mul_left _ hn
  omega
/-- A step moves the counters little, and neither size nor count. -/
def Near (s t : Dv) : Prop := t.offs ≤ s.offs + 2001 ∧ t.wr ≤ s.wr + 2001 ∧ t.size = s.size ∧ t.count = s.count
theorem Near.refl (s : Dv) : Near s s := ⟨by omega, by omega, rfl, rfl⟩
theorem wrS_near2 (s : Dv) (i : Int) (bs : List Int) (k : Nat) (hk : k ≤ 2001) : Near s (wrS s i bs k) := by
  obtain ⟨h1, h2, h3, h4⟩ := wrS_near s i bs k
  exact ⟨by omega, by omega, h3, h4⟩
theorem pwrite_near {s : Dv} {F : Int} {T : Nat} {x : Int} {bs : List Int} {r : Int × Dv} (hs : 1 ≤ s.size) (hb : bs.length ≤ 2000) (h : PWrite s F T x bs r) : Near s r.2 := by
  have hm := manyP_le hs bs
  unfold PWrite at h
  split at h
  · rw [h]
    exact Near.refl s
  · split at h
    · rcases h with ⟨k, hk, _, _, rfl⟩ | ⟨_, rfl⟩
      · exact wrS_near2 s _ bs _ (by omega)
      · exact wrS_near2 s _ bs _ (by omega)
    · rw [h]
      exact Near.refl s
theorem down_near (s : Dv) : s.down.offs ≤ s.offs + 1 ∧ s.down.wr = s.wr ∧ s.down.size = s.size ∧ s.down.count = s.count := by
  unfold Dv.down
  split
  · exact ⟨by omega, rfl, rfl, rfl⟩
  · exact ⟨Int.le_refl _, rfl, rfl, rfl⟩
theorem back_near (s : Dv) (zs : List Int) : Near s (s.back zs) := by
  obtain ⟨h1, h2, h3, h4⟩ := down_near s
  rw [back_form]
  exact ⟨by show s.down.offs ≤ _; omega, by show s.down.wr ≤ _; omega, h3, h4⟩
theorem fused_near (s : Dv) (n : Int) : Near s (s.fused n) := ⟨by show s.offs ≤ _; omega, by show s.wr ≤ _; omega, rfl, rfl⟩
theorem Lies.near {s t : Dv} {F C : Int} {T : Nat} (h : Lies s F C T) (n : Near s t) : Lies t F C T :=
  ⟨h.f0, h.c1, by rw [n.2.2.2]; exact h.fc, by rw [n.2.2.1]; exact h.t⟩

theorem grown_set (w : World) (g i : Nat) (u : Value) : w.grownBy (w.setCell ⟨g, i, none⟩ u) (some g) := by
  have t : TurnsIn (fun b => b = g) w (w.setCell ⟨g, i, none⟩ u) := TurnsIn.setCell (S := fun b => b = g) (p := ⟨g, i, none⟩) (TurnsIn.refl _ w) (Or.inl rfl) u
  exact ⟨t.os, t.tape, t.output, t.size, fun j hj hne => t.block j hj (fun e => hne (by rw [e]))⟩
/-- Between steps: the program's device s, the document's m in a block of the call's own, the part and the region. -/
structure Plays7 (w0 w : World) (a mk mw p g q : Nat) (F C : Int) (s m : Dv) (cs : Array Value) : Prop where
  d : Dev w0 w a mk mw s
  p : PartAt w p a F C
  x : Block w g 31 cs
  y : Block w q 42 #[.int .i64 F, .int .i64 C]
  r : RDv w (.agg cs) m
  g : w0.heap.size ≤ g
section
variable {w0 w w' : World} {a mk mw p g q : Nat} {F C : Int} {s m s' : Dv} {cs cs' : Array Value}
theorem Plays7.below (h : Plays7 w0 w a mk mw p g q F C s m cs) (hb : Below w.heap.size w w') : Plays7 w0 w' a mk mw p g q F C s m cs :=
  ⟨h.d.below hb, h.p.below hb (Block.lt h.p), h.x.below hb h.x.lt, h.y.below hb h.y.lt, h.r.below hb, h.g⟩
theorem Plays7.turn (h : Plays7 w0 w a mk mw p g q F C s m cs) {I : Nat → Prop} (hd : DvAt w' I a mk mw s') (t : TurnsIn (DSet a mk mw) w w') : Plays7 w0 w' a mk mw p g q F C s' m cs :=
  ⟨h.d.turn hd t, Block.dset h.d.d t h.p (by decide), Block.dset h.d.d t h.x (by decide), Block.dset h.d.d t h.y (by decide), RDv.dset h.d.d t h.r, h.g⟩
theorem block_ne {w : World} {g1 g2 : Nat} {t1 t2 : TypeId} {c1 c2 : Array Value} (h1 : Block w g1 t1 c1) (h2 : Block w g2 t2 c2) (ht : t1 ≠ t2) : g1 ≠ g2 := by
  rintro rfl
  unfold Block at h1 h2
  rw [h1] at h2
  injection h2 with h2
  injection h2 with _ e _
  exact ht e
/-- The document's next device is stored into its block. -/
theorem Plays7.store (h : Plays7 w0 w a mk mw p g q F C s m cs) {m' : Dv} (hm : RDv w' (.agg cs') m') (X : Block w' g 31 cs') (gr : w.grownBy w' (some g)) : Plays7 w0 w' a mk mw p g q F C s m' cs' :=
  ⟨h.d.grown h.x (by decide) (by decide) h.g gr, h.p.grown gr (by intro e; injection e with e; exact block_ne h.x h.p (by decide) e), X, h.y.grown gr (by intro e; injection e with e; exact block_ne h.x h.y (by decide) e), hm, h.g⟩
end
end Go.Proofs.YtpnodocjpedcmaaDoor.Pt

namespace Go.Proofs.YtpnodocjpedcmaaDoor.Pt
open Go.ChangeShapes Go.WideShapes Go.ChangeAt Go.RowKit Go.Proofs.YtpnodocjpedcmaaDoor.Kit Go.Proofs.YtpnodocjpedcmaaDoor.Sec

/-- A device that is on and never falls. -/
structure On (s : Dv) : Prop where
  ok : s.Ok
  off : s.off = false
  fuse : s.fuse = -1
theorem On.new {N M : Nat} (h1 : 128 ≤ N) (h2 : N ≤ 4096) (h3 : 1 ≤ M) (h4 : M ≤ 1048576) : On (Dv.new N M) := ⟨Dv.new_ok h1 h2 h3 h4, rfl, rfl⟩
theorem on_write {s : Dv} (h : On s) {i : Int} {xs : List Int} (h0 : 0 ≤ i) (h1 : i < s.count) (hx : xs.length = s.size) :
    (s.write i xs).1 = 0 ∧ On (s.write i xs).2 ∧ (s.write i xs).2.size = s.size ∧ (s.write i xs).2.count = s.count ∧ ∀ j, (s.write i xs).2.read j = if j = i then (xs, 0) else s.read j := by
  have ht : (s.writes i xs).tick = s.writes i xs := by
    unfold Dv.tick
    rw [if_pos (show (s.writes i xs).fuse = -1 from h.fuse)]
  have e : s.write i xs = (0, { s.writes i xs with wr := s.wr + 1 }) := by
    unfold Dv.write
    rw [if_neg (by rw [h.off]; decide), if_neg (by omega), if_neg (fun e => e hx), ht]
    rw [if_neg (by rw [h.fuse]; decide)]
  have hok := write_ok h.ok i xs
  rw [e] at hok ⊢
  refine ⟨rfl, ⟨hok, h.off, h.fuse⟩, rfl, rfl, fun j => ?_⟩
  unfold Dv.read
  have o1 : ({ s.writes i xs with wr := s.wr + 1 } : Dv).off = false := h.off
  have c1 : ({ s.writes i xs with wr := s.wr + 1 } : Dv).count = s.count := rfl
  have k1 : ({ s.writes i xs with wr := s.wr + 1 } : Dv).kept = s.kept := rfl
  have z1 : ({ s.writes i xs with wr := s.wr + 1 } : Dv).size = s.size := rfl
  have w1 : ({ s.writes i xs with wr := s.wr + 1 } : Dv).waits = putS s.waits i (some xs) := rfl
  rw [o1, c1, k1, z1, w1, h.off]
  by_cases hj : j = i
  · subst hj
    rw [if_pos rfl, if_neg (by decide), if_neg (by omega), getS_putS h.ok.wu]
    simp
  · rw [if_neg hj, getS_putS h.ok.wu, if_neg hj]
theorem on_wrS {s : Dv} (h : On s) {i : Int} {bs : List Int} (h0 : 0 ≤ i) : ∀ k : Nat, i + k ≤ s.count →
    OkW s i bs k ∧ On (wrS s i bs k) ∧ (wrS s i bs k).size = s.size ∧ (wrS s i bs k).count = s.count ∧ ∀ j, (wrS s i bs k).read j = if i ≤ j ∧ j < i + k then (chunkP s.size bs (j - i).toNat, 0) else s.read j
  | 0, _ => ⟨fun j hj => absurd hj (by omega), h, rfl, rfl, fun j => by rw [if_neg (by omega)]; rfl⟩
  | k + 1, hk => by
    obtain ⟨a1, a2, a3, a4, a5⟩ := on_wrS h h0 k (by omega)
    obtain ⟨b1, b2, b3, b4, b5⟩ := on_write a2 (i := i + k) (xs := chunkP s.size bs k) (by omega) (by rw [a4]; omega) (by rw [chunkP_length, a3])
    refine ⟨fun j hj => ?_, b2, b3.trans a3, b4.trans a4, fun j => ?_⟩
    · rcases Nat.lt_or_ge j k with hl | hl
      · exact a1 j hl
      · obtain rfl : j = k := by omega
        exact b1
    · show (((wrS s i bs k).write (i + k) (chunkP s.size bs k)).2).read j = _
      rw [b5, a5]
      by_cases e : j = i + k
      · rw [if_pos e, if_pos (by omega), show (j - i).toNat = k by omega]
      · rw [if_neg e]
        by_cases e2 : i ≤ j ∧ j < i + k
        · rw [if_pos e2, if_pos (by omega)]
        · rw [if_neg e2, if_neg (by omega)]
/-- Sectors that are whole are read as they stand. -/
theorem on_reads {s : Dv} {T : Nat} {r : List Int × Int} (h : ∀ p, p < T → (secP s 0 p).2 = 0) (hr : ReadsP s 0 0 T r) : r = (rowP s 0 0 T, 0) := by
  rcases hr with ⟨k, hk, _, h2, _⟩ | ⟨_, e⟩
  · exact absurd (h _ (by omega)) h2
  · exact e
/-- What a written region reads as. -/
def wantB (N F x : Nat) (bs : List Int) (p : Nat) : Int :=
  if F * N + x ≤ p ∧ p < F * N + x + bs.length then bs.getD (p - (F * N + x)) 0 else if F * N + x ≤ p ∧ p < F * N + x + manyP N bs * N then 0 else 201

section
variable {N M : Nat}
theorem fill_read (h1 : 128 ≤ N) (h2 : N ≤ 4096) (h3 : 1 ≤ M) (h4 : M ≤ 1048576) :
    On (wrS (Dv.new N M) 0 (List.replicate (N * M) 201) M) ∧ (wrS (Dv.new N M) 0 (List.replicate (N * M) 201) M).size = N ∧ (wrS (Dv.new N M) 0 (List.replicate (N * M) 201) M).count = M ∧
      ∀ j : Nat, j < M → (wrS (Dv.new N M) 0 (List.replicate (N * M) 201) M).read j = (List.replicate N 201, 0) := by
  obtain ⟨a1, a2, a3, a4, a5⟩ := on_wrS (On.new h1 h2 h3 h4) (i := 0) (bs := List.replicate (N * M) 201) (by omega) M (by show (0 : Int) + (M : Int) ≤ (M : Int); omega)
  refine ⟨a2, a3, a4, fun j hj => ?_⟩
  rw [a5, if_pos (by omega)]
  have e : ((j : Int) - 0).toNat = j := by omega
  rw [e]
  have hs : (Dv.new N M).size = N := rfl
  rw [hs]
  unfold chunkP padB
  rw [List.drop_replicate, List.take_replicate]
  have hjn : N ≤ N * M - j * N := by
    have : (j + 1) * N ≤ M * N := Nat.mul_le_mul_right N hj
    rw [Nat.add_mul, Nat.one_mul, Nat.mul_comm M N] at this
    omega
  rw [Nat.min_eq_left hjn, List.length_replicate, Nat.sub_self]
  simp
theorem fill_many (h1 : 128 ≤ N) : manyP N (List.replicate (N * M) 201) = M := by
  unfold manyP
  rw [List.length_replicate, Nat.mul_comm N M, Nat.add_sub_assoc (by omega), Nat.add_comm, Nat.add_mul_div_right _ _ (by omega), Nat.div_eq_of_lt (by omega)]
  omega
/-- The first write fills the device. -/
theorem fill_writes (h1 : 128 ≤ N) (h2 : N ≤ 4096) (h3 : 1 ≤ M) (h4 : M ≤ 1048576) {r : Int × Dv} (h : PWrite (Dv.new N M) 0 (N * M) 0 (List.replicate (N * M) 201) r) : r = (0, wrS (Dv.new N M) 0 (List.replicate (N * M) 201) M) := by
  have hs : (Dv.new N M).size = N := rfl
  unfold PWrite at h
  rw [hs, if_neg (by simp), if_pos (by rw [List.length_replicate]; omega)] at h
  have hm := fill_many (M := M) h1
  obtain ⟨a1, -, -, -, -⟩ := on_wrS (On.new h1 h2 h3 h4) (i := 0) (bs := List.replicate (N * M) 201) (by omega) M (by show (0 : Int) + (M : Int) ≤ (M : Int); omega)
  have e : (0 : Int) + (((0 : Int).toNat / N : Nat) : Int) = 0 := by simp
  rw [e] at h
  rcases h with ⟨k, hk, _, h5, _⟩ | ⟨_, e⟩
  · rw [hs, hm] at hk
    exact absurd (a1 k hk) h5
  · rw [e, hs, hm]
end

theorem chunkP_getD (n : Nat) (bs : List Int) (k m : Nat) (hm : m < n) : (chunkP n bs k).getD m 0 = if k * n + m < bs.length then bs.getD (k * n + m) 0 else 0 := by
  unfold chunkP padB
  rw [List.getD, List.getD]
  by_cases h : k * n + m < bs.length
  · rw [if_pos h, List.getElem?_append_left (by rw [List.length_take, List.length_drop]; omega), List.getElem?_take, if_pos hm, List.getElem?_drop]
  · rw [if_neg h, List.getElem?_append_right (by rw [List.length_take, List.length_drop]; omega), List.getElem?_replicate]
    split <;> rfl
theorem many_le {n : Nat} (hn : 0 < n) {bs : List Int} {k : Nat} (h : bs.length ≤ k * n) : manyP n bs ≤ k := by
  rcases Nat.lt_or_ge k (manyP n bs) with h1 | h1
  · have := (manyP_iff hn bs k).1 h1
    omega
  · exact h1
section
variable {N M : Nat} {s : Dv}
/-- A device of which each sector can be read. -/
theorem reads_all (hz : s.size = N) (hN : 0 < N) (h : ∀ j : Nat, j < M → (s.read j).2 = 0) {q : List Int × Int} (hq : PRead s 0 (N * M) 0 ((N * M : Nat) : Int) q) : q = (rowP s 0 0 (N * M), 0) := by
  unfold PRead at hq
  rw [if_pos (by omega)] at hq
  refine on_reads (fun p hp => ?_) hq
  unfold secP
  rw [hz, Int.zero_add]
  exact h _ ((Nat.div_lt_iff_lt_mul hN).2 (by rw [Nat.mul_comm]; simpa using hp))
theorem row_getD (p T : Nat) (hp : p < T) : (rowP s 0 0 T).getD p 0 = (s.read ((p / s.size : Nat) : Int)).1.getD (p % s.size) 0 := by
  unfold rowP
  rw [List.getD, List.getElem?_map, List.getElem?_range hp]
  simp [byteP, secP]
theorem back_reads {F C x : Int} {T : Nat} {bs : List Int} (hN : 128 ≤ N) (hon : On s) (hz : s.size = N) (hc : s.count = M) (hr : ∀ j : Nat, j < M → s.read j = (List.replicate N 201, 0)) (hl : Lies s F C T)
    {r : Int × Dv} (h : PWrite s F T x bs r) {q : List Int × Int} (hq : PRead r.2 0 (N * M) 0 ((N * M : Nat) : Int) q) :
    (r.1 ≠ 0 ∧ q = (List.replicate (N * M) 201, 0)) ∨ (r.1 = 0 ∧ 0 ≤ x ∧ x + bs.length ≤ T ∧ q.2 = 0 ∧ q.1.length = N * M ∧ ∀ p, p < N * M → q.1.getD p 0 = wantB N F.toNat x.toNat bs p) := by
  have hfill : ∀ {r2 : Dv}, r2 = s → PRead r2 0 (N * M) 0 ((N * M : Nat) : Int) q → q = (List.replicate (N * M) 201, 0) := by
    rintro r2 rfl hq
    rw [reads_all hz (by omega) (fun j hj => by rw [hr j hj]) hq]
    congr 1
    apply List.ext_getElem
    · rw [rowP_length, List.length_replicate]
    · intro p h1 h2
      rw [rowP_length] at h1
      have e := row_getD (s := r2) p (N * M) h1
      rw [List.getD, List.getElem?_eq_getElem (by rw [rowP_length]; exact h1)] at e
      rw [List.getElem_replicate]
      refine (show _ = _ from e).trans ?_
      rw [hz, hr _ ((Nat.div_lt_iff_lt_mul (by omega)).2 (by rw [Nat.mul_comm]; exact h1)), List.getD, List.getElem?_replicate, if_pos (Nat.mod_lt _ (by omega))]
      rfl
  unfold PWrite at h
  rw [hz] at h
  split at h
  · rw [h] at hq ⊢
    exact Or.inl ⟨by show (1 : Int) ≠ 0; decide, hfill rfl hq⟩
  rename_i hm
  split at h
  · rename_i hin
    right
    obtain ⟨X, rfl⟩ : ∃ X : Nat, x = (X : Int) := ⟨x.toNat, by omega⟩
    obtain ⟨f, rfl⟩ : ∃ f : Nat, F = (f : Int) := ⟨F.toNat, by have := hl.f0; omega⟩
    rw [Int.toNat_natCast] at h
    rw [Int.toNat_natCast, Int.toNat_natCast]
    have hXm : X % N = 0 := by
      have h1 : ((X % N : Nat) : Int) = 0 := by rw [Int.ofNat_tmod]; exact Decidable.not_not.1 hm
      omega
    have hXN : X / N * N = X := by have := Nat.div_add_mod X N; rw [hXm, Nat.mul_comm] at this; omega
    obtain ⟨Q, hQ⟩ : ∃ Q, X / N = Q := ⟨_, rfl⟩
    rw [hQ] at hXN h
    obtain ⟨c, rfl⟩ : ∃ c : Nat, C = (c : Int) := ⟨C.toNat, by have := hl.c1; omega⟩
    have ht : c * N = T := by have := hl.t; rw [hz] at this; exact_mod_cast this
    have hfc : f + c ≤ M := by have := hl.fc; rw [hc] at this; exact_mod_cast this
    have hcx : Q ≤ c := by
      rcases Nat.lt_or_ge c Q with h1 | h1
      · have : (c + 1) * N ≤ Q * N := Nat.mul_le_mul_right N h1
        rw [Nat.add_mul, Nat.one_mul] at this
        omega
      · exact h1
    have hmany : manyP N bs ≤ c - Q := many_le (by omega) (by rw [Nat.sub_mul, hXN, ht]; omega)
    obtain ⟨a1, a2, a3, a4, a5⟩ := on_wrS hon (i := (f : Int) + (Q : Int)) (bs := bs) (by omega) (manyP N bs) (by rw [hc]; omega)
    have he : r = (0, wrS s ((f : Int) + (Q : Int)) bs (manyP N bs)) := by
      rcases h with ⟨k, hk, _, h5, _⟩ | ⟨_, e⟩
      · rw [hz] at hk
        exact absurd (a1 k hk) h5
      · rw [e, hz]
    rw [he] at hq ⊢
    have hq2 := reads_all (s := wrS s ((f : Int) + (Q : Int)) bs (manyP N bs)) (a3.trans hz) (by omega) (fun j hj => by
      rw [a5]
      split
      · rfl
      · rw [hr j hj]) hq
    rw [hq2]
    refine ⟨rfl, by omega, by omega, rfl, rowP_length _ _ _ _, fun p hp => ?_⟩
    show (rowP _ 0 0 (N * M)).getD p 0 = _
    rw [row_getD p (N * M) hp, a3.trans hz, a5, hz]
    have hpj : p / N < M := (Nat.div_lt_iff_lt_mul (by omega)).2 (by rw [Nat.mul_comm]; exact hp)
    have hdm := Nat.div_add_mod p N
    have hpm := Nat.mod_lt p (show 0 < N by omega)
    obtain ⟨I, hI⟩ : ∃ I, f + Q = I := ⟨_, rfl⟩
    have hIN : f * N + X = I * N := by rw [← hI, Nat.add_mul, hXN]
    have hiI : (f : Int) + (Q : Int) = (I : Int) := by omega
    rw [hiI]
    unfold wantB
    rw [hIN]
    obtain ⟨j, hj⟩ : ∃ j, p / N = j := ⟨_, rfl⟩
    rw [hj] at hpj hdm ⊢
    rw [Nat.mul_comm] at hdm
    by_cases hin2 : I ≤ j ∧ j < I + manyP N bs
    · rw [if_pos (by omega)]
      show (chunkP N bs ((j : Int) - (I : Int)).toNat).getD (p % N) 0 = _
      obtain ⟨k, rfl⟩ : ∃ k, j = I + k := ⟨j - I, by omega⟩
      rw [show (((I + k : Nat) : Int) - (I : Int)).toNat = k by omega, chunkP_getD N bs k _ hpm]
      have e1 : (I + k) * N = I * N + k * N := Nat.add_mul _ _ _
      rw [e1] at hdm
      have e2 : k * N + p % N = p - I * N := by omega
      have e3 : k * N + p % N < manyP N bs * N := by
        have : (k + 1) * N ≤ manyP N bs * N := Nat.mul_le_mul_right N (by omega)
        rw [Nat.add_mul, Nat.one_mul] at this
        omega
      rw [e2]
      by_cases hl2 : p - I * N < bs.length
      · rw [if_pos hl2, if_pos (by omega)]
      · rw [if_neg hl2, if_neg (by omega), if_pos (by omega)]
    · rw [if_neg (by omega), hr j hpj]
      show (List.replicate N (201 : Int)).getD (p % N) 0 = _
      rw [List.getD, List.getElem?_replicate, if_pos hpm]
      have hb : bs.length ≤ manyP N bs * N := by
        rcases Nat.lt_or_ge (manyP N bs * N) bs.length with h1 | h1
        · exact absurd ((manyP_iff (by omega) bs _).2 h1) (Nat.lt_irrefl _)
        · exact h1
      rcases Nat.lt_or_ge j I with h1 | h1
      · have : (j + 1) * N ≤ I * N := Nat.mul_le_mul_right N h1
        rw [Nat.add_mul, Nat.one_mul] at this
        rw [if_neg (by omega), if_neg (by omega)]
        rfl
      · have h2 : I + manyP N bs ≤ j := by omega
        have : (I + manyP N bs) * N ≤ j * N := Nat.mul_le_mul_right N h2
        rw [Nat.add_mul] at this
        rw [if_neg (by omega), if_neg (by omega)]
        rfl
  · rw [h] at hq ⊢
    exact Or.inl ⟨by show (5 : Int) ≠ 0; decide, hfill rfl hq⟩
end
end Go.Proofs.YtpnodocjpedcmaaDoor.Pt

namespace Go.Proofs.YtpnodocjpedcmaaDoor.Im
open Go.ChangeShapes Go.WideShapes Go.ChangeAt Go.RowKit Go.Proofs.YtpnodocjpedcmaaDoor.Kit Go.Proofs.YtpnodocjpedcmaaDoor.Sec Go.Proofs.YtpnodocjpedcmaaDoor.Pt

theorem okP_join {s : Dv} {F : Int} {a m : Nat} (h : OkP s F 0 a) (g : OkP s F a m) : OkP s F 0 (a + m) := by
  intro j hj
  rcases Nat.lt_or_ge j a with hl | hl
  · exact h j hl
  · have := g (j - a) (by omega)
    rwa [show a + (j - a) = 0 + j by omega] at this
theorem okP_none (s : Dv) (F : Int) (a : Nat) : OkP s F a 0 := fun j hj => absurd hj (by omega)
/-- A piece that can't be read tells what all of it tells. -/
theorem reads_bad {s : Dv} {F : Int} {a m n : Nat} {r : List Int × Int} (h : OkP s F 0 a) (hr : ReadsP s F a m r) (h0 : r.2 ≠ 0) (hn : a + m ≤ n) : ReadsP s F 0 n ([], r.2) := by
  rcases hr with ⟨k, hk, h1, h2, rfl⟩ | ⟨_, rfl⟩
  · refine Or.inl ⟨a + k, by omega, okP_join h h1, ?_, ?_⟩
    · rw [show 0 + (a + k) = a + k by omega]; exact h2
    · rw [show 0 + (a + k) = a + k by omega]
  · exact absurd rfl h0
/-- A piece that is read. -/
theorem reads_good {s : Dv} {F : Int} {a m : Nat} {r : List Int × Int} (h : OkP s F 0 a) (hr : ReadsP s F a m r) (h0 : r.2 = 0) : r = (rowP s F a m, 0) ∧ OkP s F 0 (a + m) ∧ rowP s F 0 (a + m) = rowP s F 0 a ++ r.1 := by
  rcases hr with ⟨k, _, _, h2, rfl⟩ | ⟨h1, rfl⟩
  · exact absurd h0 h2
  · refine ⟨rfl, okP_join h h1, ?_⟩
    have := rowP_add s F 0 a m
    rwa [Nat.zero_add] at this
theorem pread_in {s : Dv} {F : Int} {T : Nat} {a m : Nat} {r : List Int × Int} (h : PRead s F T a m r) (hT : a + m ≤ T) : ReadsP s F a m r := by
  unfold PRead at h
  rw [if_pos (by omega)] at h
  exact h
/-- What all of it tells, as an answer of bytes and an error. -/
def WholeP (s : Dv) (F : Int) (n : Nat) : List Int × Int → Prop := ReadsP s F 0 n
theorem whole_done {s : Dv} {F : Int} {n : Nat} (h : OkP s F 0 n) : ReadsP s F 0 n (rowP s F 0 n, 0) := Or.inr ⟨h, rfl⟩
end Go.Proofs.YtpnodocjpedcmaaDoor.Im

namespace Go.Proofs.YtpnodocjpedcmaaDoor.Jr
open Go.ChangeShapes Go.WideShapes Go.ChangeAt Go.RowKit Go.Proofs.YtpnodocjpedcmaaDoor.Kit Go.Proofs.YtpnodocjpedcmaaDoor.Oct

/-- A number of m bytes at a place. -/
def numA (xs : List Int) (at_ m : Nat) : Int := val ((xs.drop at_).take m)

set_option maxRecDepth 100000 in
set_option maxHeartbeats 1600000 in
theorem next_any (gb ga : Nat) (A : Option Addr) (xs : List Int) (c at_ m : Nat) (w : World) (hn : xs.length ≤ 1000000) (hl : xs.length ≤ c) (hm : 1 ≤ m ∧ m ≤ 8) (h : at_ + m ≤ xs.length) (ho : Octets xs) (hr : Holds w w.heap.size .u8 A xs)
    (hb : w.cell? ⟨gb, 0, none⟩ = some (.slice A xs.length c)) (ha : w.cell? ⟨ga, 0, none⟩ = some (.int .i64 at_)) (hf : w.frozen? ⟨ga, 0, none⟩ = false) :
    Calls Tryd.prog 78 #[.int .i64 m, .pointer (some ⟨gb, 0, none⟩), .pointer (some ⟨ga, 0, none⟩)] w fun e w' => e = .returned (.int .u64 (numA xs at_ m)) ∧ w' = w.setCell ⟨ga, 0, none⟩ (.int .i64 ((at_ + m : Nat) : Int)) := by
  have G := Lib.hid (get_any A xs c at_ m w.heap.size w hn hl hm h ho hr)
  have hs : Hid ((at_ : Int) + (m : Int) = ((at_ + m : Nat) : Int)) := Lib.hid (by omega)
  have hbd : (at_ : Int) + (m : Int) ≤ 1000000 := by omega
  unfold numA
  generalize val ((xs.drop at_).take m) = V at *
  go_enter Tryd.func78, Tryd.ntmps78
  go_wp2_with (go_at_call 79; (with_reducible refine G.out.mono ?_); rintro e w1 ⟨rfl, rfl⟩)
  go_ret
  exact ⟨rfl, by rw [← hs.out]⟩

set_option maxRecDepth 100000 in
set_option maxHeartbeats 1600000 in
theorem rnext_any (A : Option Addr) (xs : List Int) (c at_ m : Nat) (w : World) (hn : xs.length ≤ 1000000) (hl : xs.length ≤ c) (hm : 1 ≤ m ∧ m ≤ 8) (h : at_ + m ≤ xs.length) (ho : Octets xs) (hr : Holds w w.heap.size .u8 A xs) :
    Calls Tryd.prog 82 #[.slice A xs.length c, .int .i64 at_, .int .i64 m] w fun e w' => e = .returned (.int .u64 (numA xs at_ m)) ∧ w = w' := by
  have G := Lib.hid (rget_any A xs c at_ m w.heap.size w hn hl hm h ho hr)
  unfold numA
  generalize val ((xs.drop at_).take m) = V at *
  go_enter Tryd.func82, Tryd.ntmps82
  go_wp2_with (go_at_call 101; (with_reducible refine G.out.mono ?_); rintro e w1 ⟨rfl, rfl⟩)
  go_ret
  exact ⟨rfl, rfl⟩

theorem may_chain (r : Rec) : r.may = (decide (r.act < 2) && (decide (r.st < 4) && (decide (r.md < 4) && (inB r.len && (inB r.nl && (inB r.dn && (inB r.blk && inB r.asz))))))) := by
  unfold Rec.may
  have e1 : decide (r.act ≤ 1 ∧ r.st ≤ 3 ∧ r.md ≤ 3) = (decide (r.act < 2) && (decide (r.st < 4) && decide (r.md < 4))) := by
    by_cases h1 : r.act < 2 <;> by_cases h2 : r.st < 4 <;> by_cases h3 : r.md < 4 <;> simp [h1, h2, h3] <;> omega
  rw [e1]
  simp [Bool.and_assoc]

set_option maxRecDepth 100000 in
set_option maxHeartbeats 6400000 in
theorem rmay_any (r : Rec) (hr : r.Ok) (w : World) : Calls Tryd.prog 22 #[.agg r.cells.toArray] w fun e w' => e = .returned (.bool r.may) ∧ Below w.heap.size w w' := by
  have B1 := below_last w (.cells r.cells.toArray 50)
  have R1 : RecAt (w.alloc (.cells r.cells.toArray 50)) w.heap.size r := Block.new w _ _
  obtain ⟨f0, f1, f2, f3, f4, f5⟩ := R1.front
  obtain ⟨k0, k1, k2, k3, k4, k5⟩ := R1.back hr.man
  have HM := Lib.hid (may_chain r)
  have G4 := Lib.hid (fun W => rin_any r.len W)
  have G5 := Lib.hid (fun W => rin_any r.nl W)
  have G6 := Lib.hid (fun W => rin_any r.dn W)
  have G7 := Lib.hid (fun W => rin_any r.blk W)
  have G8 := Lib.hid (fun W => rin_any r.asz W)
  obtain ⟨b1, d1⟩ : ∃ b : Bool, decide (r.act < 2) = b := ⟨_, rfl⟩
  obtain ⟨b2, d2⟩ : ∃ b : Bool, decide (r.st < 4) = b := ⟨_, rfl⟩
  obtain ⟨b3, d3⟩ : ∃ b : Bool, decide (r.md < 4) = b := ⟨_, rfl⟩
  rw [d1, d2, d3] at HM
  generalize inB r.len = b4 at *
  generalize inB r.nl = b5 at *
  generalize inB r.dn = b6 at *
  generalize inB r.blk = b7 at *
  generalize inB r.asz = b8 at *
  generalize r.may = res at *
  generalize hlen : r.len = len at *
  generalize hnl : r.nl = nl at *
  generalize hdn : r.dn = dn at *
  generalize hblk : r.blk = blk at *
  generalize hasz : r.asz = asz at *
  generalize hst : r.st = st at *
  generalize hmd : r.md = md at *
  generalize hact : r.act = act at *
  clear hlen hnl hdn hblk hasz hst hmd hact R1 hr f0 f2 k0 k3
  generalize hC : r.cells.toArray = cs at *
  clear hC
  generalize hW : w.alloc (.cells cs 50) = w1 at *
  cases b1 with
  | false =>
    go_enter Tryd.func22, Tryd.ntmps22
    go_wp2_with (first
      | (go_at_call 55; (with_reducible refine (G4.out _).mono ?_); rintro e w2 ⟨rfl, rfl⟩)
      | (go_at_call 55; (with_reducible refine (G5.out _).mono ?_); rintro e w2 ⟨rfl, rfl⟩)
      | (go_at_call 55; (with_reducible refine (G6.out _).mono ?_); rintro e w2 ⟨rfl, rfl⟩)
      | (go_at_call 55; (with_reducible refine (G7.out _).mono ?_); rintro e w2 ⟨rfl, rfl⟩)
      | (go_at_call 55; (with_reducible refine (G8.out _).mono ?_); rintro e w2 ⟨rfl, rfl⟩))
    go_ret
    exact ⟨by rw [HM.out]; rfl, B1⟩
  | true =>
    cases b2 with
    | false =>
      go_enter Tryd.func22, Tryd.ntmps22
      go_wp2_with (first
        | (go_at_call 55; (with_reducible refine (G4.out _).mono ?_); rintro e w2 ⟨rfl, rfl⟩)
        | (go_at_call 55; (with_reducible refine (G5.out _).mono ?_); rintro e w2 ⟨rfl, rfl⟩)
        | (go_at_call 55; (with_reducible refine (G6.out _).mono ?_); rintro e w2 ⟨rfl, rfl⟩)
        | (go_at_call 55; (with_reducible refine (G7.out _).mono ?_); rintro e w2 ⟨rfl, rfl⟩)
        | (go_at_call 55; (with_reducible refine (G8.out _).mono ?_); rintro e w2 ⟨rfl, rfl⟩))
      go_ret
      exact ⟨by rw [HM.out]; rfl, B1⟩
    | true =>
      cases b3 with
      | false =>
        go_enter Tryd.func22, Tryd.ntmps22
        go_wp2_with (first
          | (go_at_call 55; (with_reducible refine (G4.out _).mono ?_); rintro e w2 ⟨rfl, rfl⟩)
          | (go_at_call 55; (with_reducible refine (G5.out _).mono ?_); rintro e w2 ⟨rfl, rfl⟩)
          | (go_at_call 55; (with_reducible refine (G6.out _).mono ?_); rintro e w2 ⟨rfl, rfl⟩)
          | (go_at_call 55; (with_reducible refine (G7.out _).mono ?_); rintro e w2 ⟨rfl, rfl⟩)
          | (go_at_call 55; (with_reducible refine (G8.out _).mono ?_); rintro e w2 ⟨rfl, rfl⟩))
        go_ret
        exact ⟨by rw [HM.out]; rfl, B1⟩
      | true =>
        cases b4 with
        | false =>
          go_enter Tryd.func22, Tryd.ntmps22
          go_wp2_with (first
            | (go_at_call 55; (with_reducible refine (G4.out _).mono ?_); rintro e w2 ⟨rfl, rfl⟩)
            | (go_at_call 55; (with_reducible refine (G5.out _).mono ?_); rintro e w2 ⟨rfl, rfl⟩)
            | (go_at_call 55; (with_reducible refine (G6.out _).mono ?_); rintro e w2 ⟨rfl, rfl⟩)
            | (go_at_call 55; (with_reducible refine (G7.out _).mono ?_); rintro e w2 ⟨rfl, rfl⟩)
            | (go_at_call 55; (with_reducible refine (G8.out _).mono ?_); rintro e w2 ⟨rfl, rfl⟩))
          go_ret
          exact ⟨by rw [HM.out]; rfl, B1⟩
        | true =>
          cases b5 with
          | false =>
            go_enter Tryd.func22, Tryd.ntmps22
            go_wp2_with (first
              | (go_at_call 55; (with_reducible refine (G4.out _).mono ?_); rintro e w2 ⟨rfl, rfl⟩)
              | (go_at_call 55; (with_reducible refine (G5.out _).mono ?_); rintro e w2 ⟨rfl, rfl⟩)
              | (go_at_call 55; (with_reducible refine (G6.out _).mono ?_); rintro e w2 ⟨rfl, rfl⟩)
              | (go_at_call 55; (with_reducible refine (G7.out _).mono ?_); rintro e w2 ⟨rfl, rfl⟩)
              | (go_at_call 55; (with_reducible refine (G8.out _).mono ?_); rintro e w2 ⟨rfl, rfl⟩))
            go_ret
            exact ⟨by rw [HM.out]; rfl, B1⟩
          | true =>
            cases b6 with
            | false =>
              go_enter Tryd.func22, Tryd.ntmps22
              go_wp2_with (first
                | (go_at_call 55; (with_reducible refine (G4.out _).mono ?_); rintro e w2 ⟨rfl, rfl⟩)
                | (go_at_call 55; (with_reducible refine (G5.out _).mono ?_); rintro e w2 ⟨rfl, rfl⟩)
                | (go_at_call 55; (with_reducible refine (G6.out _).mono ?_); rintro e w2 ⟨rfl, rfl⟩)
                | (go_at_call 55; (with_reducible refine (G7.out _).mono ?_); rintro e w2 ⟨rfl, rfl⟩)
                | (go_at_call 55; (with_reducible refine (G8.out _).mono ?_); rintro e w2 ⟨rfl, rfl⟩))
              go_ret
              exact ⟨by rw [HM.out]; rfl, B1⟩
            | true =>
              cases b7 with
              | false =>
                go_enter Tryd.func22, Tryd.ntmps22
                go_wp2_with (first
                  | (go_at_call 55; (with_reducible refine (G4.out _).mono ?_); rintro e w2 ⟨rfl, rfl⟩)
                  | (go_at_call 55; (with_reducible refine (G5.out _).mono ?_); rintro e w2 ⟨rfl, rfl⟩)
                  | (go_at_call 55; (with_reducible refine (G6.out _).mono ?_); rintro e w2 ⟨rfl, rfl⟩)
                  | (go_at_call 55; (with_reducible refine (G7.out _).mono ?_); rintro e w2 ⟨rfl, rfl⟩)
                  | (go_at_call 55; (with_reducible refine (G8.out _).mono ?_); rintro e w2 ⟨rfl, rfl⟩))
                go_ret
                exact ⟨by rw [HM.out]; rfl, B1⟩
              | true =>
                go_enter Tryd.func22, Tryd.ntmps22
                go_wp2_with (first
                  | (go_at_call 55; (with_reducible refine (G4.out _).mono ?_); rintro e w2 ⟨rfl, rfl⟩)
                  | (go_at_call 55; (with_reducible refine (G5.out _).mono ?_); rintro e w2 ⟨rfl, rfl⟩)
                  | (go_at_call 55; (with_reducible refine (G6.out _).mono ?_); rintro e w2 ⟨rfl, rfl⟩)
                  | (go_at_call 55; (with_reducible refine (G7.out _).mono ?_); rintro e w2 ⟨rfl, rfl⟩)
                  | (go_at_call 55; (with_reducible refine (G8.out _).mono ?_); rintro e w2 ⟨rfl, rfl⟩))
                go_ret
                exact ⟨by rw [HM.out]; rfl, B1⟩
end Go.Proofs.YtpnodocjpedcmaaDoor.Jr

namespace Go.Proofs.YtpnodocjpedcmaaDoor.Jr
open Go.ChangeShapes Go.WideShapes Go.ChangeAt Go.RowKit Go.Proofs.YtpnodocjpedcmaaDoor.Kit Go.Proofs.YtpnodocjpedcmaaDoor.Oct Go.Proofs.YtpnodocjpedcmaaDoor.Sha

def rec0 : Rec := ⟨0, 0, 0, 0, 0, 0, List.replicate 32 0, 0, 0, 0, 0, 0, 0⟩
theorem rec0_ok : rec0.Ok := by
  refine ⟨?_, ?_, ?_, ?_, ?_, ?_, rfl, ?_, ?_, ?_, ?_, ?_, ?_, ?_⟩
  case refine_7 => intro x hx; have := List.eq_of_mem_replicate hx; omega
  all_goals (unfold rec0; simp only; omega)
theorem rec0_may : rec0.may = true := by decide
theorem rec0_put : rec0.putV.length = 99 ∧ rec0.putE = 0 := by
  have h : rec0.putV = rec0.putL := if_pos rec0_may
  refine ⟨?_, if_pos rec0_may⟩
  rw [h]
  unfold Rec.putL
  rw [List.length_append, List.length_take, sumL_length, (rec0.q_length rfl).2.2.2.2.2.2.2.2.2]
  rfl

theorem wpList_build_known {P : Program} {w : World} {ops : Array Oper} {rest : List Oper} {o : Oper} {a : Act} {Q : Exit → Act → World → Prop} (hgd : o.guard = none) (ty : TypeId) (parts : Array (Nat × Operand)) (ho : o.op = .build ty parts)
    (V : Value) (hrun : ∀ W, (Instr.build ty (parts.map fun (i, x) => (i, a.eval x))).run P W = .ok V W) (h : wpList P ops Q rest (a.put o.dst V) w) : wpList P ops Q (o :: rest) a w := by
  refine wpList_plain hgd fun K hK => ?_
  unfold Oper.wp
  simp only [execOp, ho, Sem.run_bind, Sem.run_pure]
  rw [hrun]
  exact hK _ _ h

/-- A whole block is stored over. -/
theorem wpList_store_blk {P : Program} {w : World} {ops : Array Oper} {rest : List Oper} {o : Oper} {a : Act} {Q : Exit → Act → World → Prop} (hgd : o.guard = none) (ty : TypeId) (x y : Operand) (ho : o.op = .store ty x y)
    {g : Nat} {t : TypeId} {cs : Array Value} {ds : List Value} (h : Block w g t cs) (hx : a.eval x = .pointer (some ⟨g, 0, none⟩)) (hy : a.eval y = .agg ds.toArray) (hl : ds.length = cs.size) (hi : (P.info? ty).map (·.size) = some ds.length) (hone : ∀ u ∈ ds, u.oneCell' = true)
    (hK : ∀ w', Block w' g t ds.toArray → w.grownBy w' (some g) → wpList P ops Q rest (a.put o.dst undef) w') : wpList P ops Q (o :: rest) a w := by
  refine wpList_store_mid hgd ty x y ho g 0 ds.toArray hx hy ?_ (by simpa using hi) (all_oneCell_toArray hone) ?_
  · intro j hj
    have hj' : j < cs.size := by simpa [hl] using hj
    exact ⟨by rw [Nat.zero_add, h.cell, Array.getElem?_eq_getElem hj']; rfl, by rw [Nat.zero_add]; exact h.frozen j⟩
  · refine hK _ ?_ (setCells_grown g _ 0 w)
    have := setCells_block ds 0 w _ h (by omega)
    have e : (cs.toList.take 0 ++ (ds ++ cs.toList.drop (0 + ds.length))).toArray = ds.toArray := by
      rw [List.drop_of_length_le (by simp [hl])]
      simp
    rw [e] at this
    simpa using this

theorem Rec.cells_one (r : Rec) : ∀ u ∈ r.cells, u.oneCell' = true := by
  intro u hu
  unfold Rec.cells at hu
  simp only [List.mem_cons, List.mem_append, List.mem_map, List.not_mem_nil, or_false] at hu
  rcases hu with rfl | rfl | rfl | rfl | rfl | rfl | ⟨z, _, rfl⟩ | rfl | rfl | rfl | rfl | rfl | rfl <;> rfl

/-- == on records, where a guard may stand. -/
theorem wpList_eql_rec {w : World} {ops : Array Oper} {rest : List Oper} {o : Oper} {a : Act} {Q : Exit → Act → World → Prop} (hw : Region.wanted o (yielded ops a.tmps) = true) (x y : Operand) (tt : TypeId) (ho : o.op = .binOp .eql 50 x y tt)
    {r s : Array Value} {b : Bool} (hx : a.eval x = .agg r) (hy : a.eval y = .agg s) (hrun : ∀ W, (binOp .eql 50 (.agg r) (.agg s)).run Tryd.prog W = .ok (.bool b) W) (hK : wpList Tryd.prog ops Q rest (a.put o.dst (.bool b)) w) : wpList Tryd.prog ops Q (o :: rest) a w :=
  wpList_step fun K hK' => by
    rw [if_pos hw]
    have h2 : (eqGuard .eql 50 x y (.agg r) (.agg s)).run Tryd.prog w = .ok () w := run_eqGuard_agg w .eql 50 x y _ _ (by kernel_rfl)
    unfold Oper.wp execOp
    simp only [ho, hx, hy, Sem.run_bind, Sem.run_pure, h2, Result.andThen_ok, hrun]
    exact hK' _ _ hK
theorem eql_zero (W : World) : (binOp .eql 50 (.agg rec0.cells.toArray) (.agg rec0.cells.toArray)).run Tryd.prog W = .ok (.bool true) W := by kernel_rfl
theorem zero_build (W : World) : (Instr.build 50 #[]).run Tryd.prog W = .ok (.agg rec0.cells.toArray) W := by kernel_rfl

set_option maxRecDepth 100000 in
set_option maxHeartbeats 1600000 in
theorem awake_any (w : World) (hL : LaidS w) : Calls Tryd.prog 9 #[] w fun e w' => e = .returned (.bool true) ∧ Below w.heap.size w w' := by
  have GS := jput_any rec0 rec0_ok w hL
  obtain ⟨h1, h2⟩ := rec0_put
  rw [h2] at GS
  generalize rec0.putV = P at *
  have HB := Lib.hid zero_build
  have GS := Lib.hid GS
  have HP := Lib.hid h1
  obtain ⟨L, hLL⟩ : ∃ L, rec0.cells = L := ⟨_, rfl⟩
  rw [hLL] at HB GS
  clear hLL h1 h2
  go_enter Tryd.func9, Tryd.ntmps9
  go_wp2_with (first
    | (refine wpList_build_known rfl _ _ rfl (.agg L.toArray) ?_ ?_; (intro W; have hw9 := HB.out W; simpa [Act.eval] using hw9))
    | (go_at_call 40; (refine GS.out.mono ?_); rintro e w2 ⟨A, c, rfl, hl, hm, hr, hb⟩; rw [HP.out]))
  go_ret
  exact ⟨rfl, hb⟩

set_option maxRecDepth 100000 in
set_option maxHeartbeats 1600000 in
theorem last_nil (w : World) : Calls Tryd.prog 18 #[.pointer none] w fun e w' => e = .returned (.agg rec0.cells.toArray) ∧ Below w.heap.size w w' := by
  have HB := Lib.hid zero_build
  have r0 : Block (w.alloc (.cells rec0.cells.toArray 50)) w.heap.size 50 rec0.cells.toArray := Block.new w _ _
  have hb0 := below_last w (.cells rec0.cells.toArray 50)
  have HL := Lib.hid (rec0.cells_length rfl)
  have HO := Lib.hid rec0.cells_one
  go_enter Tryd.func18, Tryd.ntmps18
  go_wp2_with (first
    | (refine wpList_build_known rfl _ _ rfl (.agg rec0.cells.toArray) ?_ ?_; (intro W; have hw9 := HB.out W; simpa [Act.eval] using hw9))
    | (have _t := r0; refine wpList_store_blk rfl _ _ _ rfl (ds := rec0.cells) r0 rfl rfl (by simp) (by rw [HL.out]; kernel_rfl) HO.out ?_; intro w9 r9 g9))
  refine bodyPost_ret (v := .agg rec0.cells.toArray) (results_cell_row rfl _ _ w.heap.size 50 _ (0, 0) _ rfl r9 Tryd.underlying50 rfl (by rw [show rec0.cells.toArray.size = 44 from HL.out]; kernel_rfl)) rfl ⟨rfl, ?_⟩
  exact hb0.trans (below_of_grown g9 hb0.size fun b hb => by injection hb with hb; omega)

set_option maxRecDepth 100000 in
set_option maxHeartbeats 1600000 in
theorem write_nil (r : Rec) (w : World) : Calls Tryd.prog 21 #[.pointer none, .agg r.cells.toArray] w fun e w' => e = .returned (.int .i64 1) ∧ Below w.heap.size w w' := by
  have B1 := below_last w (.cells r.cells.toArray 50)
  generalize r.cells.toArray = Z at *
  go_enter Tryd.func21, Tryd.ntmps21
  go_wp2_with fail
  go_ret
  exact ⟨rfl, B1⟩
end Go.Proofs.YtpnodocjpedcmaaDoor.Jr

namespace Go.Proofs.YtpnodocjpedcmaaDoor.Jr
open Go.ChangeShapes Go.WideShapes Go.ChangeAt Go.RowKit Go.Proofs.YtpnodocjpedcmaaDoor.Kit Go.Proofs.YtpnodocjpedcmaaDoor.Oct

/-- Behind p bytes: the slice's box, the result's block, the place's own. -/
structure St (w W : World) (ga : Nat) (A : Option Addr) (c : Nat) (xs : List Int) (p : Nat) : Prop where
  box : Block W w.heap.size 22 #[.slice A xs.length c]
  none_ : Block W (w.heap.size + 1) 50 rec0.cells.toArray
  at_ : Block W ga 3 #[.int .i64 (p : Int)]
  bel : Below w.heap.size w W
  big : w.heap.size + 2 ≤ ga

theorem St.alloc {w W : World} {ga : Nat} {A : Option Addr} {c : Nat} {xs : List Int} {p : Nat} (S : St w W ga A c xs p) (o : Obj) : St w (W.alloc o) ga A c xs p :=
  ⟨S.box.alloc o, S.none_.alloc o, S.at_.alloc o, S.bel.alloc S.bel.size o, S.big⟩
theorem St.grown {w W W' : World} {ga g : Nat} {A : Option Addr} {c : Nat} {xs : List Int} {p : Nat} (S : St w W ga A c xs p) (h : W.grownBy W' (some g)) (hg : w.heap.size + 2 ≤ g) (hne : g ≠ ga) : St w W' ga A c xs p :=
  ⟨S.box.grown h (by intro e; injection e with e; omega), S.none_.grown h (by intro e; injection e with e; omega), S.at_.grown h (by intro e; injection e with e; exact hne e), S.bel.trans (below_of_grown h S.bel.size fun b hb => by injection hb with hb; omega), S.big⟩
theorem St.far {w W : World} {ga g i : Nat} {A : Option Addr} {c : Nat} {xs : List Int} {p : Nat} (S : St w W ga A c xs p) (hg : w.heap.size + 2 ≤ g) (hne : g ≠ ga) (u : Value) : St w (W.setCell ⟨g, i, none⟩ u) ga A c xs p :=
  ⟨S.box.far (by show _ ≠ g; omega) u, S.none_.far (by show _ ≠ g; omega) u, S.at_.far (by show ga ≠ g; exact fun e => hne e.symm) u,
    S.bel.trans ⟨rfl, rfl, rfl, by simp [World.setCell], fun b hb => Below.heap_setCell W ⟨g, i, none⟩ u b (by show b ≠ g; omega)⟩, S.big⟩
theorem St.moved {w W : World} {ga : Nat} {A : Option Addr} {c : Nat} {xs : List Int} {p : Nat} (S : St w W ga A c xs p) (q : Nat) : St w (W.setCell ⟨ga, 0, none⟩ (.int .i64 (q : Int))) ga A c xs q :=
  ⟨S.box.far (by show _ ≠ ga; have := S.big; omega) _, S.none_.far (by show _ ≠ ga; have := S.big; omega) _, by have := S.at_.set_ 0 (.int .i64 (q : Int)); simpa using this,
    S.bel.trans ⟨rfl, rfl, rfl, by simp [World.setCell], fun b hb => Below.heap_setCell W ⟨ga, 0, none⟩ _ b (by show b ≠ ga; have := S.big; omega)⟩, S.big⟩

/-- All other blocks stay. -/
def Stays (ga : Nat) (W W' : World) : Prop := (∀ g t cs, g ≠ ga → Block W g t cs → Block W' g t cs) ∧ W'.heap.size = W.heap.size

theorem next_st {w W : World} {ga : Nat} {A : Option Addr} {c : Nat} {xs : List Int} {p : Nat} (m : Nat) (S : St w W ga A c xs p) (hm : 1 ≤ m ∧ m ≤ 8) (h : p + m ≤ xs.length) (hl : xs.length ≤ 1000) (hc : xs.length ≤ c) (ho : Octets xs) (hr : Holds w w.heap.size .u8 A xs) :
    Calls Tryd.prog 78 #[.int .i64 m, .pointer (some ⟨w.heap.size, 0, none⟩), .pointer (some ⟨ga, 0, none⟩)] W fun e w' => e = .returned (.int .u64 (numA xs p m)) ∧ St w w' ga A c xs (p + m) ∧ Stays ga W w' := by
  refine (next_any w.heap.size ga A xs c p m W (by omega) hc hm h ho ((hr.below S.bel).more S.bel.size) (S.box.cell 0) (S.at_.cell 0) (S.at_.frozen 0)).mono ?_
  rintro e w' ⟨rfl, rfl⟩
  exact ⟨rfl, S.moved (p + m), fun g t cs hg hb => hb.far (by show g ≠ ga; exact hg) _, by simp [World.setCell]⟩

theorem numA_one (xs : List Int) (p : Nat) (h : p < xs.length) : numA xs p 1 = xs.getD p 0 := by
  unfold numA
  have e : (xs.drop p).take 1 = [xs.getD p 0] := by
    rw [List.drop_eq_getElem_cons h, List.take_succ_cons, List.take_zero]
    simp [List.getD, List.getElem?_eq_getElem h]
  rw [e]
  simp [val]
theorem numA_four (xs : List Int) (p : Nat) (ho : Octets xs) (h : p + 4 ≤ xs.length) : 0 ≤ numA xs p 4 ∧ numA xs p 4 < 4294967296 := by
  have := val_bd (xs.drop p) (ho.tail p) 4 (by simp; omega)
  unfold numA
  rwa [show (256 : Int) ^ 4 = 4294967296 from rfl] at this

set_option maxRecDepth 100000 in
/-- The record's first six fields, built. -/
theorem build_mid (a b c d e f : Int) (W : World) : (Instr.build 50 #[(0, .int .u64 a), (1, .int .u8 b), (2, .int .u64 c), (3, .int .i64 d), (4, .int .u8 e), (5, .int .u8 f)]).run Tryd.prog W = .ok (.agg (Rec.mk a b c d e f (List.replicate 32 0) 0 0 0 0 0 0).cells.toArray) W := by kernel_rfl
theorem cells_set38 (r : Rec) (h : r.man.length = 32) (v : Int) : r.cells.toArray.setIfInBounds 38 (.int .u64 v) = ({ r with nv := v } : Rec).cells.toArray := by
  match hm : r.man, h with
  | [a0, a1, a2, a3, a4, a5, a6, a7, a8, a9, a10, a11, a12, a13, a14, a15, a16, a17, a18, a19, a20, a21, a22, a23, a24, a25, a26, a27, a28, a29, a30, a31], _ => simp [Rec.cells, hm]
theorem cells_set39 (r : Rec) (h : r.man.length = 32) (v : Int) : r.cells.toArray.setIfInBounds 39 (.int .i64 v) = ({ r with nl := v } : Rec).cells.toArray := by
  match hm : r.man, h with
  | [a0, a1, a2, a3, a4, a5, a6, a7, a8, a9, a10, a11, a12, a13, a14, a15, a16, a17, a18, a19, a20, a21, a22, a23, a24, a25, a26, a27, a28, a29, a30, a31], _ => simp [Rec.cells, hm]
theorem cells_set40 (r : Rec) (h : r.man.length = 32) (v : Int) : r.cells.toArray.setIfInBounds 40 (.int .i64 v) = ({ r with dn := v } : Rec).cells.toArray := by
  match hm : r.man, h with
  | [a0, a1, a2, a3, a4, a5, a6, a7, a8, a9, a10, a11, a12, a13, a14, a15, a16, a17, a18, a19, a20, a21, a22, a23, a24, a25, a26, a27, a28, a29, a30, a31], _ => simp [Rec.cells, hm]
theorem cells_set41 (r : Rec) (h : r.man.length = 32) (v : Int) : r.cells.toArray.setIfInBounds 41 (.int .u64 v) = ({ r with at_ := v } : Rec).cells.toArray := by
  match hm : r.man, h with
  | [a0, a1, a2, a3, a4, a5, a6, a7, a8, a9, a10, a11, a12, a13, a14, a15, a16, a17, a18, a19, a20, a21, a22, a23, a24, a25, a26, a27, a28, a29, a30, a31], _ => simp [Rec.cells, hm]
theorem cells_set42 (r : Rec) (h : r.man.length = 32) (v : Int) : r.cells.toArray.setIfInBounds 42 (.int .i64 v) = ({ r with blk := v } : Rec).cells.toArray := by
  match hm : r.man, h with
  | [a0, a1, a2, a3, a4, a5, a6, a7, a8, a9, a10, a11, a12, a13, a14, a15, a16, a17, a18, a19, a20, a21, a22, a23, a24, a25, a26, a27, a28, a29, a30, a31], _ => simp [Rec.cells, hm]
theorem cells_set43 (r : Rec) (h : r.man.length = 32) (v : Int) : r.cells.toArray.setIfInBounds 43 (.int .i64 v) = ({ r with asz := v } : Rec).cells.toArray := by
  match hm : r.man, h with
  | [a0, a1, a2, a3, a4, a5, a6, a7, a8, a9, a10, a11, a12, a13, a14, a15, a16, a17, a18, a19, a20, a21, a22, a23, a24, a25, a26, a27, a28, a29, a30, a31], _ => simp [Rec.cells, hm]
theorem cells_man (r : Rec) (h : r.man.length = 32) (ys : List Int) (hy : ys.length = 32) : (r.cells.take 6 ++ (ys.map (Value.int .u8) ++ r.cells.drop (6 + ys.length))) = ({ r with man := ys } : Rec).cells := by
  match hm : r.man, h with
  | [a0, a1, a2, a3, a4, a5, a6, a7, a8, a9, a10, a11, a12, a13, a14, a15, a16, a17, a18, a19, a20, a21, a22, a23, a24, a25, a26, a27, a28, a29, a30, a31], _ => simp [Rec.cells, hm, hy]
theorem numA_eight (xs : List Int) (p : Nat) (ho : Octets xs) (h : p + 8 ≤ xs.length) : 0 ≤ numA xs p 8 ∧ numA xs p 8 < 18446744073709551616 := val_lt8 (xs.drop p) (ho.tail p) 8 (by simp; omega) (by omega)
end Go.Proofs.YtpnodocjpedcmaaDoor.Jr

namespace Go.Proofs.YtpnodocjpedcmaaDoor.Jr
open Go.ChangeShapes Go.WideShapes Go.ChangeAt Go.RowKit Go.Proofs.YtpnodocjpedcmaaDoor.Kit Go.Proofs.YtpnodocjpedcmaaDoor.Oct

theorem cells_byte (a b c d e f : Int) (m : List Int) (g h i j k l : Int) (n : Nat) (hn : n < m.length) (v : Int) :
    (Rec.mk a b c d e f m g h i j k l).cells.toArray.setIfInBounds (6 + n) (.int .u8 v) = (Rec.mk a b c d e f (m.set n v) g h i j k l).cells.toArray := by
  rw [List.setIfInBounds_toArray]
  unfold Rec.cells
  simp only
  rw [show 6 + n = n + 1 + 1 + 1 + 1 + 1 + 1 by omega]
  simp only [List.set_cons_succ]
  rw [List.set_append_left _ _ (by simpa using hn), List.map_set]
theorem cells_at (a b c d e f : Int) (m : List Int) (g h i j k l : Int) (n : Nat) (hn : n < m.length) :
    (Rec.mk a b c d e f m g h i j k l).cells.toArray[6 + n]? = some (.int .u8 (m.getD n 0)) := by
  rw [List.getElem?_toArray, show 6 + n = n + 1 + 1 + 1 + 1 + 1 + 1 by omega]
  unfold Rec.cells
  simp only [List.getElem?_cons_succ]
  rw [List.getElem?_append_left (by simpa using hn), List.getElem?_map, List.getElem?_eq_getElem hn]
  simp [List.getD, List.getElem?_eq_getElem hn]
/-- The sum's first n bytes, zeros behind. -/
def manL (xs : List Int) (n : Nat) : List Int := (xs.drop 27).take n ++ List.replicate (32 - n) 0
theorem manL_length (xs : List Int) (n : Nat) (h : n ≤ 32) (hl : 99 ≤ xs.length) : (manL xs n).length = 32 := by
  unfold manL
  rw [List.length_append, List.length_take, List.length_drop, List.length_replicate]
  omega
theorem manL_set (xs : List Int) (n : Nat) (h : n < 32) (hl : 99 ≤ xs.length) : (manL xs n).set n (xs.getD (27 + n) 0) = manL xs (n + 1) := by
  unfold manL
  have l1 : ((xs.drop 27).take n).length = n := by rw [List.length_take, List.length_drop]; omega
  rw [List.set_append_right _ _ (by omega), l1, Nat.sub_self]
  rw [show 32 - n = (32 - (n + 1)) + 1 by omega, List.replicate_succ, List.set_cons_zero]
  rw [List.take_succ_eq_append_getElem (by rw [List.length_drop]; omega), List.append_assoc]
  congr 1
  rw [List.getElem_drop]
  simp [List.getD, List.getElem?_eq_getElem (show 27 + n < xs.length by omega)]
theorem manL_zero (xs : List Int) : manL xs 0 = List.replicate 32 0 := by simp [manL]
theorem manL_all (xs : List Int) : manL xs 32 = (xs.drop 27).take 32 := by simp [manL]
end Go.Proofs.YtpnodocjpedcmaaDoor.Jr

namespace Go.Proofs.YtpnodocjpedcmaaDoor.Jr
open Go.ChangeShapes Go.WideShapes Go.ChangeAt Go.RowKit Go.Proofs.YtpnodocjpedcmaaDoor.Kit Go.Proofs.YtpnodocjpedcmaaDoor.Oct

theorem arr_same (xs : List Int) (h : xs.length = 32) (w : World) : (Op.equalIn 9999 48 (.agg (xs.map (Value.int .u8)).toArray) (.agg (xs.map (Value.int .u8)).toArray)).run Tryd.prog w = .ok true w := by
  have h1 := run_equalIn_array (P := Tryd.prog) (w := w) (t := 48) 9998 (xs.map (Value.int .u8)).toArray (xs.map (Value.int .u8)).toArray (n := xs.length) (e := 5) (by rw [h]; exact Tryd.underlying48) (Option.eq_some_of_isSome (by kernel_rfl))
  have h2 := run_eqItems_ints (P := Tryd.prog) (w := w) (e := 5) (k := .u8) (k' := .u8) 9997 (by kernel_rfl) Tryd.underlying5 (by kernel_rfl) xs xs (List.range xs.length) (fun j hj => by have := List.mem_range.1 hj; omega)
  have e1 : decide (∀ j ∈ List.range xs.length, xs[j]?.getD 0 = xs[j]?.getD 0) = true := decide_eq_true fun _ _ => rfl
  rw [e1] at h2
  rw [h2] at h1
  exact h1

set_option maxRecDepth 100000 in
set_option maxHeartbeats 3200000 in
theorem eql_same (r : Rec) (h : r.man.length = 32) (W : World) : (binOp .eql 50 (.agg r.cells.toArray) (.agg r.cells.toArray)).run Tryd.prog W = .ok (.bool true) W := by
  match hm : r.man, h with
  | [a0, a1, a2, a3, a4, a5, a6, a7, a8, a9, a10, a11, a12, a13, a14, a15, a16, a17, a18, a19, a20, a21, a22, a23, a24, a25, a26, a27, a28, a29, a30, a31], _ =>
    have hE := arr_same [a0, a1, a2, a3, a4, a5, a6, a7, a8, a9, a10, a11, a12, a13, a14, a15, a16, a17, a18, a19, a20, a21, a22, a23, a24, a25, a26, a27, a28, a29, a30, a31] rfl W
    simp only [List.map_cons, List.map_nil] at hE
    unfold Rec.cells
    rw [hm]
    simp only [List.map_cons, List.map_nil, List.cons_append, List.nil_append]
    go_simp
end Go.Proofs.YtpnodocjpedcmaaDoor.Jr

namespace Go.Proofs.YtpnodocjpedcmaaDoor.Im
open Go.ChangeShapes Go.WideShapes Go.ChangeAt Go.RowKit Go.Proofs.YtpnodocjpedcmaaDoor.Kit Go.Proofs.YtpnodocjpedcmaaDoor.Sec Go.Proofs.YtpnodocjpedcmaaDoor.Pt

/-- A device that stays on, whose sectors are all whole. -/
structure AllOn (s : Dv) (N M : Nat) : Prop where
  on : On s
  z : s.size = N
  c : s.count = M
  r : ∀ j : Int, 0 ≤ j → j < M → (s.read j).2 = 0
theorem AllOn.new {N M : Nat} (h1 : 128 ≤ N) (h2 : N ≤ 4096) (h3 : 1 ≤ M) (h4 : M ≤ 1048576) : AllOn (Dv.new N M) N M := by
  refine ⟨On.new h1 h2 h3 h4, rfl, rfl, fun j h0 hj => ?_⟩
  unfold Dv.read
  have e1 : (Dv.new N M).off = false := rfl
  have e2 : (Dv.new N M).count = M := rfl
  have e3 : (Dv.new N M).waits = [] := rfl
  have e4 : (Dv.new N M).kept = [] := rfl
  rw [e1, e2, e3, e4, if_neg (by decide), if_neg (by omega)]
  rfl
theorem AllOn.write {s : Dv} {N M : Nat} (h : AllOn s N M) {j : Nat} {bs : List Int} (hj : j + manyP N bs ≤ M) {r : Int × Dv} (hr : WritesP s j bs r) :
    r.1 = 0 ∧ AllOn r.2 N M ∧ ∀ t : Int, r.2.read t = if (j : Int) ≤ t ∧ t < j + manyP N bs then (chunkP N bs (t - j).toNat, 0) else s.read t := by
  have hz := h.z
  have hc := h.c
  obtain ⟨a1, a2, a3, a4, a5⟩ := on_wrS h.on (i := (j : Int)) (bs := bs) (by omega) (manyP N bs) (by rw [hc]; omega)
  have hres : r = (0, wrS s j bs (manyP N bs)) := by
    rcases hr with ⟨k, hk, _, h2, _⟩ | ⟨_, e⟩
    · rw [hz] at hk
      exact absurd (a1 k hk) h2
    · rw [hz] at e
      exact e
  subst hres
  have hread : ∀ t : Int, (wrS s j bs (manyP N bs)).read t = if (j : Int) ≤ t ∧ t < j + manyP N bs then (chunkP N bs (t - j).toNat, 0) else s.read t := fun t => by
    rw [a5 t, hz]
  refine ⟨rfl, ⟨a2, a3.trans hz, a4.trans hc, fun t h0 ht => ?_⟩, hread⟩
  show ((wrS s j bs (manyP N bs)).read t).2 = 0
  rw [hread t]
  split
  · rfl
  · exact h.r t h0 ht
theorem AllOn.reads {s : Dv} {N M F C a n : Nat} (h : AllOn s N M) (hN : 0 < N) (hF : F + C ≤ M) (ha : a + n ≤ C * N) {r : List Int × Int} (hr : ReadsP s F a n r) : r = (rowP s F a n, 0) := by
  rcases hr with ⟨k, hk, _, h2, _⟩ | ⟨_, e⟩
  · refine absurd ?_ h2
    unfold secP
    rw [h.z]
    have hd : (a + k) / N < C := Nat.div_lt_of_lt_mul (by rw [Nat.mul_comm]; omega)
    generalize (a + k) / N = d at *
    exact h.r _ (by omega) (by omega)
  · exact e
theorem row_same {s s' : Dv} {N F C a n : Nat} (hz : s.size = N) (hz' : s'.size = N) (_ : 0 < N) (ha : a + n ≤ C * N) (h : ∀ t : Int, (F : Int) ≤ t → t < F + C → s.read t = s'.read t) : rowP s F a n = rowP s' F a n := by
  unfold rowP
  refine List.map_congr_left fun j hj => ?_
  have hj := List.mem_range.1 hj
  unfold byteP secP
  rw [hz, hz']
  have hd : (a + j) / N < C := Nat.div_lt_of_lt_mul (by rw [Nat.mul_comm]; omega)
  have key := h ((F : Int) + ((a + j) / N : Nat)) (by generalize (a + j) / N = d at *; omega) (by generalize (a + j) / N = d at *; omega)
  rw [key]
theorem row_is {s : Dv} {N F a : Nat} {bs : List Int} (hz : s.size = N) (h : ∀ j, j < bs.length → s.read ((F : Int) + ((a + j) / N : Nat)) = (chunkP N bs (j / N), 0) ∧ (a + j) % N = j % N) (hN : 0 < N) : rowP s F a bs.length = bs := by
  apply List.ext_getElem
  · rw [rowP_length]
  · intro j h1 h2
    have e : (rowP s F a bs.length)[j]'h1 = byteP s F (a + j) := by simp [rowP]
    rw [e]
    unfold byteP secP
    obtain ⟨q1, q2⟩ := h j h2
    rw [hz, q1, q2]
    show (chunkP N bs (j / N)).getD (j % N) 0 = bs[j]
    rw [chunkP_getD N bs (j / N) (j % N) (Nat.mod_lt _ hN)]
    have hd : j / N * N + j % N = j := by rw [Nat.mul_comm]; exact Nat.div_add_mod j N
    rw [hd, if_pos h2, List.getD, List.getElem?_eq_getElem h2]
    rfl
/-- Where a block's bytes stand. -/
theorem block_at {N q k j : Nat} (hN : 0 < N) : (k * (q * N) + j) / N = k * q + j / N ∧ (k * (q * N) + j) % N = j % N := by
  have e : k * (q * N) + j = j + (k * q) * N := by rw [Nat.mul_assoc]; omega
  rw [e]
  exact ⟨by rw [Nat.add_mul_div_right _ _ hN]; omega, Nat.add_mul_mod_self_right _ _ _⟩

/-- What is put is seen in its slot alone, and what is kept aside is aside alone. -/
theorem apart {N M q sl k F F' : Nat} {bs cs : List Int} {s0 : Dv} (h : AllOn s0 N M) (hN : 0 < N) (hq : 1 ≤ q) (hk : k < sl) (hM : 2 + q + sl * q + sl * q ≤ M)
    (hF : (F = 2 + q ∧ F' = 2 + q + sl * q) ∨ (F = 2 + q + sl * q ∧ F' = 2 + q)) (hb : bs.length ≤ q * N) (ha : cs.length ≤ q * N)
    {r1 r2 : Int × Dv} (h1 : PWrite s0 F (sl * q * N) ((k * (q * N) : Nat) : Int) bs r1) (h2 : PWrite r1.2 2 (q * N) 0 cs r2) :
    (∀ r r', ReadsP s0 F' 0 (sl * q * N) r → ReadsP r2.2 F' 0 (sl * q * N) r' → r = r' ∧ r.2 = 0) ∧
    (∀ r, PRead r2.2 F (sl * q * N) ((k * (q * N) : Nat) : Int) bs.length r → r = (bs, 0)) ∧ (∀ r, PRead r2.2 2 (q * N) 0 cs.length r → r = (cs, 0)) := by
  have hkq : k * (q * N) + q * N ≤ sl * q * N := by
    have : (k + 1) * (q * N) ≤ sl * (q * N) := Nat.mul_le_mul_right _ hk
    rw [Nat.mul_assoc]
    rw [Nat.add_mul, Nat.one_mul] at this
    exact this
  have hkq2 : k * q + q ≤ sl * q := by
    have : (k + 1) * q ≤ sl * q := Nat.mul_le_mul_right _ hk
    rwa [Nat.add_mul, Nat.one_mul] at this
  have hmb : manyP N bs ≤ q := many_le hN hb
  have hma : manyP N cs ≤ q := many_le hN ha
  unfold PWrite at h1
  rw [h.z] at h1
  have htm : (((k * (q * N) : Nat) : Int)).tmod (N : Int) = 0 := by
    rw [← Nat.mul_assoc]
    show Int.tmod ((k * q * N : Nat) : Int) (N : Int) = 0
    rw [Int.natCast_mul]
    exact Int.mul_tmod_left _ _
  rw [if_neg (by rw [htm]; decide), if_pos (by omega)] at h1
  have hst : (((k * (q * N) : Nat) : Int)).toNat / N = k * q := by
    rw [Int.toNat_natCast]
    have := (block_at (q := q) (k := k) (j := 0) hN).1
    simpa using this
  rw [hst] at h1
  have h1' : WritesP s0 ((F + k * q : Nat) : Int) bs r1 := by rw [Int.natCast_add]; exact h1
  obtain ⟨e1, on1, rd1⟩ := h.write (j := F + k * q) (by omega) h1'
  unfold PWrite at h2
  rw [on1.z, if_neg (by rw [Int.zero_tmod]; decide), if_pos (by omega)] at h2
  have hst0 : (0 : Int).toNat / N = 0 := Nat.zero_div _
  rw [hst0] at h2
  have h2' : WritesP r1.2 ((2 : Nat) : Int) cs r2 := by simpa using h2
  obtain ⟨e2, on2, rd2⟩ := on1.write (j := 2) (by omega) h2'
  refine ⟨fun r r' hr hr' => ?_, fun r hr => ?_, fun r hr => ?_⟩
  · have g1 := h.reads (C := sl * q) hN (by omega) (by omega) hr
    have g2 := on2.reads (C := sl * q) hN (by omega) (by omega) hr'
    have g3 : rowP s0 F' 0 (sl * q * N) = rowP r2.2 F' 0 (sl * q * N) := row_same (C := sl * q) h.z on2.z hN (by omega) fun t h0 ht => by
      rw [rd2 t, if_neg (by omega), rd1 t, if_neg (by omega)]
    rw [g1, g2, g3]
    exact ⟨rfl, rfl⟩
  · have g0 := pread_in (a := k * (q * N)) (m := bs.length) hr (by omega)
    have g1 := on2.reads (C := sl * q) hN (by omega) (by omega) g0
    rw [g1, row_is on2.z (fun j hj => ?_) hN]
    obtain ⟨b1, b2⟩ := block_at (q := q) (k := k) (j := j) hN
    refine ⟨?_, b2⟩
    have hjm : j / N < manyP N bs := by
      rw [manyP_iff hN]
      exact Nat.lt_of_le_of_lt (Nat.div_mul_le_self j N) hj
    rw [b1]
    clear b1 b2 hst h1 hkq
    generalize j / N = d at *
    generalize k * q = e at *
    generalize sl * q = f at *
    rw [rd2, if_neg (by omega), rd1, if_pos (by omega)]
    have : ((F : Int) + ((e + d : Nat) : Int) - ((F + e : Nat) : Int)).toNat = d := by omega
    rw [this]
  · have g0 := pread_in (F := 2) (a := 0) (m := cs.length) (by simpa using hr) (by omega)
    have g0' : ReadsP r2.2 ((2 : Nat) : Int) 0 cs.length r := by simpa using g0
    have g1 := on2.reads (C := q) hN (by omega) (by omega) g0'
    rw [g1, row_is on2.z (fun j hj => ?_) hN]
    have hjm : j / N < manyP N cs := by
      rw [manyP_iff hN]
      exact Nat.lt_of_le_of_lt (Nat.div_mul_le_self j N) hj
    refine ⟨?_, by rw [Nat.zero_add]⟩
    rw [Nat.zero_add]
    generalize j / N = d at *
    rw [rd2, if_pos (by omega)]
    have : (((2 : Nat) : Int) + ((d : Nat) : Int) - ((2 : Nat) : Int)).toNat = d := by omega
    rw [this]
end Go.Proofs.YtpnodocjpedcmaaDoor.Im
